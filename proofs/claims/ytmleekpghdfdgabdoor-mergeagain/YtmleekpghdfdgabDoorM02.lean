/- Several texts in one: Repr, RdPlain, Rd, ListPlain, RdSkip. -/
import Derived.Test.YtmleekpghdfdgabDoorM01
import Derived.WalkKit
import Derived.Deep.QuietTactic
import Derived.Test.YtmleekpghdfdgabDoorRows
import Derived.WalkSpells
import Derived.BigQuiet
/- How the values of a document lie in memory; what stays of it when other memory is written: plain facts on worlds. -/
namespace Go.Proofs.YtmleekpghdfdgabDoor
open Go.RowKit
set_option linter.unusedVariables false
set_option linter.unusedSimpArgs false
def leafV : Leaf → Value
  | none => .iface 58 (.agg #[])
  | some (Sum.inl b) => .iface 60 (.bool b)
  | some (Sum.inr (Sum.inl i)) => .iface 70 (.int .i64 i)
  | some (Sum.inr (Sum.inr s)) => .iface 62 (.string ⟨s.toArray⟩)
/-- The value v stands for j in the world w, whatever is written into the blocks av, and whatever is made. -/
def St (av : Nat → Prop) (w : World) : (n : Nat) → J n → Value → Prop
  | 0, l, v => v = leafV l
  | _ + 1, Sum.inl l, v => v = leafV l
  | n + 1, Sum.inr (Sum.inl xs), v => (xs = [] ∧ v = .iface 66 (.slice none 0 0)) ∨ ∃ (g cap : Nat) (vs : List Value), v = .iface 66 (.slice (some ⟨g, 0, none⟩) xs.length cap) ∧ vs.length = xs.length ∧ xs.length ≤ cap ∧ cap ≤ maxLen ∧ ¬ av g ∧ g < w.heap.size ∧
      (∀ (i : Nat) (u : Value), vs[i]? = some u → w.cell? ⟨g, i, none⟩ = some u) ∧ ∀ (i : Nat) (x : J n) (u : Value), xs[i]? = some x → vs[i]? = some u → St av w n x u
  | n + 1, Sum.inr (Sum.inr fs), v => (fs = [] ∧ v = .iface 36 (.slice none 0 0)) ∨ ∃ (g cap : Nat) (vs : List Value), v = .iface 36 (.slice (some ⟨g, 0, none⟩) fs.length cap) ∧ vs.length = fs.length ∧ fs.length ≤ cap ∧ cap ≤ maxLen ∧ ¬ av g ∧ g < w.heap.size ∧
      (∀ (i : Nat) (f : Bs × J n) (u : Value), fs[i]? = some f → vs[i]? = some u → w.cell? ⟨g, i * 2, none⟩ = some (.string ⟨f.1.toArray⟩) ∧ w.cell? ⟨g, i * 2 + 1, none⟩ = some u) ∧ ∀ (i : Nat) (f : Bs × J n) (u : Value), fs[i]? = some f → vs[i]? = some u → St av w n f.2 u
theorem St.move {av av' : Nat → Prop} {w w1 : World} (hs : w.heap.size ≤ w1.heap.size) (hb : ∀ c, c < w.heap.size → ¬ av c → w1.heap[c]? = w.heap[c]?) (ha : ∀ c, c < w.heap.size → ¬ av c → ¬ av' c) : ∀ (n : Nat) (j : J n) (v : Value), St av w n j v → St av' w1 n j v
  | 0, _, _, h => h
  | _ + 1, Sum.inl _, _, h => h
  | n + 1, Sum.inr (Sum.inl xs), v, h => by
    rcases h with h | ⟨g, cap, vs, hv, hl, hc, hm, hg, hlt, hcell, hel⟩
    · exact Or.inl h
    refine Or.inr ⟨g, cap, vs, hv, hl, hc, hm, ha g hlt hg, by omega, fun i u hu => ?_, fun i x u hx hu => St.move hs hb ha n x u (hel i x u hx hu)⟩
    rw [World.cell?_of_block (w := w) (w' := w1) (a := ⟨g, i, none⟩) (hb g hlt hg)]
    exact hcell i u hu
  | n + 1, Sum.inr (Sum.inr fs), v, h => by
    rcases h with h | ⟨g, cap, vs, hv, hl, hc, hm, hg, hlt, hcell, hel⟩
    · exact Or.inl h
    refine Or.inr ⟨g, cap, vs, hv, hl, hc, hm, ha g hlt hg, by omega, fun i f u hf hu => ?_, fun i f u hf hu => St.move hs hb ha n f.2 u (hel i f u hf hu)⟩
    rw [World.cell?_of_block (w := w) (w' := w1) (a := ⟨g, i * 2, none⟩) (hb g hlt hg), World.cell?_of_block (w := w) (w' := w1) (a := ⟨g, i * 2 + 1, none⟩) (hb g hlt hg)]
    exact hcell i f u hf hu
theorem St.mono {av av' : Nat → Prop} {w : World} {n : Nat} {j : J n} {v : Value} (h : St av w n j v) (ha : ∀ c, c < w.heap.size → av' c → av c) : St av' w n j v :=
  St.move (Nat.le_refl _) (fun _ _ _ => rfl) (fun c hc hn e => hn (ha c hc e)) n j v h
theorem St.step {av : Nat → Prop} {w w1 : World} {n : Nat} {j : J n} {v : Value} (h : St av w n j v) (hs : w.heap.size ≤ w1.heap.size) (hb : ∀ c, c < w.heap.size → ¬ av c → w1.heap[c]? = w.heap[c]?) : St av w1 n j v :=
  St.move hs hb (fun _ _ hn => hn) n j v h
theorem St.grown {av : Nat → Prop} {w w1 : World} {n : Nat} {j : J n} {v : Value} {row : Option Nat} (h : St av w n j v) (hg : w.grownBy w1 row) (hr : ∀ k, row = some k → av k) : St av w1 n j v :=
  h.step hg.size fun c hc hn => hg.block c hc (fun e => hn (hr c e.symm))
/-- other new blocks may be written as well -/
theorem St.wide {av av' : Nat → Prop} {w : World} {n : Nat} {j : J n} {v : Value} (h : St av w n j v) (ha : ∀ c, av' c → av c ∨ w.heap.size ≤ c) : St av' w n j v :=
  h.mono (fun c hc e => by rcases ha c e with h1 | h1
                           · exact h1
                           · omega)
theorem st_leaf (av : Nat → Prop) (w : World) (n : Nat) (l : Leaf) : St av w n (leaf n l) (leafV l) := by
  cases n <;> rfl
theorem st_list {av : Nat → Prop} {w : World} {n : Nat} {xs : List (J n)} {g cap : Nat} {vs : List Value} (hl : vs.length = xs.length) (hc : xs.length ≤ cap) (hm : cap ≤ maxLen) (hg : ¬ av g) (hlt : g < w.heap.size)
    (hcell : ∀ (i : Nat) (u : Value), vs[i]? = some u → w.cell? ⟨g, i, none⟩ = some u) (hel : ∀ (i : Nat) (x : J n) (u : Value), xs[i]? = some x → vs[i]? = some u → St av w n x u) :
    St av w (n + 1) (Sum.inr (Sum.inl xs)) (.iface 66 (.slice (some ⟨g, 0, none⟩) xs.length cap)) :=
  Or.inr ⟨g, cap, vs, rfl, hl, hc, hm, hg, hlt, hcell, hel⟩
theorem st_object {av : Nat → Prop} {w : World} {n : Nat} {fs : List (Bs × J n)} {g cap : Nat} {vs : List Value} (hl : vs.length = fs.length) (hc : fs.length ≤ cap) (hm : cap ≤ maxLen) (hg : ¬ av g) (hlt : g < w.heap.size)
    (hcell : ∀ (i : Nat) (f : Bs × J n) (u : Value), fs[i]? = some f → vs[i]? = some u → w.cell? ⟨g, i * 2, none⟩ = some (.string ⟨f.1.toArray⟩) ∧ w.cell? ⟨g, i * 2 + 1, none⟩ = some u) (hel : ∀ (i : Nat) (f : Bs × J n) (u : Value), fs[i]? = some f → vs[i]? = some u → St av w n f.2 u) :
    St av w (n + 1) (Sum.inr (Sum.inr fs)) (.iface 36 (.slice (some ⟨g, 0, none⟩) fs.length cap)) :=
  Or.inr ⟨g, cap, vs, rfl, hl, hc, hm, hg, hlt, hcell, hel⟩
/-- a list in one form, whether there is memory behind it or not -/
theorem St.list {av : Nat → Prop} {w : World} {n : Nat} {xs : List (J n)} {v : Value} (h : St av w (n + 1) (Sum.inr (Sum.inl xs)) v) : ∃ (p : Option Addr) (g cap : Nat) (vs : List Value), v = .iface 66 (.slice p xs.length cap) ∧ (∀ k, k < xs.length → p = some ⟨g, 0, none⟩ ∧ ¬ av g ∧ g < w.heap.size) ∧ vs.length = xs.length ∧ xs.length ≤ cap ∧ cap ≤ maxLen ∧
      (∀ (i : Nat) (u : Value), vs[i]? = some u → w.cell? ⟨g, i, none⟩ = some u) ∧ ∀ (i : Nat) (x : J n) (u : Value), xs[i]? = some x → vs[i]? = some u → St av w n x u := by
  rcases h with ⟨rfl, rfl⟩ | ⟨g, cap, vs, hv, hl, hc, hm, hg, hlt, hcell, hel⟩
  · exact ⟨none, 0, 0, [], rfl, fun k hk => by simp at hk, rfl, Nat.le_refl _, Nat.zero_le _, fun i u hu => by simp at hu, fun i x u hx => by simp at hx⟩
  · exact ⟨_, g, cap, vs, hv, fun k hk => ⟨rfl, hg, hlt⟩, hl, hc, hm, hcell, hel⟩
theorem St.obj {av : Nat → Prop} {w : World} {n : Nat} {fs : List (Bs × J n)} {v : Value} (h : St av w (n + 1) (Sum.inr (Sum.inr fs)) v) : ∃ (p : Option Addr) (g cap : Nat) (vs : List Value), v = .iface 36 (.slice p fs.length cap) ∧ (∀ k, k < fs.length → p = some ⟨g, 0, none⟩ ∧ ¬ av g ∧ g < w.heap.size) ∧ vs.length = fs.length ∧ fs.length ≤ cap ∧ cap ≤ maxLen ∧
      (∀ (i : Nat) (f : Bs × J n) (u : Value), fs[i]? = some f → vs[i]? = some u → w.cell? ⟨g, i * 2, none⟩ = some (.string ⟨f.1.toArray⟩) ∧ w.cell? ⟨g, i * 2 + 1, none⟩ = some u) ∧ ∀ (i : Nat) (f : Bs × J n) (u : Value), fs[i]? = some f → vs[i]? = some u → St av w n f.2 u := by
  rcases h with ⟨rfl, rfl⟩ | ⟨g, cap, vs, hv, hl, hc, hm, hg, hlt, hcell, hel⟩
  · exact ⟨none, 0, 0, [], rfl, fun k hk => by simp at hk, rfl, Nat.le_refl _, Nat.zero_le _, fun i f u hf => by simp at hf, fun i f u hf => by simp at hf⟩
  · exact ⟨_, g, cap, vs, hv, fun k hk => ⟨rfl, hg, hlt⟩, hl, hc, hm, hcell, hel⟩
/-- n elements of 'size' cells each at the head of block g. -/
def Row (w : World) (e : TypeId) (size g n cap : Nat) (xs : List Value) : Prop :=
  xs.length = n * size ∧ ∃ cur, w.heap[g]? = some (.cells cur e (0, 0)) ∧ n ≤ cap ∧ cap ≤ maxLen ∧ cur.size = cap * size ∧ cur.toList.take (n * size) = xs
section
variable {w w' : World} {e : TypeId} {size g n cap : Nat} {xs : List Value}
theorem Row.owns (h : Row w e size g n cap xs) : w.ownsRow g e size (.slice (some ⟨g, 0, none⟩) n cap) n xs := by
  obtain ⟨h1, cur, h2, h3, h4, h5, h6⟩ := h
  exact ⟨h1, Or.inr ⟨g, cap, cur, rfl, Nat.le_refl _, h2, h3, h4, h5, h6⟩⟩
theorem Row.lt (h : Row w e size g n cap xs) : g < w.heap.size := by
  obtain ⟨_, cur, h2, _⟩ := h
  exact lt_of_block h2
theorem Row.caps (h : Row w e size g n cap xs) : n ≤ cap ∧ cap ≤ maxLen := by
  obtain ⟨_, cur, _, h3, h4, _⟩ := h
  exact ⟨h3, h4⟩
theorem Row.kept {row : Option Nat} (h : Row w e size g n cap xs) (hg : w.grownBy w' row) (hne : row ≠ some g) : Row w' e size g n cap xs := by
  obtain ⟨h1, cur, h2, r⟩ := h
  exact ⟨h1, cur, (hg.block g (lt_of_block h2) (fun e => hne e.symm)).trans h2, r⟩
theorem Row.of_owns {base : Nat} {v : Value} (h : w.ownsRow base e size v n xs) (hn : n ≠ 0) : ∃ g cap, v = .slice (some ⟨g, 0, none⟩) n cap ∧ base ≤ g ∧ Row w e size g n cap xs := by
  obtain ⟨h1, h2⟩ := h
  rcases h2 with ⟨_, h0⟩ | ⟨g, cap, cur, rfl, hb, hh, r⟩
  · exact absurd h0 hn
  · exact ⟨g, cap, rfl, hb, h1, cur, hh, r⟩
theorem Row.cell (h : Row w e size g n cap xs) (i : Nat) (u : Value) (hu : xs[i]? = some u) : w.cell? ⟨g, i, none⟩ = some u := by
  obtain ⟨h1, cur, h2, _, _, _, h6⟩ := h
  rw [cell_of_row _ _ _ _ _ _ h2]
  rw [← h6, List.getElem?_take] at hu
  split at hu
  · simpa using hu
  · cases hu
end
end Go.Proofs.YtmleekpghdfdgabDoor
/- What the reader's memory holds, and that other memory stays: plain facts on worlds. -/
namespace Go.Proofs.YtmleekpghdfdgabDoor
open Go.RowKit
set_option linter.unusedVariables false
set_option linter.unusedSimpArgs false
/-- The reader in block b: its text, the place of the byte that comes next, how many values have begun. -/
def Rd (b : Nat) (t : ByteArray) (p k : Nat) (w : World) : Prop := w.heap[b]? = some (.cells #[.string t, .int .i64 p, .int .i64 k] 42 (0, 0))
section
variable {b : Nat} {t : ByteArray} {p k : Nat} {w w' : World}
theorem Rd.text (h : Rd b t p k w) : w.cell? ⟨b, 0, none⟩ = some (.string t) := by rw [cell_of_row _ _ _ _ _ _ h]; rfl
theorem Rd.place (h : Rd b t p k w) : w.cell? ⟨b, 1, none⟩ = some (.int .i64 p) := by rw [cell_of_row _ _ _ _ _ _ h]; rfl
theorem Rd.many (h : Rd b t p k w) : w.cell? ⟨b, 2, none⟩ = some (.int .i64 k) := by rw [cell_of_row _ _ _ _ _ _ h]; rfl
theorem Rd.free (h : Rd b t p k w) (j : Nat) : w.frozen? ⟨b, j, none⟩ = false := frozen_of_row _ _ _ _ _ h
theorem Rd.drew (h : Rd b t p k w) : Rd b t p k w.drew := h
theorem Rd.drewN (h : Rd b t p k w) (n : Nat) : Rd b t p k (w.drewN n) := h
theorem Rd.lt (h : Rd b t p k w) : b < w.heap.size := lt_of_block h
theorem Rd.move (h : Rd b t p k w) (q : Nat) : Rd b t q k (w.setCell ⟨b, 1, none⟩ (.int .i64 q)) := by
  have := heap_setCell_same w b 1 _ _ (.int .i64 q) h
  exact this
theorem Rd.count (h : Rd b t p k w) (q : Nat) : Rd b t p q (w.setCell ⟨b, 2, none⟩ (.int .i64 q)) := by
  have := heap_setCell_same w b 2 _ _ (.int .i64 q) h
  exact this
theorem Rd.alloc (h : Rd b t p k w) (o : Obj) : Rd b t p k (w.alloc o) := by
  have := Below.heap_alloc w o b h.lt
  exact this.trans h
/-- what a change of other blocks leaves -/
theorem Rd.kept {row : Option Nat} (h : Rd b t p k w) (hg : w.grownBy w' row) (hne : some b ≠ row) : Rd b t p k w' := (hg.block b h.lt hne).trans h
end
/-- the place behind the blanks -/
def skipAt (t : ByteArray) (p : Nat) : Nat := t.size - (skip (rest t p)).length
theorem skip_len : ∀ r : Bs, (skip r).length ≤ r.length
  | [] => Nat.le_refl _
  | c :: r => by
    rw [skip]
    split
    · exact Nat.le_trans (skip_len r) (by simp)
    · exact Nat.le_refl _
theorem skip_drop : ∀ r : Bs, skip r = r.drop (r.length - (skip r).length)
  | [] => rfl
  | c :: r => by
    rw [skip]
    split
    · have := skip_len r
      have e : (c :: r).length - (skip r).length = (r.length - (skip r).length) + 1 := by simp; omega
      rw [e, List.drop_succ_cons]
      exact skip_drop r
    · simp
theorem rest_skip (t : ByteArray) (p : Nat) (hp : p ≤ t.size) : rest t (skipAt t p) = skip (rest t p) := by
  have h1 := skip_drop (rest t p)
  have h2 := skip_len (rest t p)
  rw [rest_len] at h1 h2
  conv => rhs; rw [h1]
  unfold rest skipAt
  rw [List.drop_drop]
  congr 1
  unfold rest at h2 ⊢
  omega
theorem skipAt_le (t : ByteArray) (p : Nat) : skipAt t p ≤ t.size := Nat.sub_le _ _
theorem skipAt_ge (t : ByteArray) (p : Nat) (hp : p ≤ t.size) : p ≤ skipAt t p := by
  have h2 := skip_len (rest t p)
  rw [rest_len] at h2
  unfold skipAt
  omega
theorem skipAt_step {t : ByteArray} {p : Nat} (h : blank (hd (rest t p)) = true) : skipAt t p = skipAt t (p + 1) := by
  have hlt : p < t.size := lt_of_hd (fun e => by rw [e] at h; exact absurd h (by decide))
  unfold skipAt
  rw [rest_cons hlt, skip]
  rw [hd_lt hlt] at h
  rw [if_pos h]
theorem skipAt_stop {t : ByteArray} {p : Nat} (hp : p ≤ t.size) (h : blank (hd (rest t p)) = false) : skipAt t p = p := by
  unfold skipAt
  rcases Nat.lt_or_ge p t.size with h' | h'
  · rw [hd_lt h'] at h
    have e : skip (rest t p) = rest t p := by rw [rest_cons h', skip, if_neg (by simp [h])]
    rw [e, rest_len]
    omega
  · rw [rest_nil h']
    simp [skip]
    omega
end Go.Proofs.YtmleekpghdfdgabDoor
/- Contracts of the reader's small methods over this translation: which byte comes next, going past it. -/
namespace Go.Proofs.YtmleekpghdfdgabDoor
open Go.RowKit
set_option linter.unusedVariables false
set_option linter.unusedSimpArgs false
set_option maxHeartbeats 400000 in
theorem next_any (b : Nat) (t : ByteArray) (p k : Nat) (w : World) (h : Rd b t p k w) (hp : p ≤ t.size) (ht : t.size ≤ 2000) :
    Calls Tryd.prog 26 #[.pointer (some ⟨b, 0, none⟩)] w fun e w' => e = .returned (.int .u8 (hd (rest t p)).toNat) ∧ ∃ m, w' = w.drewN m := by
  have h0 := h.text
  have h1 := h.place
  have HR : Hid (Rd b t p k w) := h
  clear h
  by_cases hlt : p < t.size
  · have hh := hd_lt hlt
    have hI : (p : Int) < (t.size : Int) := by omega
    go_enter Tryd.func26, Tryd.ntmps26
    go_wp2
    go_quiet (fail)
    go_wp2
    go_quiet (fail)
    go_wp2
    go_ret
    exact ⟨by rw [hh]; rfl, _, drewN_two _ _ _⟩
  · have hh := hd_end (Nat.le_of_not_lt hlt)
    have hI : ¬ (p : Int) < (t.size : Int) := by omega
    go_enter Tryd.func26, Tryd.ntmps26
    go_wp2
    go_quiet (fail)
    go_wp2
    go_ret
    exact ⟨by rw [hh]; rfl, _, rfl⟩
theorem next_g (b : Nat) (t : ByteArray) (p k : Nat) (w : World) (h : Rd b t p k w) (hp : p ≤ t.size) (ht : t.size ≤ 2000) :
    Calls Tryd.prog 26 #[.pointer (some ⟨b, 0, none⟩)] w fun e w' => e = .returned (.int .u8 (hd (rest t p)).toNat) ∧ G b w w' ∧ Rd b t p k w' := by
  refine (next_any b t p k w h hp ht).mono ?_
  rintro e w1 ⟨rfl, m, rfl⟩
  exact ⟨rfl, (G.refl b w).drewN m, h.drewN m⟩
theorem bool_ne {c d : UInt8} (h : c ≠ d) : ((c.toNat : Int) != (d.toNat : Int)) = true := by
  rw [bne_iff_ne]
  intro e
  exact h (UInt8.toNat_inj.1 (by omega))
theorem bool_eq {c d : UInt8} (h : c = d) : ((c.toNat : Int) != (d.toNat : Int)) = false := by
  subst h
  simp
set_option maxHeartbeats 400000 in
theorem take_no (b : Nat) (t : ByteArray) (p k : Nat) (c : UInt8) (w : World) (h : Rd b t p k w) (hp : p ≤ t.size) (ht : t.size ≤ 2000) (hc : hd (rest t p) ≠ c) :
    Calls Tryd.prog 32 #[.pointer (some ⟨b, 0, none⟩), .int .u8 c.toNat] w fun e w' => e = .returned (.bool false) ∧ G b w w' ∧ Rd b t p k w' := by
  have hb := bool_ne hc
  have HR : Hid (Rd b t p k w) := h
  clear h
  go_enter Tryd.func32, Tryd.ntmps32
  go_wp2_with fail
  refine (next_any b t p k _ HR.out hp ht).mono ?_
  rintro e w1 ⟨rfl, m, rfl⟩
  go_wp2_with fail
  go_ret
  exact ⟨rfl, (G.refl b w).drewN m, HR.out.drewN m⟩
set_option maxHeartbeats 400000 in
theorem take_yes (b : Nat) (t : ByteArray) (p k : Nat) (c : UInt8) (w : World) (h : Rd b t p k w) (ht : t.size ≤ 2000) (hlt : p < t.size) (hc : hd (rest t p) = c) :
    Calls Tryd.prog 32 #[.pointer (some ⟨b, 0, none⟩), .int .u8 c.toNat] w fun e w' => e = .returned (.bool true) ∧ G b w w' ∧ Rd b t (p + 1) k w' := by
  have hb := bool_eq hc
  have h1 := fun m => (h.drewN m).place
  have h2 := fun m => (h.drewN m).free 1
  have HR : Hid (Rd b t p k w) := h
  have HC : Hid (hd (rest t p) = c) := hc
  clear h hc
  go_enter Tryd.func32, Tryd.ntmps32
  go_wp2_with fail
  refine (next_any b t p k _ HR.out (by omega) ht).mono ?_
  rintro e w1 ⟨rfl, m, rfl⟩
  have h1 := h1 m
  have h2 := h2 m
  have HR : Hid (Rd b t p k (w.drewN m)) := HR.out.drewN m
  have HG : Hid (G b w (w.drewN m)) := (G.refl b w).drewN m
  generalize w.drewN m = w1 at *
  go_wp2_with fail
  go_ret
  exact ⟨rfl, HG.out.setCell 1 _, HR.out.move (p + 1)⟩
end Go.Proofs.YtmleekpghdfdgabDoor
/- A list while it is read: where its parts lie in memory, and that it goes on: plain facts on worlds. -/
namespace Go.Proofs.YtmleekpghdfdgabDoor
open Go.RowKit
set_option linter.unusedVariables false
set_option linter.unusedSimpArgs false
/-- What is known behind a call that reads a value. -/
def ValPost (b : Nat) (t : ByteArray) (p k n : Nat) (w : World) (e : Ending) (w' : World) : Prop :=
  G b w w' ∧ ((∃ (er : Nat) (v : Value), value n k (rest t p) = .error er ∧ er ≠ 0 ∧ er < 100 ∧ e = .returned (.tuple #[v, .int .i64 er]) ∧ (v = .nilIface ∨ ∃ T x, v = .iface T x)) ∨
    ∃ (j : J n) (k' q : Nat) (v : Value), value n k (rest t p) = .ok (j, k', rest t q) ∧ p < q ∧ q ≤ t.size ∧ k < k' ∧ k' ≤ 200 ∧ e = .returned (.tuple #[v, .int .i64 0]) ∧ (∃ T x, v = .iface T x) ∧ Rd b t q k' w' ∧ St (fun c => c < w.heap.size) w' n j v)
def ValueOK (n : Nat) : Prop := ∀ (b : Nat) (t : ByteArray) (p k : Nat) (d : Int) (w : World), Rd b t p k w → p ≤ t.size → t.size ≤ 2000 → k ≤ 200 → d + n = 10 → 0 ≤ d →
  Calls Tryd.prog 18 #[.pointer (some ⟨b, 0, none⟩), .int .i64 d] w (ValPost b t p k n w)
/-- what a list's boxes hold: the reader, how deep it lies, what has been gathered -/
structure LBox (b : Nat) (d : Int) (c0 c1 c2 : Nat) (w : World) (sl : Value) : Prop where
  h0 : w.heap[c0]? = some (.cells #[.pointer (some ⟨b, 0, none⟩)] 54 (0, 0))
  h1 : w.heap[c1]? = some (.cells #[.int .i64 d] 3 (0, 0))
  h2 : w.heap[c2]? = some (.cells #[sl] 66 (0, 0))
def LInv (b : Nat) (d : Int) (c0 c1 c2 N0 N1 n : Nat) (s : List (J n)) (k : Nat) (w : World) : Prop :=
  s.length ≤ k ∧ ∃ (g cap : Nat) (vs : List Value), LBox b d c0 c1 c2 w (.slice (some ⟨g, 0, none⟩) s.length cap) ∧ Row w 31 1 g s.length cap vs ∧ N0 ≤ g ∧ g ≠ c0 ∧ g ≠ c1 ∧ g ≠ c2 ∧
    ∀ (i : Nat) (x : J n) (u : Value), s[i]? = some x → vs[i]? = some u → St (fun c => c < N1 ∨ c = g) w n x u
def LErr (c2 : Nat) (w : World) : Prop := ∃ a m cap, w.heap[c2]? = some (.cells #[.slice a m cap] 66 (0, 0))
theorem LInv.err {b : Nat} {d : Int} {c0 c1 c2 N0 N1 n : Nat} {s : List (J n)} {k : Nat} {w : World} (h : LInv b d c0 c1 c2 N0 N1 n s k w) : LErr c2 w := by
  obtain ⟨_, g, cap, vs, hb, _⟩ := h
  exact ⟨_, _, _, hb.h2⟩
theorem LBox.kept {b : Nat} {d : Int} {c0 c1 c2 : Nat} {w w' : World} {sl : Value} {row : Option Nat} (h : LBox b d c0 c1 c2 w sl) (g : w.grownBy w' row) (e0 : row ≠ some c0) (e1 : row ≠ some c1) (e2 : row ≠ some c2) : LBox b d c0 c1 c2 w' sl :=
  ⟨(g.block c0 (lt_of_block h.h0) (fun e => e0 e.symm)).trans h.h0, (g.block c1 (lt_of_block h.h1) (fun e => e1 e.symm)).trans h.h1, (g.block c2 (lt_of_block h.h2) (fun e => e2 e.symm)).trans h.h2⟩
theorem LInv.kept {b : Nat} {d : Int} {c0 c1 c2 N0 N1 n : Nat} {s : List (J n)} {k : Nat} {w w' : World} (h : LInv b d c0 c1 c2 N0 N1 n s k w) (g : G b w w') (hb : b < N0) (h0 : N0 ≤ c0) (h1 : N0 ≤ c1) (h2 : N0 ≤ c2) (hN : N0 ≤ N1)   : LInv b d c0 c1 c2 N0 N1 n s k w' := by
  obtain ⟨hk, gg, cap, vs, hx, hr, hg, e0, e1, e2, hel⟩ := h
  refine ⟨hk, gg, cap, vs, hx.kept g (fun e => by cases e; omega) (fun e => by cases e; omega) (fun e => by cases e; omega), hr.kept g (fun e => by cases e; omega), hg, e0, e1, e2, fun i x u hx hu => ?_⟩
  exact (hel i x u hx hu).grown g (fun k e => by cases e; exact Or.inl (by omega))
theorem Row.of_slice {w : World} {base e size g n cap : Nat} {xs : List Value} (h : w.ownsRow base e size (.slice (some ⟨g, 0, none⟩) n cap) n xs) : Row w e size g n cap xs := by
  obtain ⟨h1, h2⟩ := h
  rcases h2 with ⟨h0, _⟩ | ⟨g', cap', cur, hv, hb, hh, r⟩
  · cases h0
  · cases hv
    exact ⟨h1, cur, hh, r⟩
theorem heap_setCell_size (w : World) (a : Addr) (v : Value) : (w.setCell a v).heap.size = w.heap.size := by simp [World.setCell]
theorem grownBy_setCell (w : World) (c o : Nat) (v : Value) : w.grownBy (w.setCell ⟨c, o, none⟩ v) (some c) :=
  ⟨rfl, rfl, rfl, by rw [heap_setCell_size]; exact Nat.le_refl _, fun k _ hb => heap_setCell_other _ _ _ _ (fun e => hb (by rw [e]))⟩
theorem G.setNew {b c o : Nat} {w0 w : World} (h : G b w0 w) (hc : w0.heap.size ≤ c) (v : Value) : G b w0 (w.setCell ⟨c, o, none⟩ v) :=
  h.grown (grownBy_setCell w c o v) (fun k e => by cases e; exact hc)
theorem snoc_get {α : Type} {s : List α} {x y : α} {i : Nat} (h : (s ++ [x])[i]? = some y) : (i < s.length ∧ s[i]? = some y) ∨ (i = s.length ∧ x = y) := by
  rcases Nat.lt_trichotomy i s.length with h' | h' | h'
  · rw [List.getElem?_append_left h'] at h
    exact Or.inl ⟨h', h⟩
  · subst h'
    rw [List.getElem?_append_right (Nat.le_refl _)] at h
    simp at h
    exact Or.inr ⟨rfl, h⟩
  · rw [List.getElem?_append_right (by omega)] at h
    rw [List.getElem?_eq_none (by simp; omega)] at h
    cases h
/-- one value more -/
theorem linv_step {b : Nat} {d : Int} {c0 c1 c2 N0 N1 n g cap g' cap' k' : Nat} {s : List (J n)} {j : J n} {v : Value} {vs : List Value} {w w1 w2 : World} {o : Obj} {row : Option Nat}
    (hx : LBox b d c0 c1 c2 w (.slice (some ⟨g, 0, none⟩) s.length cap)) (hr : Row w 31 1 g s.length cap vs) (hg : N0 ≤ g) (e0 : g ≠ c0) (e1 : g ≠ c1) (e2 : g ≠ c2)
    (hel : ∀ (i : Nat) (x : J n) (u : Value), s[i]? = some x → vs[i]? = some u → St (fun c => c < N1 ∨ c = g) w n x u)
    (hb : b < N0) (k0 : N0 ≤ c0) (k1 : N0 ≤ c1) (k2 : N0 ≤ c2) (l2 : c2 < N1) (l0 : c0 < N1) (l1 : c1 < N1) (n01 : c0 ≠ c2) (n12 : c1 ≠ c2) (hN : N0 ≤ N1) (hNw : N1 ≤ w.heap.size)
    (hG : G b w w1) (hst : St (fun c => c < w.heap.size) w1 n j v) (happ : (w1.alloc o).grownBy w2 row)
    (hrow : Row w2 31 1 g' (s.length + 1) cap' (vs ++ [v])) (hg' : (row = some g ∧ g' = g) ∨ (row = none ∧ w1.heap.size < g')) (hk' : s.length < k') :
    LInv b d c0 c1 c2 N0 N1 n (s ++ [j]) k' (w2.setCell ⟨c2, 0, none⟩ (.slice (some ⟨g', 0, none⟩) (s.length + 1) cap')) := by
  have hgw : g < w.heap.size := hr.lt
  have hsz := hG.size
  have hA : (w1.alloc o).heap.size = w1.heap.size + 1 := by simp
  have hg2 : N0 ≤ g' ∧ g' ≠ c0 ∧ g' ≠ c1 ∧ g' ≠ c2 := by
    rcases hg' with ⟨_, rfl⟩ | ⟨_, h⟩
    · exact ⟨hg, e0, e1, e2⟩
    · have a0 := lt_of_block hx.h0
      have a1 := lt_of_block hx.h1
      have a2 := lt_of_block hx.h2
      omega
  have hx2 : LBox b d c0 c1 c2 w2 (.slice (some ⟨g, 0, none⟩) s.length cap) := by
    have h1 := hx.kept hG (fun e => by cases e; omega) (fun e => by cases e; omega) (fun e => by cases e; omega)
    have h2 := h1.kept (World.grownBy_alloc w1 o none) (fun e => by cases e) (fun e => by cases e) (fun e => by cases e)
    refine h2.kept happ ?_ ?_ ?_
    all_goals (rcases hg' with ⟨rfl, _⟩ | ⟨rfl, _⟩)
    all_goals (intro e; cases e; try contradiction)
  have hrow_av : ∀ k, row = some k → (k < N1 ∨ k = g ∨ k = g') := by
    rcases hg' with ⟨rfl, _⟩ | ⟨rfl, _⟩
    · intro k e; cases e; exact Or.inr (Or.inl rfl)
    · intro k e; cases e
  have hset : ∀ {x : J n} {u : Value}, St (fun c => c < N1 ∨ c = g ∨ c = g') (w1.alloc o) n x u → St (fun c => c < N1 ∨ c = g') (w2.setCell ⟨c2, 0, none⟩ (.slice (some ⟨g', 0, none⟩) (s.length + 1) cap')) n x u := by
    intro x u h
    have h1 := h.grown happ hrow_av
    have h2 := h1.mono (av' := fun c => c < N1 ∨ c = g') (fun c _ e => by rcases e with e | e
                                                                          · exact Or.inl e
                                                                          · exact Or.inr (Or.inr e))
    exact h2.grown (grownBy_setCell w2 c2 0 _) (fun k e => by cases e; exact Or.inl l2)
  refine ⟨by simp; omega, g', cap', vs ++ [v], ?_, ?_, hg2.1, hg2.2.1, hg2.2.2.1, hg2.2.2.2, ?_⟩
  · have hs : (s ++ [j]).length = s.length + 1 := by simp
    rw [hs]
    exact ⟨(heap_setCell_other _ _ _ _ n01).trans hx2.h0, (heap_setCell_other _ _ _ _ n12).trans hx2.h1, one_setCell hx2.h2⟩
  · have hs : (s ++ [j]).length = s.length + 1 := by simp
    rw [hs]
    exact hrow.kept (grownBy_setCell w2 c2 0 _) (fun e => by cases e; exact hg2.2.2.2 rfl)
  · intro i x u hxi hui
    have hvl : vs.length = s.length := by have := hr.1; omega
    rcases snoc_get hxi with ⟨hi, hxi⟩ | ⟨hi, rfl⟩
    · rcases snoc_get hui with ⟨_, hui⟩ | ⟨hi2, _⟩
      · refine hset ?_
        have h1 := (hel i x u hxi hui).grown hG (fun k e => by cases e; exact Or.inl (by omega))
        have h2 := h1.grown (World.grownBy_alloc w1 o none) (fun k e => by cases e)
        exact h2.wide (fun c e => by
          rcases e with e | e | e
          · exact Or.inl (Or.inl e)
          · exact Or.inl (Or.inr e)
          · rcases hg' with ⟨_, h⟩ | ⟨_, h⟩
            · exact Or.inl (Or.inr (by omega))
            · exact Or.inr (by omega))
      · omega
    · rcases snoc_get hui with ⟨hi2, _⟩ | ⟨_, rfl⟩
      · omega
      · refine hset ?_
        have h2 := hst.grown (World.grownBy_alloc w1 o none) (fun k e => by cases e)
        exact h2.wide (fun c e => by
          rcases e with e | e | e
          · exact Or.inl (by omega)
          · exact Or.inl (by omega)
          · rcases hg' with ⟨_, h⟩ | ⟨_, h⟩
            · exact Or.inl (by omega)
            · exact Or.inr (by omega))
end Go.Proofs.YtmleekpghdfdgabDoor
/- Contracts of the reader's methods over this translation: blanks, signs behind blanks. -/
namespace Go.Proofs.YtmleekpghdfdgabDoor
open Go.RowKit
set_option linter.unusedVariables false
set_option linter.unusedSimpArgs false
def placeOf (b : Nat) (w : World) : Nat := (intOf ((w.cell? ⟨b, 1, none⟩).getD undef)).toNat
theorem Rd.placeOf_eq {b : Nat} {t : ByteArray} {p k : Nat} {w : World} (h : Rd b t p k w) : placeOf b w = p := by
  unfold placeOf
  rw [h.place]
  simp [intOf]
set_option maxHeartbeats 1000000 in
theorem skipBlanks_any (b : Nat) (t : ByteArray) (p k : Nat) (w : World) (h : Rd b t p k w) (hp : p ≤ t.size) (ht : t.size ≤ 2000) :
    Calls Tryd.prog 19 #[.pointer (some ⟨b, 0, none⟩)] w fun e w' => e = .returned (.tuple #[]) ∧ G b w w' ∧ Rd b t (skipAt t p) k w' := by
  have HR : Hid (Rd b t p k w) := h
  clear h
  go_enter Tryd.func19, Tryd.ntmps19
  go_wp2_with fail
  go_loopw [2] (fun _ wr => ∃ q, q ≤ t.size ∧ skipAt t q = skipAt t p ∧ Rd b t q k wr ∧ G b w wr) (fun _ wr => t.size - placeOf b wr)
  case atStart => exact ⟨p, hp, rfl, HR.out, G.refl _ _⟩
  case round =>
    obtain ⟨q, hq, hs, hR, hG⟩ := hrel
    have HS : Hid (skipAt t q = skipAt t p) := hs
    have HR : Hid (Rd b t q k wr) := hR
    have HG : Hid (G b w wr) := hG
    clear hs hR hG
    by_cases h32 : hd (rest t q) = 32
    · have hlt : q < t.size := lt_of_hd (by rw [h32]; decide)
      have H32 : Hid (hd (rest t q) = 32) := h32
      clear h32
      go_wp2_with fail
      refine (take_yes b t q k 32 _ HR.out ht hlt H32.out).mono ?_
      rintro e w1 ⟨rfl, g1, r1⟩
      have HG1 : Hid (G b w w1) := HG.out.trans g1
      have HR1 : Hid (Rd b t (q + 1) k w1) := r1
      clear g1 r1
      go_wp2_with fail
      go_roundw
      case rel => exact ⟨q + 1, by omega, by rw [← HS.out, skipAt_step (p := q) (by rw [H32.out]; decide)], HR1.out, HG1.out⟩
      case measure => rw [HR1.out.placeOf_eq, HR.out.placeOf_eq]; omega
    have HN32 : Hid (hd (rest t q) ≠ 32) := h32
    clear h32
    by_cases h10 : hd (rest t q) = 10
    · have hlt : q < t.size := lt_of_hd (by rw [h10]; decide)
      have H10 : Hid (hd (rest t q) = 10) := h10
      clear h10
      go_wp2_with fail
      refine (take_no b t q k 32 _ HR.out hq ht HN32.out).mono ?_
      rintro e w1 ⟨rfl, g1, r1⟩
      have HG1 : Hid (G b w w1) := HG.out.trans g1
      have HR1 : Hid (Rd b t q k w1) := r1
      clear g1 r1
      go_wp2_with fail
      refine (take_yes b t q k 10 _ HR1.out ht hlt H10.out).mono ?_
      rintro e w2 ⟨rfl, g1, r1⟩
      have HG2 : Hid (G b w w2) := HG1.out.trans g1
      have HR2 : Hid (Rd b t (q + 1) k w2) := r1
      clear g1 r1
      go_wp2_with fail
      go_roundw
      case rel => exact ⟨q + 1, by omega, by rw [← HS.out, skipAt_step (p := q) (by rw [H10.out]; decide)], HR2.out, HG2.out⟩
      case measure => rw [HR2.out.placeOf_eq, HR.out.placeOf_eq]; omega
    have HN10 : Hid (hd (rest t q) ≠ 10) := h10
    clear h10
    by_cases h9 : hd (rest t q) = 9
    · have hlt : q < t.size := lt_of_hd (by rw [h9]; decide)
      have H9 : Hid (hd (rest t q) = 9) := h9
      clear h9
      go_wp2_with fail
      refine (take_no b t q k 32 _ HR.out hq ht HN32.out).mono ?_
      rintro e w1 ⟨rfl, g1, r1⟩
      have HG1 : Hid (G b w w1) := HG.out.trans g1
      have HR1 : Hid (Rd b t q k w1) := r1
      clear g1 r1
      go_wp2_with fail
      refine (take_no b t q k 10 _ HR1.out hq ht HN10.out).mono ?_
      rintro e w2 ⟨rfl, g1, r1⟩
      have HG2 : Hid (G b w w2) := HG1.out.trans g1
      have HR2 : Hid (Rd b t q k w2) := r1
      clear g1 r1
      go_wp2_with fail
      refine (take_yes b t q k 9 _ HR2.out ht hlt H9.out).mono ?_
      rintro e w3 ⟨rfl, g1, r1⟩
      have HG3 : Hid (G b w w3) := HG2.out.trans g1
      have HR3 : Hid (Rd b t (q + 1) k w3) := r1
      clear g1 r1
      go_wp2_with fail
      go_roundw
      case rel => exact ⟨q + 1, by omega, by rw [← HS.out, skipAt_step (p := q) (by rw [H9.out]; decide)], HR3.out, HG3.out⟩
      case measure => rw [HR3.out.placeOf_eq, HR.out.placeOf_eq]; omega
    have HN9 : Hid (hd (rest t q) ≠ 9) := h9
    clear h9
    go_wp2_with fail
    refine (take_no b t q k 32 _ HR.out hq ht HN32.out).mono ?_
    rintro e w1 ⟨rfl, g1, r1⟩
    have HG1 : Hid (G b w w1) := HG.out.trans g1
    have HR1 : Hid (Rd b t q k w1) := r1
    clear g1 r1
    go_wp2_with fail
    refine (take_no b t q k 10 _ HR1.out hq ht HN10.out).mono ?_
    rintro e w2 ⟨rfl, g1, r1⟩
    have HG2 : Hid (G b w w2) := HG1.out.trans g1
    have HR2 : Hid (Rd b t q k w2) := r1
    clear g1 r1
    go_wp2_with fail
    refine (take_no b t q k 9 _ HR2.out hq ht HN9.out).mono ?_
    rintro e w3 ⟨rfl, g1, r1⟩
    have HG3 : Hid (G b w w3) := HG2.out.trans g1
    have HR3 : Hid (Rd b t q k w3) := r1
    clear g1 r1
    go_wp2_with fail
    go_end0
    exact ⟨rfl, HG3.out, by
      rw [← HS.out, skipAt_stop hq (by have h1 := HN32.out; have h2 := HN10.out; have h3 := HN9.out; simp [blank, h1, h2, h3])]
      exact HR3.out⟩
set_option maxHeartbeats 400000 in
theorem takeSign_no (b : Nat) (t : ByteArray) (p k : Nat) (c : UInt8) (w : World) (h : Rd b t p k w) (hp : p ≤ t.size) (ht : t.size ≤ 2000) (hc : hd (skip (rest t p)) ≠ c) :
    Calls Tryd.prog 54 #[.pointer (some ⟨b, 0, none⟩), .int .u8 c.toNat] w fun e w' => e = .returned (.bool false) ∧ G b w w' ∧ Rd b t (skipAt t p) k w' := by
  have HR : Hid (Rd b t p k w) := h
  have HC : Hid (hd (skip (rest t p)) ≠ c) := hc
  clear h hc
  go_enter Tryd.func54, Tryd.ntmps54
  go_wp2_with fail
  refine (skipBlanks_any b t p k _ HR.out hp ht).mono ?_
  rintro e w1 ⟨rfl, g1, r1⟩
  have HG1 : Hid (G b w w1) := g1
  have HR1 : Hid (Rd b t (skipAt t p) k w1) := r1
  clear g1 r1
  go_wp2_with fail
  refine (take_no b t (skipAt t p) k c _ HR1.out (skipAt_le t p) ht (by rw [rest_skip t p hp]; exact HC.out)).mono ?_
  rintro e w2 ⟨rfl, g1, r1⟩
  have HG2 : Hid (G b w w2) := HG1.out.trans g1
  have HR2 : Hid (Rd b t (skipAt t p) k w2) := r1
  clear g1 r1
  go_wp2_with fail
  go_ret
  exact ⟨rfl, HG2.out, HR2.out⟩
set_option maxHeartbeats 400000 in
theorem takeSign_yes (b : Nat) (t : ByteArray) (p k : Nat) (c : UInt8) (w : World) (h : Rd b t p k w) (hp : p ≤ t.size) (ht : t.size ≤ 2000) (hc : hd (skip (rest t p)) = c) (h0 : c ≠ 0) :
    Calls Tryd.prog 54 #[.pointer (some ⟨b, 0, none⟩), .int .u8 c.toNat] w fun e w' => e = .returned (.bool true) ∧ G b w w' ∧ Rd b t (skipAt t p + 1) k w' := by
  have HR : Hid (Rd b t p k w) := h
  have HC : Hid (hd (skip (rest t p)) = c) := hc
  clear h hc
  go_enter Tryd.func54, Tryd.ntmps54
  go_wp2_with fail
  refine (skipBlanks_any b t p k _ HR.out hp ht).mono ?_
  rintro e w1 ⟨rfl, g1, r1⟩
  have HG1 : Hid (G b w w1) := g1
  have HR1 : Hid (Rd b t (skipAt t p) k w1) := r1
  clear g1 r1
  go_wp2_with fail
  refine (take_yes b t (skipAt t p) k c _ HR1.out ht (lt_of_hd (by rw [rest_skip t p hp, HC.out]; exact h0)) (by rw [rest_skip t p hp]; exact HC.out)).mono ?_
  rintro e w2 ⟨rfl, g1, r1⟩
  have HG2 : Hid (G b w w2) := HG1.out.trans g1
  have HR2 : Hid (Rd b t (skipAt t p + 1) k w2) := r1
  clear g1 r1
  go_wp2_with fail
  go_ret
  exact ⟨rfl, HG2.out, HR2.out⟩
end Go.Proofs.YtmleekpghdfdgabDoor
