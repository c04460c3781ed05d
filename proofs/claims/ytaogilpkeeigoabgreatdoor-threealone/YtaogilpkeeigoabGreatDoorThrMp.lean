/- Contract over this translation: what the three make at one place. -/
import Derived.Test.YtaogilpkeeigoabGreatDoorThrUnder
import Derived.Test.YtaogilpkeeigoabGreatDoorThrNw
import Derived.Test.YtaogilpkeeigoabGreatDoorThrPlain
import Derived.Test.YtaogilpkeeigoabGreatDoorConcatS
import Derived.Test.YtaogilpkeeigoabGreatDoorRfOrd
import Derived.Deep.Cut
namespace Go.Proofs.YtaogilpkeeigoabGreatDoor
open Go.RowKit
set_option linter.unusedVariables false
set_option linter.unusedSimpArgs false
/-- a way that may be gone on -/
def WayOK (n : Nat) (w : World) (v : Value) : Prop := ∃ l : List Bs, PartS w v l.length (l.map fun s => .string ⟨s.toArray⟩) ∧ l.length + n ≤ 2000
theorem WayOK.below {n : Nat} {w w' : World} {v : Value} (h : WayOK n w v) (b : Below w.heap.size w w') : WayOK n w' v := by
  obtain ⟨l, h1, h2⟩ := h
  exact ⟨l, h1.below b, h2⟩
theorem WayOK.put3 {n : Nat} {w : World} {v : Value} (h : WayOK n w v) {g : Nat} (hx : Box3 w g .nilIface .nilIface .nilIface) (a b c : Value) : WayOK n (put3 w g a b c) v := by
  obtain ⟨l, ⟨h1, h2, h3⟩, h4⟩ := h
  refine ⟨l, ⟨h1, h2, ?_⟩, h4⟩
  have hg := put3_grown w g a b c
  rcases h3 with h3 | ⟨g', o, cc, h3, h5, h6⟩
  · exact Or.inl h3
  · refine Or.inr ⟨g', o, cc, h3, fun hm => Nat.lt_of_lt_of_le (h5 hm) hg.size, fun j u hj => ?_⟩
    have h7 := h6 j u hj
    by_cases e : g' = g
    · subst e
      rw [cell_of_row _ _ _ _ _ _ hx] at h7
      have hs : ∃ s, u = .string s := by
        rw [List.getElem?_map] at hj
        obtain ⟨s, _, rfl⟩ := Option.map_eq_some_iff.1 hj
        exact ⟨_, rfl⟩
      obtain ⟨s, rfl⟩ := hs
      match hk : o + j with
      | 0 => rw [hk] at h7; cases h7
      | 1 => rw [hk] at h7; cases h7
      | 2 => rw [hk] at h7; cases h7
      | k + 3 => rw [hk] at h7; simp at h7
    · have hlt : g' < w.heap.size := h5 (by
        have := (List.getElem?_eq_some_iff.1 hj).1
        rw [List.length_map] at this
        omega)
      rw [World.cell?_of_block (w := w) (a := ⟨g', o + j, none⟩) (hg.block g' hlt (fun e2 => e (Option.some.inj e2)))]
      exact h7
theorem cat_any (n : Nat) (way : Value) (nb : ByteArray) (w0 : World) (hway : WayOK (n + 1) w0 way) (W : World) (gg A : Nat) (hb : Below w0.heap.size w0 W) (h1 : W.heap[gg]? = some (.cells #[way, .slice (some ⟨A, 0, none⟩) 1 1] 34 (0, 0))) (h2 : W.heap[A]? = some (.cells #[.string nb] 9 (0, 0))) :
    Calls Tryz.prog 70 #[.slice (some ⟨gg, 0, none⟩) 2 2] W fun e w' => ∃ p k c, e = .returned (.slice p k c) ∧ WayOK n w' (.slice p k c) ∧ Below W.heap.size W w' := by
  obtain ⟨l, hp, hl⟩ := hway
  have hq : PartS W (.slice (some ⟨A, 0, none⟩) 1 1) 1 [.string nb] := ⟨rfl, one_of rfl, Or.inr ⟨A, 0, 1, rfl, fun _ => lt_of_block h2, fun j u hj => by
    rw [cell_of_row _ _ _ _ _ _ h2, Nat.zero_add]
    match j, hj with
    | 0, hj => simp at hj; subst hj; rfl⟩⟩
  refine (concatS_any [(way, l.length, l.map fun s => .string ⟨s.toArray⟩), (.slice (some ⟨A, 0, none⟩) 1 1, 1, [.string nb])] gg 2 W (by simp) (by simp) (by unfold maxLen; omega) (lt_of_block h1) (two_cells h1 _ _ _ _) (fun p hp' => by
      simp only [List.mem_cons, List.not_mem_nil, or_false] at hp'
      rcases hp' with rfl | rfl
      · exact hp.below hb
      · exact hq) (by simp [manyS]; omega)).mono ?_
  rintro e w' ⟨v, rfl, hown, b⟩
  have e1 : manyS [(way, l.length, l.map fun s => Value.string ⟨s.toArray⟩), (.slice (some ⟨A, 0, none⟩) 1 1, 1, [.string nb])] = (l ++ [nb.data.toList]).length := by simp [manyS]
  have e2 : allS [(way, l.length, l.map fun s => Value.string ⟨s.toArray⟩), (.slice (some ⟨A, 0, none⟩) 1 1, 1, [.string nb])] = (l ++ [nb.data.toList]).map fun s => .string ⟨s.toArray⟩ := by simp [allS]
  rw [e1, e2] at hown
  obtain ⟨g1, ⟨rfl, h0⟩ | ⟨g, cap, cur, rfl, hB, hg, hc, hm, hs, ht⟩⟩ := hown
  · exact absurd h0 (by simp)
  · refine ⟨_, _, _, rfl, ⟨l ++ [nb.data.toList], ⟨by simp, fun u hu => ?_, Or.inr ⟨g, 0, cap, rfl, fun _ => lt_of_block hg, fun j u hj => ?_⟩⟩, by simp; omega⟩, b⟩
    · obtain ⟨s, _, rfl⟩ := List.mem_map.1 hu
      rfl
    · rw [cell_of_row _ _ _ _ _ _ hg, Nat.zero_add]
      rw [← ht, List.getElem?_take] at hj
      split at hj
      · rw [Array.getElem?_toList] at hj; exact hj
      · cases hj
/-- a value that may be looked through -/
def OkT (n : Nat) (j : J n) : Prop := Good n j ∧ nodes n j ≤ 2000
def OkTO (n : Nat) (o : Option (J n)) : Prop := ∀ x, o = some x → OkT n x
theorem sum_mem {α : Type} (f : α → Nat) : ∀ (l : List α) (x : α), x ∈ l → f x ≤ (l.map f).sum
  | y :: l, x, h => by
    rw [List.map_cons, List.sum_cons]
    rcases List.mem_cons.1 h with rfl | h
    · omega
    · have := sum_mem f l x h; omega
theorem sum_len {α : Type} (f : α → Nat) (hf : ∀ x, 1 ≤ f x) : ∀ l : List α, l.length ≤ (l.map f).sum
  | [] => Nat.zero_le _
  | y :: l => by
    have := sum_len f hf l
    have := hf y
    rw [List.map_cons, List.sum_cons, List.length_cons]
    omega
theorem okT_fields {n : Nat} {d : Option (J (n + 1))} (h : OkTO (n + 1) d) : Rising (fieldsP d) ∧ (fieldsP d).length ≤ 2000 ∧ ∀ f ∈ fieldsP d, OkT n f.2 := by
  match d, h with
  | none, _ => exact ⟨List.Pairwise.nil, Nat.zero_le _, fun f hf => by cases hf⟩
  | some (Sum.inl _), _ => exact ⟨List.Pairwise.nil, Nat.zero_le _, fun f hf => by cases hf⟩
  | some (Sum.inr (Sum.inl _)), _ => exact ⟨List.Pairwise.nil, Nat.zero_le _, fun f hf => by cases hf⟩
  | some (Sum.inr (Sum.inr fs)), h =>
    obtain ⟨h1, h2⟩ := h _ rfl
    have h3 : 1 + (fs.map fun f => nodes n f.2).sum ≤ 2000 := h2
    refine ⟨h1.1, ?_, fun f hf => ⟨(h1.2 f hf).2, ?_⟩⟩
    · have := sum_len (fun f : Bs × J n => nodes n f.2) (fun x => nodes_pos n x.2) fs
      show fs.length ≤ 2000
      omega
    · have := sum_mem (fun f : Bs × J n => nodes n f.2) fs f hf
      omega
theorem okT_look {n : Nat} {d : Option (J (n + 1))} (h : OkTO (n + 1) d) (s : Bs) : OkTO n (look (fieldsP d) s) := fun x hx => (okT_fields h).2.2 _ (look_mem hx)
/-- what is known ahead of each round -/
structure TInv (av : Nat → Prop) (n : Nat) (w0 wr : World) (Bp : Nat) (va vb vc : Value) (pl : Option Addr) (L : List Bs) (G : Bs → Option (J n)) (k : Nat) (acc : List (Bs × J n)) (g cap : Nat) (us : List Value) : Prop where
  box : Box3 wr Bp va vb vc
  bne : Bp ≠ g
  nms : ∀ (i : Nat) (s : Bs), L[i]? = some s → ∃ gl, pl = some ⟨gl, 0, none⟩ ∧ gl ≠ g ∧ gl < wr.heap.size ∧ wr.cell? ⟨gl, i, none⟩ = some (.string ⟨s.toArray⟩)
  row : Row wr 83 2 g acc.length cap (flat acc us)
  len : us.length = acc.length
  els : ∀ (i : Nat) (f : Bs × J n) (u : Value), acc[i]? = some f → us[i]? = some u → St (fun c => av c ∨ c = g) wr n f.2 u
  new : w0.heap.size ≤ g
  bel : Below w0.heap.size w0 wr
  many : acc.length ≤ k
  eq : acc = pickF (L.take k) G
theorem TInv.pass {av : Nat → Prop} {n : Nat} {w0 wr w1 : World} {Bp : Nat} {va vb vc : Value} {pl : Option Addr} {L : List Bs} {G : Bs → Option (J n)} {k : Nat} {acc : List (Bs × J n)} {g cap : Nat} {us : List Value} (h : TInv av n w0 wr Bp va vb vc pl L G k acc g cap us) (hb : Below wr.heap.size wr w1) (hk : k < L.length) (hG : G L[k] = none) :
    TInv av n w0 w1 Bp va vb vc pl L G (k + 1) acc g cap us := by
  refine ⟨h.box.below hb, h.bne, fun i s hi => ?_, h.row.kept (below_grown hb) (fun e => by cases e), h.len, fun i f u hf hu => (h.els i f u hf hu).ona hb, h.new, h.bel.trans (hb.mono h.bel.size), by have := h.many; omega, ?_⟩
  · obtain ⟨gl, e1, e2, e3, e4⟩ := h.nms i s hi
    exact ⟨gl, e1, e2, Nat.lt_of_lt_of_le e3 hb.size, by rw [hb.cell (p := ⟨gl, i, none⟩) e3]; exact e4⟩
  · rw [List.take_succ_eq_append_getElem hk, pick_snoc, hG, ← h.eq]
    simp [withM]
theorem TInv.push {av : Nat → Prop} {n : Nat} {w0 wr w1 w2 : World} {Bp : Nat} {va vb vc : Value} {pl : Option Addr} {L : List Bs} {G : Bs → Option (J n)} {k : Nat} {acc : List (Bs × J n)} {g cap g' cap' : Nat} {us : List Value} {m : J n} {v : Value} {ob : Obj} {row : Option Nat}
    (h : TInv av n w0 wr Bp va vb vc pl L G k acc g cap us) (hb : Below wr.heap.size wr w1) (hav : ∀ c, av c → c < w0.heap.size) (hk : k < L.length) (hG : G L[k] = some m)
    (hm : St (fun c => av c ∨ c = g) w1 n m v) (hg : (w1.alloc ob).grownBy w2 row) (hrow : Row w2 83 2 g' (acc.length + 1) cap' (flat acc us ++ [.string ⟨L[k].toArray⟩, v])) (hcase : (g' = g ∧ row = some g) ∨ (row = none ∧ w1.heap.size < g')) :
    TInv av n w0 w2 Bp va vb vc pl L G (k + 1) (acc ++ [(L[k], m)]) g' cap' (us ++ [v]) := by
  have hgl := h.row.lt
  have hbs := hb.size
  have hsz : w1.heap.size ≤ w2.heap.size := by have := hg.size; simp at this; omega
  have hblk : ∀ c, c < w1.heap.size → ¬ (av c ∨ c = g) → w2.heap[c]? = w1.heap[c]? := fun c hc hn => by
    rw [hg.block c (by simp; omega) (fun e => by
      rcases hcase with ⟨_, rfl⟩ | ⟨rfl, _⟩
      · cases e
        exact hn (Or.inr rfl)
      · cases e)]
    exact Below.heap_alloc w1 _ c hc
  have hblk2 : ∀ c, c < w1.heap.size → c ≠ g → w2.heap[c]? = w1.heap[c]? := fun c hc hn => by
    rw [hg.block c (by simp; omega) (fun e => by
      rcases hcase with ⟨_, rfl⟩ | ⟨rfl, _⟩
      · cases e
        exact hn rfl
      · cases e)]
    exact Below.heap_alloc w1 _ c hc
  have hmv : ∀ c, c < w1.heap.size → ¬ (av c ∨ c = g) → ¬ (av c ∨ c = g') := fun c hc hn => by
    rintro (h' | h')
    · exact hn (Or.inl h')
    · rcases hcase with ⟨rfl, _⟩ | ⟨_, hlt⟩
      · exact hn (Or.inr h')
      · omega
  have hnew : w0.heap.size ≤ g' := by
    have := h.new
    rcases hcase with ⟨rfl, _⟩ | ⟨_, hlt⟩
    · exact this
    · have := h.bel.size; omega
  have hne' : ∀ c, c < wr.heap.size → c ≠ g → c ≠ g' := fun c hc hn => by
    rcases hcase with ⟨rfl, _⟩ | ⟨_, hlt⟩
    · exact hn
    · omega
  have hb0 := h.bel.trans (hb.mono h.bel.size)
  refine ⟨(hblk2 Bp (by have := h.box.lt; omega) h.bne).trans (h.box.below hb), hne' Bp h.box.lt h.bne, fun i s hi => ?_, ?_, by simp [h.len], fun i f u hf hu => ?_, hnew, ⟨hg.os.trans hb0.os, hg.tape.trans hb0.tape, hg.output.trans hb0.output, Nat.le_trans hb0.size hsz, fun c hc => ?_⟩, by have := h.many; simp; omega, ?_⟩
  · obtain ⟨gl, e1, e2, e3, e4⟩ := h.nms i s hi
    refine ⟨gl, e1, hne' gl e3 e2, by omega, ?_⟩
    rw [World.cell?_of_block (w := w1) (a := ⟨gl, i, none⟩) (hblk2 gl (by omega) e2), hb.cell (p := ⟨gl, i, none⟩) e3]
    exact e4
  · have e : flat (acc ++ [(L[k], m)]) (us ++ [v]) = flat acc us ++ [.string ⟨L[k].toArray⟩, v] := by
      rw [flat_append _ _ _ _ h.len]
      rfl
    rw [e]
    simpa using hrow
  · rcases snoc_get hf with ⟨hi, hf'⟩ | ⟨hi, rfl⟩
    · rcases snoc_get hu with ⟨hi2, hu'⟩ | ⟨hi2, rfl⟩
      · exact St.move hsz hblk hmv _ _ _ ((h.els i f u hf' hu').ona hb)
      · have := h.len; omega
    · rcases snoc_get hu with ⟨hi2, hu'⟩ | ⟨hi2, rfl⟩
      · have := h.len; omega
      · exact St.move hsz hblk hmv _ _ _ hm
  · have hc1 : c < w1.heap.size := by have := hb0.size; omega
    rw [hg.block c (by simp; omega) (fun e => by
      have := h.new
      rcases hcase with ⟨_, rfl⟩ | ⟨rfl, _⟩
      · cases e
        omega
      · cases e), Below.heap_alloc w1 _ c hc1]
    exact hb0.block c hc
  · rw [List.take_succ_eq_append_getElem hk, pick_snoc, hG, ← h.eq]
    rfl
theorem TInv.done {av : Nat → Prop} {n : Nat} {w0 wr : World} {Bp : Nat} {va vb vc : Value} {pl : Option Addr} {L : List Bs} {G : Bs → Option (J n)} {k : Nat} {acc : List (Bs × J n)} {g cap : Nat} {us : List Value} (h : TInv av n w0 wr Bp va vb vc pl L G k acc g cap us) (hk : L.length ≤ k) (hav : ∀ c, av c → c < w0.heap.size) :
    acc = pickF L G ∧ St av wr (n + 1) (Sum.inr (Sum.inr acc)) (.iface 80 (.slice (some ⟨g, 0, none⟩) acc.length cap)) := by
  refine ⟨by rw [h.eq, List.take_of_length_le hk], ?_⟩
  have hn := h.new
  exact st_object (vs := us) h.len h.row.caps.1 h.row.caps.2 (fun e => by have := hav g e; omega) h.row.lt (row_fields h.row h.len).2 (fun i f u hf hu => (h.els i f u hf hu).mono (fun c _ hc => Or.inl hc))
def goNot : Value := .func (.func 28) #[] #[]
def ThrOK (n : Nat) : Prop := ∀ (av : Nat → Prop) (w : World) (a b : Option (J n)) (x : J n) (va vb : Value) (T : TypeId) (y : Value) (way gv : Value), (∀ c, av c → c < w.heap.size) → OptV av w n a va → OptV av w n b vb → St av w n x (.iface T y) → OkTO n a → OkTO n b → OkT n x → WayOK n w way → (gv = goNot ∨ noLoss n a b x) →
  Calls Tryz.prog 45 #[.agg #[va, vb, .iface T y], way, gv] w fun e w' => ∃ T' y', e = .returned (.iface T' y') ∧ St av w' n (threeP n a b x) (.iface T' y') ∧ Below w.heap.size w w'
theorem three_flat : ∀ {n : Nat} (a b : Option (J n)) {x : J n}, isObjJ n x = false → threeP n a b x = x
  | 0, _, _, _, _ => rfl
  | _ + 1, _, _, Sum.inl _, _ => rfl
  | _ + 1, _, _, Sum.inr (Sum.inl _), _ => rfl
  | _ + 1, _, _, Sum.inr (Sum.inr _), h => by cases h
set_option maxRecDepth 100000 in
set_option maxHeartbeats 1000000 in
theorem tmerged_flat (av : Nat → Prop) (n : Nat) (w : World) (a b : Option (J n)) (x : J n) (va vb : Value) (T : TypeId) (y way gv : Value) (va' : IsV va) (vb' : IsV vb) (hst : St av w n x (.iface T y)) (hj : isObjJ n x = false) :
    Calls Tryz.prog 45 #[.agg #[va, vb, .iface T y], way, gv] w fun e w' => ∃ T' y', e = .returned (.iface T' y') ∧ St av w' n (threeP n a b x) (.iface T' y') ∧ Below w.heap.size w w' := by
  have ht := ta_flat (flat_type hst hj)
  rw [three_flat a b hj]
  have HB : Hid (Below w.heap.size w (w.alloc (.cells #[va, vb, .iface T y] 88))) := (Below.refl _ _).alloc (Nat.le_refl _) _
  have HS : Hid (St av w n x (.iface T y)) := hst
  clear hst hj
  go_enter Tryz.func45, Tryz.ntmps45
  go_wp2_with fail
  go_ret
  exact ⟨T, y, rfl, HS.out.ona HB.out, HB.out⟩
theorem goNot_any (way : Value) (w : World) : Calls Tryz.prog 28 #[way] w fun e w' => e = .returned (.tuple #[]) ∧ w = w' := by
  go_enter Tryz.func28, Tryz.ntmps28
  go_wp2_with fail
  go_end0
  exact ⟨rfl, rfl⟩
end Go.Proofs.YtaogilpkeeigoabGreatDoor
