/- How the values of a document lie in memory; what stays of it when other memory is written: plain facts on worlds. -/
import Derived.Test.YtaogilpkeeigoaaGreatDoorOwnPlain
namespace Go.Proofs.YtaogilpkeeigoaaGreatDoor
open Go.RowKit
set_option linter.unusedVariables false
set_option linter.unusedSimpArgs false
def leafV : Leaf → Value
  | none => .iface 78 (.agg #[])
  | some (Sum.inl b) => .iface 79 (.bool b)
  | some (Sum.inr (Sum.inl i)) => .iface 80 (.int .i64 i)
  | some (Sum.inr (Sum.inr s)) => .iface 61 (.string ⟨s.toArray⟩)
/-- The value v stands for j in the world w, whatever is written into the blocks av, and whatever is made. -/
def St (av : Nat → Prop) (w : World) : (n : Nat) → J n → Value → Prop
  | 0, l, v => v = leafV l
  | _ + 1, Sum.inl l, v => v = leafV l
  | n + 1, Sum.inr (Sum.inl xs), v => (xs = [] ∧ v = .iface 82 (.slice none 0 0)) ∨ ∃ (g cap : Nat) (vs : List Value), v = .iface 82 (.slice (some ⟨g, 0, none⟩) xs.length cap) ∧ vs.length = xs.length ∧ xs.length ≤ cap ∧ cap ≤ maxLen ∧ ¬ av g ∧ g < w.heap.size ∧
      (∀ (i : Nat) (u : Value), vs[i]? = some u → w.cell? ⟨g, i, none⟩ = some u) ∧ ∀ (i : Nat) (x : J n) (u : Value), xs[i]? = some x → vs[i]? = some u → St av w n x u
  | n + 1, Sum.inr (Sum.inr fs), v => (fs = [] ∧ v = .iface 84 (.slice none 0 0)) ∨ ∃ (g cap : Nat) (vs : List Value), v = .iface 84 (.slice (some ⟨g, 0, none⟩) fs.length cap) ∧ vs.length = fs.length ∧ fs.length ≤ cap ∧ cap ≤ maxLen ∧ ¬ av g ∧ g < w.heap.size ∧
      (∀ (i : Nat) (f : Bs × J n) (u : Value), fs[i]? = some f → vs[i]? = some u → w.cell? ⟨g, i * 2, none⟩ = some (.string ⟨f.1.toArray⟩) ∧ w.cell? ⟨g, i * 2 + 1, none⟩ = some u) ∧ ∀ (i : Nat) (f : Bs × J n) (u : Value), fs[i]? = some f → vs[i]? = some u → St av w n f.2 u
theorem St.move {av av' : Nat → Prop} {w w1 : World} (hs : w.heap.size ≤ w1.heap.size) (hb : ∀ c, c < w.heap.size → ¬ av c → w1.heap[c]? = w.heap[c]?) (ha : ∀ c, c < w.heap.size → ¬ av c → ¬ av' c) : ∀ (n : Nat) (j : J n) (v : Value), St av w n j v → St av' w1 n j v
  | 0, _, _, h => h
  | _ + 1, Sum.inl _, _, h => h
  | n + 1, Sum.inr (Sum.inl xs), v, h => by
    rcases h with h | ⟨g, cap, vs, hv, hl, hc, hm, hg, hlt, hcell, hel⟩
    · exact Or.inl h
    refine Or.inr ⟨g, cap, vs, hv, hl, hc, hm, ha g hlt hg, by omega, fun i u hu => ?_, fun i x u hx hu => St.move hs hb ha n x u (hel i x u hx hu)⟩
    rw [World.cell?_of_block (w := w) (w' := w1) (a := ⟨g, i, none⟩) (hb g hlt hg)]
    exact hcell i u hu
  | n + 1, Sum.inr (Sum.inr fs), v, h => by
    rcases h with h | ⟨g, cap, vs, hv, hl, hc, hm, hg, hlt, hcell, hel⟩
    · exact Or.inl h
    refine Or.inr ⟨g, cap, vs, hv, hl, hc, hm, ha g hlt hg, by omega, fun i f u hf hu => ?_, fun i f u hf hu => St.move hs hb ha n f.2 u (hel i f u hf hu)⟩
    rw [World.cell?_of_block (w := w) (w' := w1) (a := ⟨g, i * 2, none⟩) (hb g hlt hg), World.cell?_of_block (w := w) (w' := w1) (a := ⟨g, i * 2 + 1, none⟩) (hb g hlt hg)]
    exact hcell i f u hf hu
theorem St.mono {av av' : Nat → Prop} {w : World} {n : Nat} {j : J n} {v : Value} (h : St av w n j v) (ha : ∀ c, c < w.heap.size → av' c → av c) : St av' w n j v :=
  St.move (Nat.le_refl _) (fun _ _ _ => rfl) (fun c hc hn e => hn (ha c hc e)) n j v h
theorem St.step {av : Nat → Prop} {w w1 : World} {n : Nat} {j : J n} {v : Value} (h : St av w n j v) (hs : w.heap.size ≤ w1.heap.size) (hb : ∀ c, c < w.heap.size → ¬ av c → w1.heap[c]? = w.heap[c]?) : St av w1 n j v :=
  St.move hs hb (fun _ _ hn => hn) n j v h
theorem St.grown {av : Nat → Prop} {w w1 : World} {n : Nat} {j : J n} {v : Value} {row : Option Nat} (h : St av w n j v) (hg : w.grownBy w1 row) (hr : ∀ k, row = some k → av k) : St av w1 n j v :=
  h.step hg.size fun c hc hn => hg.block c hc (fun e => hn (hr c e.symm))
/-- other new blocks may be written as well -/
theorem St.wide {av av' : Nat → Prop} {w : World} {n : Nat} {j : J n} {v : Value} (h : St av w n j v) (ha : ∀ c, av' c → av c ∨ w.heap.size ≤ c) : St av' w n j v :=
  h.mono (fun c hc e => by rcases ha c e with h1 | h1
                           · exact h1
                           · omega)
theorem st_leaf (av : Nat → Prop) (w : World) (n : Nat) (l : Leaf) : St av w n (leaf n l) (leafV l) := by
  cases n <;> rfl
theorem st_list {av : Nat → Prop} {w : World} {n : Nat} {xs : List (J n)} {g cap : Nat} {vs : List Value} (hl : vs.length = xs.length) (hc : xs.length ≤ cap) (hm : cap ≤ maxLen) (hg : ¬ av g) (hlt : g < w.heap.size)
    (hcell : ∀ (i : Nat) (u : Value), vs[i]? = some u → w.cell? ⟨g, i, none⟩ = some u) (hel : ∀ (i : Nat) (x : J n) (u : Value), xs[i]? = some x → vs[i]? = some u → St av w n x u) :
    St av w (n + 1) (Sum.inr (Sum.inl xs)) (.iface 82 (.slice (some ⟨g, 0, none⟩) xs.length cap)) :=
  Or.inr ⟨g, cap, vs, rfl, hl, hc, hm, hg, hlt, hcell, hel⟩
theorem st_object {av : Nat → Prop} {w : World} {n : Nat} {fs : List (Bs × J n)} {g cap : Nat} {vs : List Value} (hl : vs.length = fs.length) (hc : fs.length ≤ cap) (hm : cap ≤ maxLen) (hg : ¬ av g) (hlt : g < w.heap.size)
    (hcell : ∀ (i : Nat) (f : Bs × J n) (u : Value), fs[i]? = some f → vs[i]? = some u → w.cell? ⟨g, i * 2, none⟩ = some (.string ⟨f.1.toArray⟩) ∧ w.cell? ⟨g, i * 2 + 1, none⟩ = some u) (hel : ∀ (i : Nat) (f : Bs × J n) (u : Value), fs[i]? = some f → vs[i]? = some u → St av w n f.2 u) :
    St av w (n + 1) (Sum.inr (Sum.inr fs)) (.iface 84 (.slice (some ⟨g, 0, none⟩) fs.length cap)) :=
  Or.inr ⟨g, cap, vs, rfl, hl, hc, hm, hg, hlt, hcell, hel⟩
/-- a list in one form, whether there is memory behind it or not -/
theorem St.list {av : Nat → Prop} {w : World} {n : Nat} {xs : List (J n)} {v : Value} (h : St av w (n + 1) (Sum.inr (Sum.inl xs)) v) : ∃ (p : Option Addr) (g cap : Nat) (vs : List Value), v = .iface 82 (.slice p xs.length cap) ∧ (∀ k, k < xs.length → p = some ⟨g, 0, none⟩ ∧ ¬ av g ∧ g < w.heap.size) ∧ vs.length = xs.length ∧ xs.length ≤ cap ∧ cap ≤ maxLen ∧
      (∀ (i : Nat) (u : Value), vs[i]? = some u → w.cell? ⟨g, i, none⟩ = some u) ∧ ∀ (i : Nat) (x : J n) (u : Value), xs[i]? = some x → vs[i]? = some u → St av w n x u := by
  rcases h with ⟨rfl, rfl⟩ | ⟨g, cap, vs, hv, hl, hc, hm, hg, hlt, hcell, hel⟩
  · exact ⟨none, 0, 0, [], rfl, fun k hk => by simp at hk, rfl, Nat.le_refl _, Nat.zero_le _, fun i u hu => by simp at hu, fun i x u hx => by simp at hx⟩
  · exact ⟨_, g, cap, vs, hv, fun k hk => ⟨rfl, hg, hlt⟩, hl, hc, hm, hcell, hel⟩
theorem St.obj {av : Nat → Prop} {w : World} {n : Nat} {fs : List (Bs × J n)} {v : Value} (h : St av w (n + 1) (Sum.inr (Sum.inr fs)) v) : ∃ (p : Option Addr) (g cap : Nat) (vs : List Value), v = .iface 84 (.slice p fs.length cap) ∧ (∀ k, k < fs.length → p = some ⟨g, 0, none⟩ ∧ ¬ av g ∧ g < w.heap.size) ∧ vs.length = fs.length ∧ fs.length ≤ cap ∧ cap ≤ maxLen ∧
      (∀ (i : Nat) (f : Bs × J n) (u : Value), fs[i]? = some f → vs[i]? = some u → w.cell? ⟨g, i * 2, none⟩ = some (.string ⟨f.1.toArray⟩) ∧ w.cell? ⟨g, i * 2 + 1, none⟩ = some u) ∧ ∀ (i : Nat) (f : Bs × J n) (u : Value), fs[i]? = some f → vs[i]? = some u → St av w n f.2 u := by
  rcases h with ⟨rfl, rfl⟩ | ⟨g, cap, vs, hv, hl, hc, hm, hg, hlt, hcell, hel⟩
  · exact ⟨none, 0, 0, [], rfl, fun k hk => by simp at hk, rfl, Nat.le_refl _, Nat.zero_le _, fun i f u hf => by simp at hf, fun i f u hf => by simp at hf⟩
  · exact ⟨_, g, cap, vs, hv, fun k hk => ⟨rfl, hg, hlt⟩, hl, hc, hm, hcell, hel⟩
/-- n elements of 'size' cells each at the head of block g. -/
def Row (w : World) (e : TypeId) (size g n cap : Nat) (xs : List Value) : Prop :=
  xs.length = n * size ∧ ∃ cur, w.heap[g]? = some (.cells cur e (0, 0)) ∧ n ≤ cap ∧ cap ≤ maxLen ∧ cur.size = cap * size ∧ cur.toList.take (n * size) = xs
section
variable {w w' : World} {e : TypeId} {size g n cap : Nat} {xs : List Value}
theorem Row.owns (h : Row w e size g n cap xs) : w.ownsRow g e size (.slice (some ⟨g, 0, none⟩) n cap) n xs := by
  obtain ⟨h1, cur, h2, h3, h4, h5, h6⟩ := h
  exact ⟨h1, Or.inr ⟨g, cap, cur, rfl, Nat.le_refl _, h2, h3, h4, h5, h6⟩⟩
theorem Row.lt (h : Row w e size g n cap xs) : g < w.heap.size := by
  obtain ⟨_, cur, h2, _⟩ := h
  exact lt_of_block h2
theorem Row.caps (h : Row w e size g n cap xs) : n ≤ cap ∧ cap ≤ maxLen := by
  obtain ⟨_, cur, _, h3, h4, _⟩ := h
  exact ⟨h3, h4⟩
theorem Row.kept {row : Option Nat} (h : Row w e size g n cap xs) (hg : w.grownBy w' row) (hne : row ≠ some g) : Row w' e size g n cap xs := by
  obtain ⟨h1, cur, h2, r⟩ := h
  exact ⟨h1, cur, (hg.block g (lt_of_block h2) (fun e => hne e.symm)).trans h2, r⟩
theorem Row.of_owns {base : Nat} {v : Value} (h : w.ownsRow base e size v n xs) (hn : n ≠ 0) : ∃ g cap, v = .slice (some ⟨g, 0, none⟩) n cap ∧ base ≤ g ∧ Row w e size g n cap xs := by
  obtain ⟨h1, h2⟩ := h
  rcases h2 with ⟨_, h0⟩ | ⟨g, cap, cur, rfl, hb, hh, r⟩
  · exact absurd h0 hn
  · exact ⟨g, cap, rfl, hb, h1, cur, hh, r⟩
theorem Row.cell (h : Row w e size g n cap xs) (i : Nat) (u : Value) (hu : xs[i]? = some u) : w.cell? ⟨g, i, none⟩ = some u := by
  obtain ⟨h1, cur, h2, _, _, _, h6⟩ := h
  rw [cell_of_row _ _ _ _ _ _ h2]
  rw [← h6, List.getElem?_take] at hu
  split at hu
  · simpa using hu
  · cases hu
end
end Go.Proofs.YtaogilpkeeigoaaGreatDoor
