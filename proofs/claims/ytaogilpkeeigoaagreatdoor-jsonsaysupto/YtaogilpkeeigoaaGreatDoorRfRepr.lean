/- How the reference's values lie in memory; what stays of it when other memory is written: plain facts on worlds. -/
import Derived.Test.YtaogilpkeeigoaaGreatDoorRepr
import Derived.Test.YtaogilpkeeigoaaGreatDoorListPlain
namespace Go.Proofs.YtaogilpkeeigoaaGreatDoor
open Go.RowKit
set_option linter.unusedVariables false
set_option linter.unusedSimpArgs false
/-- kind, bool, number, text -/
structure Hd where
  k : Nat
  b : Bool
  i : Int
  s : Bs
def headL : Leaf → Hd
  | none => ⟨1, false, 0, []⟩
  | some (Sum.inl b) => ⟨2, b, 0, []⟩
  | some (Sum.inr (Sum.inl i)) => ⟨3, false, i, []⟩
  | some (Sum.inr (Sum.inr s)) => ⟨4, false, 0, s⟩
def headJ : (n : Nat) → J n → Hd
  | 0, l => headL l
  | _ + 1, Sum.inl l => headL l
  | _ + 1, Sum.inr (Sum.inl _) => ⟨5, false, 0, []⟩
  | _ + 1, Sum.inr (Sum.inr _) => ⟨6, false, 0, []⟩
/-- what lies within a value -/
def kids {n : Nat} : J (n + 1) → List (J n)
  | Sum.inl _ => []
  | Sum.inr (Sum.inl xs) => xs
  | Sum.inr (Sum.inr fs) => fs.map fun f => f.2
def namesJ {n : Nat} : J (n + 1) → List Bs
  | Sum.inl _ => []
  | Sum.inr (Sum.inl _) => []
  | Sum.inr (Sum.inr fs) => fs.map fun f => f.1
/-- the reference's value as it is handed over -/
def rfV (h : Hd) (nm l : Value) : Value := .agg #[.int .i64 h.k, .bool h.b, .int .i64 h.i, .string ⟨h.s.toArray⟩, nm, l]
/-- its cells in a block, from some place on -/
def Six (w : World) (g o : Nat) (h : Hd) (nm l : Value) : Prop :=
  w.cell? ⟨g, o, none⟩ = some (.int .i64 h.k) ∧ w.cell? ⟨g, o + 1, none⟩ = some (.bool h.b) ∧ w.cell? ⟨g, o + 2, none⟩ = some (.int .i64 h.i) ∧ w.cell? ⟨g, o + 3, none⟩ = some (.string ⟨h.s.toArray⟩) ∧ w.cell? ⟨g, o + 4, none⟩ = some nm ∧ w.cell? ⟨g, o + 5, none⟩ = some l
theorem Six.keep {w w' : World} {g o : Nat} {h : Hd} {nm l : Value} (hx : Six w g o h nm l) (e : w'.heap[g]? = w.heap[g]?) : Six w' g o h nm l := by
  obtain ⟨h0, h1, h2, h3, h4, h5⟩ := hx
  have f : ∀ i, w'.cell? ⟨g, i, none⟩ = w.cell? ⟨g, i, none⟩ := fun i => World.cell?_of_block (w := w) (w' := w') (a := ⟨g, i, none⟩) e
  exact ⟨by rw [f]; exact h0, by rw [f]; exact h1, by rw [f]; exact h2, by rw [f]; exact h3, by rw [f]; exact h4, by rw [f]; exact h5⟩
/-- a list of texts in memory -/
def RStrs (av : Nat → Prop) (w : World) (L : List Bs) (v : Value) : Prop :=
  (L = [] ∧ v = .slice none 0 0) ∨ ∃ g cap, v = .slice (some ⟨g, 0, none⟩) L.length cap ∧ L.length ≤ cap ∧ cap ≤ maxLen ∧ ¬ av g ∧ g < w.heap.size ∧ ∀ (i : Nat) (s : Bs), L[i]? = some s → w.cell? ⟨g, i, none⟩ = some (.string ⟨s.toArray⟩)
/-- the reference's value v stands for j -/
def RSt (av : Nat → Prop) (w : World) : (n : Nat) → J n → Value → Prop
  | 0, l, v => v = rfV (headL l) (.slice none 0 0) (.slice none 0 0)
  | n + 1, j, v => ∃ nm l, v = rfV (headJ (n + 1) j) nm l ∧ RStrs av w (namesJ j) nm ∧
      ((kids j = [] ∧ l = .slice none 0 0) ∨ ∃ g cap, l = .slice (some ⟨g, 0, none⟩) (kids j).length cap ∧ (kids j).length ≤ cap ∧ cap ≤ maxLen ∧ ¬ av g ∧ g < w.heap.size ∧
        ∀ (i : Nat) (x : J n), (kids j)[i]? = some x → ∃ nm' l', Six w g (i * 6) (headJ n x) nm' l' ∧ RSt av w n x (rfV (headJ n x) nm' l'))
/-- a list of values in memory -/
def RVals (av : Nat → Prop) (w : World) (n : Nat) (xs : List (J n)) (l : Value) : Prop :=
  (xs = [] ∧ l = .slice none 0 0) ∨ ∃ g cap, l = .slice (some ⟨g, 0, none⟩) xs.length cap ∧ xs.length ≤ cap ∧ cap ≤ maxLen ∧ ¬ av g ∧ g < w.heap.size ∧
        ∀ (i : Nat) (x : J n), xs[i]? = some x → ∃ nm' l', Six w g (i * 6) (headJ n x) nm' l' ∧ RSt av w n x (rfV (headJ n x) nm' l')
theorem RStrs.move {av av' : Nat → Prop} {w w1 : World} {L : List Bs} {v : Value} (h : RStrs av w L v) (hs : w.heap.size ≤ w1.heap.size) (hb : ∀ c, c < w.heap.size → ¬ av c → w1.heap[c]? = w.heap[c]?) (ha : ∀ c, c < w.heap.size → ¬ av c → ¬ av' c) : RStrs av' w1 L v := by
  rcases h with h | ⟨g, cap, hv, hc, hm, hg, hlt, hcell⟩
  · exact Or.inl h
  · refine Or.inr ⟨g, cap, hv, hc, hm, ha g hlt hg, by omega, fun i s hi => ?_⟩
    rw [World.cell?_of_block (w := w) (w' := w1) (a := ⟨g, i, none⟩) (hb g hlt hg)]
    exact hcell i s hi
theorem RSt.move {av av' : Nat → Prop} {w w1 : World} (hs : w.heap.size ≤ w1.heap.size) (hb : ∀ c, c < w.heap.size → ¬ av c → w1.heap[c]? = w.heap[c]?) (ha : ∀ c, c < w.heap.size → ¬ av c → ¬ av' c) : ∀ (n : Nat) (j : J n) (v : Value), RSt av w n j v → RSt av' w1 n j v
  | 0, _, _, h => h
  | n + 1, j, v, h => by
    obtain ⟨nm, l, hv, hn, hl⟩ := h
    refine ⟨nm, l, hv, hn.move hs hb ha, ?_⟩
    rcases hl with hl | ⟨g, cap, hl, hc, hm, hg, hlt, hel⟩
    · exact Or.inl hl
    · refine Or.inr ⟨g, cap, hl, hc, hm, ha g hlt hg, by omega, fun i x hx => ?_⟩
      obtain ⟨nm', l', h6, hr⟩ := hel i x hx
      exact ⟨nm', l', h6.keep (hb g hlt hg), RSt.move hs hb ha n x _ hr⟩
section
variable {av av' : Nat → Prop} {w w1 : World} {n : Nat} {j : J n} {v : Value} {xs : List (J n)} {row : Option Nat}
theorem RVals.move (h : RVals av w n xs v) (hs : w.heap.size ≤ w1.heap.size) (hb : ∀ c, c < w.heap.size → ¬ av c → w1.heap[c]? = w.heap[c]?) (ha : ∀ c, c < w.heap.size → ¬ av c → ¬ av' c) : RVals av' w1 n xs v := by
  rcases h with hl | ⟨g, cap, hl, hc, hm, hg, hlt, hel⟩
  · exact Or.inl hl
  · refine Or.inr ⟨g, cap, hl, hc, hm, ha g hlt hg, by omega, fun i x hx => ?_⟩
    obtain ⟨nm', l', h6, hr⟩ := hel i x hx
    exact ⟨nm', l', h6.keep (hb g hlt hg), RSt.move hs hb ha n x _ hr⟩
theorem RSt.grown (h : RSt av w n j v) (hg : w.grownBy w1 row) (hr : ∀ k, row = some k → av k) : RSt av w1 n j v :=
  RSt.move hg.size (fun c hc hn => hg.block c hc (fun e => hn (hr c e.symm))) (fun _ _ h => h) n j v h
theorem RSt.below (h : RSt av w n j v) (hb : Below w.heap.size w w1) : RSt av w1 n j v :=
  RSt.move hb.size (fun c hc _ => hb.block c hc) (fun _ _ h => h) n j v h
theorem RSt.wide (h : RSt av w n j v) (ha : ∀ c, av' c → av c ∨ w.heap.size ≤ c) : RSt av' w n j v :=
  RSt.move (Nat.le_refl _) (fun _ _ _ => rfl) (fun c hc hn e => by rcases ha c e with h1 | h1
                                                                   · exact hn h1
                                                                   · omega) n j v h
theorem RStrs.grown {L : List Bs} (h : RStrs av w L v) (hg : w.grownBy w1 row) (hr : ∀ k, row = some k → av k) : RStrs av w1 L v :=
  h.move hg.size (fun c hc hn => hg.block c hc (fun e => hn (hr c e.symm))) (fun _ _ h => h)
theorem RStrs.below {L : List Bs} (h : RStrs av w L v) (hb : Below w.heap.size w w1) : RStrs av w1 L v :=
  h.move hb.size (fun c hc _ => hb.block c hc) (fun _ _ h => h)
theorem RVals.grown (h : RVals av w n xs v) (hg : w.grownBy w1 row) (hr : ∀ k, row = some k → av k) : RVals av w1 n xs v :=
  h.move hg.size (fun c hc hn => hg.block c hc (fun e => hn (hr c e.symm))) (fun _ _ h => h)
theorem RVals.below (h : RVals av w n xs v) (hb : Below w.heap.size w w1) : RVals av w1 n xs v :=
  h.move hb.size (fun c hc _ => hb.block c hc) (fun _ _ h => h)
end
theorem RSt.open {av : Nat → Prop} {w : World} {n : Nat} {j : J (n + 1)} {v : Value} (h : RSt av w (n + 1) j v) : ∃ nm l, v = rfV (headJ (n + 1) j) nm l ∧ RStrs av w (namesJ j) nm ∧ RVals av w n (kids j) l := h
theorem rst_mk {av : Nat → Prop} {w : World} {n : Nat} {j : J (n + 1)} {nm l : Value} (h1 : RStrs av w (namesJ j) nm) (h2 : RVals av w n (kids j) l) : RSt av w (n + 1) j (rfV (headJ (n + 1) j) nm l) := ⟨nm, l, rfl, h1, h2⟩
theorem rst_form {av : Nat → Prop} {w : World} : ∀ {n : Nat} {j : J n} {v : Value}, RSt av w n j v → ∃ nm l, v = rfV (headJ n j) nm l
  | 0, _, _, h => ⟨_, _, h⟩
  | _ + 1, _, _, h => by obtain ⟨nm, l, hv, _⟩ := h; exact ⟨nm, l, hv⟩
theorem headJ_leaf (n : Nat) (l : Leaf) : headJ n (leaf n l) = headL l := by cases n <;> rfl
theorem rst_leaf (av : Nat → Prop) (w : World) (n : Nat) (l : Leaf) : RSt av w n (leaf n l) (rfV (headL l) (.slice none 0 0) (.slice none 0 0)) := by
  cases n with
  | zero => rfl
  | succ n => exact ⟨_, _, rfl, Or.inl ⟨rfl, rfl⟩, Or.inl ⟨rfl, rfl⟩⟩
theorem RStrs.form {av : Nat → Prop} {w : World} {L : List Bs} {v : Value} (h : RStrs av w L v) : ∃ p cap, v = .slice p L.length cap ∧ L.length ≤ cap ∧ cap ≤ maxLen ∧ ∀ (i : Nat) (s : Bs), L[i]? = some s → ∃ g, p = some ⟨g, 0, none⟩ ∧ g < w.heap.size ∧ w.cell? ⟨g, i, none⟩ = some (.string ⟨s.toArray⟩) := by
  rcases h with ⟨rfl, rfl⟩ | ⟨g, cap, hv, hc, hm, hg, hlt, hcell⟩
  · exact ⟨none, 0, rfl, Nat.le_refl _, Nat.zero_le _, fun i s h => by simp at h⟩
  · exact ⟨_, cap, hv, hc, hm, fun i s hi => ⟨g, rfl, hlt, hcell i s hi⟩⟩
theorem RVals.form {av : Nat → Prop} {w : World} {n : Nat} {xs : List (J n)} {v : Value} (h : RVals av w n xs v) : ∃ p cap, v = .slice p xs.length cap ∧ xs.length ≤ cap ∧ cap ≤ maxLen ∧ ∀ (i : Nat) (x : J n), xs[i]? = some x → ∃ g nm' l', p = some ⟨g, 0, none⟩ ∧ g < w.heap.size ∧ Six w g (i * 6) (headJ n x) nm' l' ∧ RSt av w n x (rfV (headJ n x) nm' l') := by
  rcases h with ⟨rfl, rfl⟩ | ⟨g, cap, hv, hc, hm, hg, hlt, hcell⟩
  · exact ⟨none, 0, rfl, Nat.le_refl _, Nat.zero_le _, fun i s h => by simp at h⟩
  · exact ⟨_, cap, hv, hc, hm, fun i x hx => by
      obtain ⟨nm', l', h6, hr⟩ := hcell i x hx
      exact ⟨g, nm', l', rfl, hlt, h6, hr⟩⟩
theorem rfV_inj {h h' : Hd} {nm l nm' l' : Value} (e : rfV h nm l = rfV h' nm' l') : nm = nm' ∧ l = l' := by
  unfold rfV at e
  injection e with e
  have := congrArg Array.toList e
  simp at this
  exact ⟨this.2.2.2.2.1, this.2.2.2.2.2⟩
theorem rst_sl {av : Nat → Prop} {w : World} {n : Nat} {j : J n} {h : Hd} {nm l : Value} (hs : RSt av w n j (rfV h nm l)) : (∃ p k c, nm = .slice p k c) ∧ ∃ p k c, l = .slice p k c := by
  cases n with
  | zero =>
    obtain ⟨e1, e2⟩ := rfV_inj hs
    exact ⟨⟨_, _, _, e1⟩, _, _, _, e2⟩
  | succ n =>
    obtain ⟨nm', l', e, h1, h2⟩ := hs.open
    obtain ⟨e1, e2⟩ := rfV_inj e
    obtain ⟨p, c, f1, _⟩ := h1.form
    obtain ⟨q, d, f2, _⟩ := h2.form
    exact ⟨⟨_, _, _, e1.trans f1⟩, _, _, _, e2.trans f2⟩
end Go.Proofs.YtaogilpkeeigoaaGreatDoor
