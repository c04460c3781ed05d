import Derived.Test.YtjcdklbimaclkaaGreatDoorGAa
import Derived.Handy
import Derived.Deep.AppendLies
import Derived.StillTail
import Derived.Deep.RegionHeld
namespace Go.Proofs.YtjcdklbimaclkaaGreatDoor
open Go.RowKit
set_option linter.unusedVariables false
set_option linter.unusedSimpArgs false
structure Hd where
 k : Nat
 b : Bool
 i : Int
 s : Bs
def headL : Leaf -> Hd
 | none => ⟨1, false, 0, []⟩
 | some (Sum.inl b) => ⟨2, b, 0, []⟩
 | some (Sum.inr (Sum.inl i)) => ⟨3, false, i, []⟩
 | some (Sum.inr (Sum.inr s)) => ⟨4, false, 0, s⟩
def headJ : (n : Nat) -> J n -> Hd
 | 0, l => headL l
 | _ + 1, Sum.inl l => headL l
 | _ + 1, Sum.inr (Sum.inl _) => ⟨5, false, 0, []⟩
 | _ + 1, Sum.inr (Sum.inr _) => ⟨6, false, 0, []⟩
def kids {n : Nat} : J (n + 1) -> List (J n)
 | Sum.inl _ => []
 | Sum.inr (Sum.inl xs) => xs
 | Sum.inr (Sum.inr fs) => fs.map fun f => f.2
def namesJ {n : Nat} : J (n + 1) -> List Bs
 | Sum.inl _ => []
 | Sum.inr (Sum.inl _) => []
 | Sum.inr (Sum.inr fs) => fs.map fun f => f.1
def rfV (h : Hd) (nm l : Value) : Value := .agg #[.int .i64 h.k, .bool h.b, .int .i64 h.i, .string ⟨h.s.toArray⟩, nm, l]
def Six (w : World) (g o : Nat) (h : Hd) (nm l : Value) : Prop :=
 w.cell? ⟨g, o, none⟩ = some (.int .i64 h.k) /\ w.cell? ⟨g, o + 1, none⟩ = some (.bool h.b) /\ w.cell? ⟨g, o + 2, none⟩ = some (.int .i64 h.i) /\ w.cell? ⟨g, o + 3, none⟩ = some (.string ⟨h.s.toArray⟩) /\ w.cell? ⟨g, o + 4, none⟩ = some nm /\ w.cell? ⟨g, o + 5, none⟩ = some l
theorem Six.keep {w w' : World} {g o : Nat} {h : Hd} {nm l : Value} (hx : Six w g o h nm l) (e : w'.heap[g]? = w.heap[g]?) : Six w' g o h nm l := by
 obtain ⟨h0, h1, h2, h3, h4, h5⟩ := hx
 have f : ∀ i, w'.cell? ⟨g, i, none⟩ = w.cell? ⟨g, i, none⟩ := fun i => World.cell?_of_block (w := w) (w' := w') (a := ⟨g, i, none⟩) e
 exact ⟨by rw [f]; exact h0, by rw [f]; exact h1, by rw [f]; exact h2, by rw [f]; exact h3, by rw [f]; exact h4, by rw [f]; exact h5⟩
def RStrs (av : Nat -> Prop) (w : World) (L : List Bs) (v : Value) : Prop :=
 (L = [] /\ v = .slice none 0 0) ∨ ∃ g cap, v = .slice (some ⟨g, 0, none⟩) L.length cap /\ L.length <= cap /\ cap <= maxLen /\ ¬ av g /\ g < w.heap.size /\ ∀ (i : Nat) (s : Bs), L[i]? = some s -> w.cell? ⟨g, i, none⟩ = some (.string ⟨s.toArray⟩)
def RSt (av : Nat -> Prop) (w : World) : (n : Nat) -> J n -> Value -> Prop
 | 0, l, v => v = rfV (headL l) (.slice none 0 0) (.slice none 0 0)
 | n + 1, j, v => ∃ nm l, v = rfV (headJ (n + 1) j) nm l /\ RStrs av w (namesJ j) nm /\
   ((kids j = [] /\ l = .slice none 0 0) ∨ ∃ g cap, l = .slice (some ⟨g, 0, none⟩) (kids j).length cap /\ (kids j).length <= cap /\ cap <= maxLen /\ ¬ av g /\ g < w.heap.size /\
    ∀ (i : Nat) (x : J n), (kids j)[i]? = some x -> ∃ nm' l', Six w g (i * 6) (headJ n x) nm' l' /\ RSt av w n x (rfV (headJ n x) nm' l'))
def RVals (av : Nat -> Prop) (w : World) (n : Nat) (xs : List (J n)) (l : Value) : Prop :=
 (xs = [] /\ l = .slice none 0 0) ∨ ∃ g cap, l = .slice (some ⟨g, 0, none⟩) xs.length cap /\ xs.length <= cap /\ cap <= maxLen /\ ¬ av g /\ g < w.heap.size /\
       ∀ (i : Nat) (x : J n), xs[i]? = some x -> ∃ nm' l', Six w g (i * 6) (headJ n x) nm' l' /\ RSt av w n x (rfV (headJ n x) nm' l')
theorem RStrs.move {av av' : Nat -> Prop} {w w1 : World} {L : List Bs} {v : Value} (h : RStrs av w L v) (hs : w.heap.size <= w1.heap.size) (hb : ∀ c, c < w.heap.size -> ¬ av c -> w1.heap[c]? = w.heap[c]?) (ha : ∀ c, c < w.heap.size -> ¬ av c -> ¬ av' c) : RStrs av' w1 L v := by
 rcases h with h | ⟨g, cap, hv, hc, hm, hg, hlt, hcell⟩
 ·exact Or.inl h
 ·refine Or.inr ⟨g, cap, hv, hc, hm, ha g hlt hg, by omega, fun i s hi => ?_⟩
  rw [World.cell?_of_block (w := w) (w' := w1) (a := ⟨g, i, none⟩) (hb g hlt hg)]
  exact hcell i s hi
theorem RSt.move {av av' : Nat -> Prop} {w w1 : World} (hs : w.heap.size <= w1.heap.size) (hb : ∀ c, c < w.heap.size -> ¬ av c -> w1.heap[c]? = w.heap[c]?) (ha : ∀ c, c < w.heap.size -> ¬ av c -> ¬ av' c) : ∀ (n : Nat) (j : J n) (v : Value), RSt av w n j v -> RSt av' w1 n j v
 | 0, _, _, h => h
 | n + 1, j, v, h => by
  obtain ⟨nm, l, hv, hn, hl⟩ := h
  refine ⟨nm, l, hv, hn.move hs hb ha, ?_⟩
  rcases hl with hl | ⟨g, cap, hl, hc, hm, hg, hlt, hel⟩
  ·exact Or.inl hl
  ·refine Or.inr ⟨g, cap, hl, hc, hm, ha g hlt hg, by omega, fun i x hx => ?_⟩
   obtain ⟨nm', l', h6, hr⟩ := hel i x hx
   exact ⟨nm', l', h6.keep (hb g hlt hg), RSt.move hs hb ha n x _ hr⟩
section
variable {av av' : Nat -> Prop} {w w1 : World} {n : Nat} {j : J n} {v : Value} {xs : List (J n)} {row : Option Nat}
theorem RVals.move (h : RVals av w n xs v) (hs : w.heap.size <= w1.heap.size) (hb : ∀ c, c < w.heap.size -> ¬ av c -> w1.heap[c]? = w.heap[c]?) (ha : ∀ c, c < w.heap.size -> ¬ av c -> ¬ av' c) : RVals av' w1 n xs v := by
 rcases h with hl | ⟨g, cap, hl, hc, hm, hg, hlt, hel⟩
 ·exact Or.inl hl
 ·refine Or.inr ⟨g, cap, hl, hc, hm, ha g hlt hg, by omega, fun i x hx => ?_⟩
  obtain ⟨nm', l', h6, hr⟩ := hel i x hx
  exact ⟨nm', l', h6.keep (hb g hlt hg), RSt.move hs hb ha n x _ hr⟩
theorem RSt.grown (h : RSt av w n j v) (hg : w.grownBy w1 row) (hr : ∀ k, row = some k -> av k) : RSt av w1 n j v :=
 RSt.move hg.size (fun c hc hn => hg.block c hc (fun e => hn (hr c e.symm))) (fun _ _ h => h) n j v h
theorem RSt.below (h : RSt av w n j v) (hb : Below w.heap.size w w1) : RSt av w1 n j v :=
 RSt.move hb.size (fun c hc _ => hb.block c hc) (fun _ _ h => h) n j v h
theorem RSt.wide (h : RSt av w n j v) (ha : ∀ c, av' c -> av c ∨ w.heap.size <= c) : RSt av' w n j v :=
 RSt.move (Nat.le_refl _) (fun _ _ _ => rfl) (fun c hc hn e => by rcases ha c e with h1 | h1
                                                                  · exact hn h1
                                                                  · omega) n j v h
theorem RStrs.grown {L : List Bs} (h : RStrs av w L v) (hg : w.grownBy w1 row) (hr : ∀ k, row = some k -> av k) : RStrs av w1 L v :=
 h.move hg.size (fun c hc hn => hg.block c hc (fun e => hn (hr c e.symm))) (fun _ _ h => h)
theorem RStrs.below {L : List Bs} (h : RStrs av w L v) (hb : Below w.heap.size w w1) : RStrs av w1 L v :=
 h.move hb.size (fun c hc _ => hb.block c hc) (fun _ _ h => h)
theorem RVals.grown (h : RVals av w n xs v) (hg : w.grownBy w1 row) (hr : ∀ k, row = some k -> av k) : RVals av w1 n xs v :=
 h.move hg.size (fun c hc hn => hg.block c hc (fun e => hn (hr c e.symm))) (fun _ _ h => h)
theorem RVals.below (h : RVals av w n xs v) (hb : Below w.heap.size w w1) : RVals av w1 n xs v :=
 h.move hb.size (fun c hc _ => hb.block c hc) (fun _ _ h => h)
end
theorem RSt.open {av : Nat -> Prop} {w : World} {n : Nat} {j : J (n + 1)} {v : Value} (h : RSt av w (n + 1) j v) : ∃ nm l, v = rfV (headJ (n + 1) j) nm l /\ RStrs av w (namesJ j) nm /\ RVals av w n (kids j) l := h
theorem rst_mk {av : Nat -> Prop} {w : World} {n : Nat} {j : J (n + 1)} {nm l : Value} (h1 : RStrs av w (namesJ j) nm) (h2 : RVals av w n (kids j) l) : RSt av w (n + 1) j (rfV (headJ (n + 1) j) nm l) := ⟨nm, l, rfl, h1, h2⟩
theorem rst_form {av : Nat -> Prop} {w : World} : ∀ {n : Nat} {j : J n} {v : Value}, RSt av w n j v -> ∃ nm l, v = rfV (headJ n j) nm l
 | 0, _, _, h => ⟨_, _, h⟩
 | _ + 1, _, _, h => by obtain ⟨nm, l, hv, _⟩ := h; exact ⟨nm, l, hv⟩
theorem headJ_leaf (n : Nat) (l : Leaf) : headJ n (leaf n l) = headL l := by cases n <;> rfl
theorem rst_leaf (av : Nat -> Prop) (w : World) (n : Nat) (l : Leaf) : RSt av w n (leaf n l) (rfV (headL l) (.slice none 0 0) (.slice none 0 0)) := by
 cases n with
 | zero => rfl
 | succ n => exact ⟨_, _, rfl, Or.inl ⟨rfl, rfl⟩, Or.inl ⟨rfl, rfl⟩⟩
theorem RStrs.form {av : Nat -> Prop} {w : World} {L : List Bs} {v : Value} (h : RStrs av w L v) : ∃ p cap, v = .slice p L.length cap /\ L.length <= cap /\ cap <= maxLen /\ ∀ (i : Nat) (s : Bs), L[i]? = some s -> ∃ g, p = some ⟨g, 0, none⟩ /\ g < w.heap.size /\ w.cell? ⟨g, i, none⟩ = some (.string ⟨s.toArray⟩) := by
 rcases h with ⟨rfl, rfl⟩ | ⟨g, cap, hv, hc, hm, hg, hlt, hcell⟩
 ·exact ⟨none, 0, rfl, Nat.le_refl _, Nat.zero_le _, fun i s h => by simp at h⟩
 ·exact ⟨_, cap, hv, hc, hm, fun i s hi => ⟨g, rfl, hlt, hcell i s hi⟩⟩
theorem RVals.form {av : Nat -> Prop} {w : World} {n : Nat} {xs : List (J n)} {v : Value} (h : RVals av w n xs v) : ∃ p cap, v = .slice p xs.length cap /\ xs.length <= cap /\ cap <= maxLen /\ ∀ (i : Nat) (x : J n), xs[i]? = some x -> ∃ g nm' l', p = some ⟨g, 0, none⟩ /\ g < w.heap.size /\ Six w g (i * 6) (headJ n x) nm' l' /\ RSt av w n x (rfV (headJ n x) nm' l') := by
 rcases h with ⟨rfl, rfl⟩ | ⟨g, cap, hv, hc, hm, hg, hlt, hcell⟩
 ·exact ⟨none, 0, rfl, Nat.le_refl _, Nat.zero_le _, fun i s h => by simp at h⟩
 ·exact ⟨_, cap, hv, hc, hm, fun i x hx => by
   obtain ⟨nm', l', h6, hr⟩ := hcell i x hx
   exact ⟨g, nm', l', rfl, hlt, h6, hr⟩⟩
theorem rfV_inj {h h' : Hd} {nm l nm' l' : Value} (e : rfV h nm l = rfV h' nm' l') : nm = nm' /\ l = l' := by
 unfold rfV at e
 injection e with e
 have := congrArg Array.toList e
 simp at this
 exact ⟨this.2.2.2.2.1, this.2.2.2.2.2⟩
theorem rst_sl {av : Nat -> Prop} {w : World} {n : Nat} {j : J n} {h : Hd} {nm l : Value} (hs : RSt av w n j (rfV h nm l)) : (∃ p k c, nm = .slice p k c) /\ ∃ p k c, l = .slice p k c := by
 cases n with
 | zero =>
  obtain ⟨e1, e2⟩ := rfV_inj hs
  exact ⟨⟨_, _, _, e1⟩, _, _, _, e2⟩
 | succ n =>
  obtain ⟨nm', l', e, h1, h2⟩ := hs.open
  obtain ⟨e1, e2⟩ := rfV_inj e
  obtain ⟨p, c, f1, _⟩ := h1.form
  obtain ⟨q, d, f2, _⟩ := h2.form
  exact ⟨⟨_, _, _, e1.trans f1⟩, _, _, _, e2.trans f2⟩
end Go.Proofs.YtjcdklbimaclkaaGreatDoor
namespace Go.Proofs.YtjcdklbimaclkaaGreatDoor
set_option linter.unusedVariables false
set_option linter.unusedSimpArgs false
def setGo {α : Type} (nm : Bs) (v : α) : Bool -> List (Bs × α) -> List (Bs × α)
 | z, [] => if z then [] else [(nm, v)]
 | z, f :: r =>
  (if z = false /\ less f.1 nm = false then [(nm, v)] else []) ++ ((if f.1 = nm then [] else [f]) ++ setGo nm v (z || !less f.1 nm) r)
def setF {α : Type} (fs : List (Bs × α)) (nm : Bs) (v : α) : List (Bs × α) := setGo nm v false fs
theorem setGo_true {α : Type} (nm : Bs) (v : α) : ∀ (fs : List (Bs × α)), (∀ f ∈ fs, f.1 ≠ nm) -> setGo nm v true fs = fs
 | [], _ => rfl
 | f :: r, h => by
  simp only [setGo]
  rw [if_neg (by simp), if_neg (h f (by simp)), Bool.true_or, setGo_true nm v r (fun g hg => h g (List.mem_cons_of_mem _ hg))]
  rfl
theorem setF_new {α : Type} (nm : Bs) (v : α) : ∀ (fs : List (Bs × α)), (∀ f ∈ fs, f.1 ≠ nm) -> setF fs nm v = insertAt fs nm v
 | [], _ => rfl
 | f :: r, h => by
  have hr : ∀ g ∈ r, g.1 ≠ nm := fun g hg => h g (List.mem_cons_of_mem _ hg)
  have hf := h f (by simp)
  unfold setF insertAt
  simp only [setGo]
  cases hl : less f.1 nm with
  | true =>
   rw [if_neg (by simp), if_neg hf, List.takeWhile_cons_of_pos (p := fun f : Bs × α => less f.1 nm) hl, List.dropWhile_cons_of_pos (p := fun f : Bs × α => less f.1 nm) hl]
   have ih := setF_new nm v r hr
   unfold setF insertAt at ih
   simp only [Bool.not_true, Bool.or_self, List.nil_append, List.cons_append]
   rw [ih]
  | false =>
   rw [if_pos (by simp), if_neg hf, List.takeWhile_cons_of_neg (p := fun f : Bs × α => less f.1 nm) (by simp [hl]), List.dropWhile_cons_of_neg (p := fun f : Bs × α => less f.1 nm) (by simp [hl])]
   simp only [Bool.not_false, Bool.or_true]
   rw [setGo_true nm v r hr]
   rfl
def findF {α : Type} (fs : List (Bs × α)) (nm : Bs) : Option α := (fs.find? fun f => decide (f.1 = nm)).map fun f => f.2
theorem findF_any {α : Type} (fs : List (Bs × α)) (nm : Bs) : (findF fs nm).isSome = fs.any (fun f => f.1 == nm) := by
 unfold findF
 rw [Option.isSome_map, Bool.eq_iff_iff, List.find?_isSome]
 simp
end Go.Proofs.YtjcdklbimaclkaaGreatDoor
namespace Go.Proofs.YtjcdklbimaclkaaGreatDoor
open Go.RowKit
set_option linter.unusedVariables false
set_option linter.unusedSimpArgs false
def Box (w : World) (g : Nat) (h : Hd) (nm l : Value) : Prop := w.heap[g]? = some (.cells #[.int .i64 h.k, .bool h.b, .int .i64 h.i, .string ⟨h.s.toArray⟩, nm, l] 38 (0, 0))
theorem Box.lt {w : World} {g : Nat} {h : Hd} {nm l : Value} (hb : Box w g h nm l) : g < w.heap.size := lt_of_block hb
theorem Box.free {w : World} {g : Nat} {h : Hd} {nm l : Value} (hb : Box w g h nm l) (o : Nat) : w.frozen? ⟨g, o, none⟩ = false := frozen_of_row _ _ _ _ _ hb
theorem Box.c0 {w : World} {g : Nat} {h : Hd} {nm l : Value} (hb : Box w g h nm l) : w.cell? ⟨g, 0, none⟩ = some (.int .i64 h.k) := by rw [cell_of_row _ _ _ _ _ _ hb]; rfl
theorem Box.c1 {w : World} {g : Nat} {h : Hd} {nm l : Value} (hb : Box w g h nm l) : w.cell? ⟨g, 1, none⟩ = some (.bool h.b) := by rw [cell_of_row _ _ _ _ _ _ hb]; rfl
theorem Box.c2 {w : World} {g : Nat} {h : Hd} {nm l : Value} (hb : Box w g h nm l) : w.cell? ⟨g, 2, none⟩ = some (.int .i64 h.i) := by rw [cell_of_row _ _ _ _ _ _ hb]; rfl
theorem Box.c3 {w : World} {g : Nat} {h : Hd} {nm l : Value} (hb : Box w g h nm l) : w.cell? ⟨g, 3, none⟩ = some (.string ⟨h.s.toArray⟩) := by rw [cell_of_row _ _ _ _ _ _ hb]; rfl
theorem Box.c4 {w : World} {g : Nat} {h : Hd} {nm l : Value} (hb : Box w g h nm l) : w.cell? ⟨g, 4, none⟩ = some nm := by rw [cell_of_row _ _ _ _ _ _ hb]; rfl
theorem Box.c5 {w : World} {g : Nat} {h : Hd} {nm l : Value} (hb : Box w g h nm l) : w.cell? ⟨g, 5, none⟩ = some l := by rw [cell_of_row _ _ _ _ _ _ hb]; rfl
theorem Box.below {w w' : World} {g : Nat} {h : Hd} {nm l : Value} (hb : Box w g h nm l) (e : Below w.heap.size w w') : Box w' g h nm l := (e.block g hb.lt).trans hb
theorem Box.grown {w w' : World} {g : Nat} {h : Hd} {nm l : Value} {row : Option Nat} (hb : Box w g h nm l) (e : w.grownBy w' row) (hne : some g ≠ row) : Box w' g h nm l := (e.block g hb.lt hne).trans hb
theorem Box.drew {w : World} {g : Nat} {h : Hd} {nm l : Value} (hb : Box w g h nm l) : Box w.drew g h nm l := hb
theorem box_new (w : World) (h : Hd) (nm l : Value) : Box (w.alloc (.cells #[.int .i64 h.k, .bool h.b, .int .i64 h.i, .string ⟨h.s.toArray⟩, nm, l] 38)) w.heap.size h nm l := heap_alloc_new w _
def put6 (w : World) (g : Nat) (a b c d e f : Value) : World := (((((w.setCell ⟨g, 0, none⟩ a).setCell ⟨g, 1, none⟩ b).setCell ⟨g, 2, none⟩ c).setCell ⟨g, 3, none⟩ d).setCell ⟨g, 4, none⟩ e).setCell ⟨g, 5, none⟩ f
theorem put6_box {w : World} {g : Nat} {h : Hd} {nm l : Value} (hb : Box w g h nm l) (h' : Hd) (nm' l' : Value) : Box (put6 w g (.int .i64 h'.k) (.bool h'.b) (.int .i64 h'.i) (.string ⟨h'.s.toArray⟩) nm' l') g h' nm' l' := by
 unfold put6
 have e0 := heap_setCell_same w g 0 _ _ (.int .i64 h'.k) hb
 have e1 := heap_setCell_same _ g 1 _ _ (.bool h'.b) e0
 have e2 := heap_setCell_same _ g 2 _ _ (.int .i64 h'.i) e1
 have e3 := heap_setCell_same _ g 3 _ _ (.string ⟨h'.s.toArray⟩) e2
 have e4 := heap_setCell_same _ g 4 _ _ nm' e3
 exact heap_setCell_same _ g 5 _ _ l' e4
theorem grownBy_set_trans {w a : World} {g o : Nat} {v : Value} (h : w.grownBy a (some g)) : w.grownBy (a.setCell ⟨g, o, none⟩ v) (some g) := by
 have k := grownBy_setCell a g o v
 exact ⟨k.os.trans h.os, k.tape.trans h.tape, k.output.trans h.output, Nat.le_trans h.size k.size, fun c hc hne => (k.block c (Nat.lt_of_lt_of_le hc h.size) hne).trans (h.block c hc hne)⟩
theorem put6_grown (w : World) (g : Nat) (a b c d e f : Value) : w.grownBy (put6 w g a b c d e f) (some g) := by
 unfold put6
 exact grownBy_set_trans (grownBy_set_trans (grownBy_set_trans (grownBy_set_trans (grownBy_set_trans (grownBy_setCell w g 0 a)))))
theorem put6_below {w0 w : World} {B g : Nat} (h : Below B w0 w) (hB : B <= g) (hw : B <= w.heap.size) (a b c d e f : Value) : Below B w0 (put6 w g a b c d e f) :=
 h.grown (put6_grown w g a b c d e f) hw (fun k e => by cases e; exact hB)
def RFindPost (av : Nat -> Prop) {n : Nat} (fs : List (Bs × J n)) (nm : Bs) (w : World) (e : Ending) (w' : World) : Prop :=
 Below w.heap.size w w' /\ ((findF fs nm = none /\ e = .returned (.tuple #[rfV ⟨0, false, 0, []⟩ (.slice none 0 0) (.slice none 0 0), .bool false])) ∨ ∃ x v, findF fs nm = some x /\ e = .returned (.tuple #[v, .bool true]) /\ RSt av w n x v)
theorem findF_hit {α : Type} {fs : List (Bs × α)} {nm : Bs} {k : Nat} {f : Bs × α} (h : fs[k]? = some f) (he : f.1 = nm) : findF (fs.drop k) nm = some f.2 := by
 have hk : k < fs.length := by
  rcases Nat.lt_or_ge k fs.length with h' | h'
  ·exact h'
  ·rw [List.getElem?_eq_none h'] at h; cases h
 rw [List.drop_eq_getElem_cons hk]
 rw [List.getElem?_eq_getElem hk] at h
 cases h
 unfold findF
 rw [List.find?_cons_of_pos (by simpa using he)]
 rfl
theorem findF_miss {α : Type} {fs : List (Bs × α)} {nm : Bs} {k : Nat} {f : Bs × α} (h : fs[k]? = some f) (he : f.1 ≠ nm) : findF (fs.drop k) nm = findF (fs.drop (k + 1)) nm := by
 have hk : k < fs.length := by
  rcases Nat.lt_or_ge k fs.length with h' | h'
  ·exact h'
  ·rw [List.getElem?_eq_none h'] at h; cases h
 rw [List.drop_eq_getElem_cons hk]
 rw [List.getElem?_eq_getElem hk] at h
 cases h
 unfold findF
 rw [List.find?_cons_of_neg (by simpa using he)]
set_option maxRecDepth 100000 in
set_option maxHeartbeats 4000000 in
theorem rffind_any (av : Nat -> Prop) {n : Nat} (fs : List (Bs × J n)) (nm : ByteArray) (vn vl : Value) (w : World) (hN : RStrs av w (fs.map fun f => f.1) vn) (hL : RVals av w n (fs.map fun f => f.2) vl) :
  Calls Tryz.prog 33 #[rfV ⟨6, false, 0, []⟩ vn vl, .string nm] w (RFindPost av fs nm.data.toList w) := by
 obtain ⟨pn, cn, rfl, hn1, hn2, hn3⟩ := hN.form
 obtain ⟨pl, cl, rfl, hl1, hl2, hl3⟩ := hL.form
 have HN3 : Hid (∀ (i : Nat) (f : Bs × J n), fs[i]? = some f -> ∃ g, pn = some ⟨g, 0, none⟩ /\ g < w.heap.size /\ w.cell? ⟨g, i, none⟩ = some (.string ⟨f.1.toArray⟩)) := fun i f h => hn3 i f.1 (by rw [List.getElem?_map, h]; rfl)
 have HL3 : Hid (∀ (i : Nat) (f : Bs × J n), fs[i]? = some f -> ∃ g nm' l', pl = some ⟨g, 0, none⟩ /\ g < w.heap.size /\ Six w g (i * 6) (headJ n f.2) nm' l' /\ RSt av w n f.2 (rfV (headJ n f.2) nm' l')) := fun i f h => hl3 i f.2 (by rw [List.getElem?_map, h]; rfl)
 unfold rfV
 unfold maxLen at hn2 hl2
 rw [List.length_map] at hn1 hl1
 rw [List.length_map, List.length_map]
 obtain ⟨B, hB⟩ : ∃ B, B = w.heap.size := ⟨_, rfl⟩
 obtain ⟨w0, hw0⟩ : ∃ w0, w0 = (w.alloc (.cells #[.int .i64 6, .bool false, .int .i64 0, .string ⟨#[]⟩, .slice pn fs.length cn, .slice pl fs.length cl] 38)).alloc (.cells #[.int .i64 0, .bool false, .int .i64 0, .string ⟨#[]⟩, .slice none 0 0, .slice none 0 0] 38) := ⟨_, rfl⟩
 have HB0 : Hid (Below w.heap.size w w0) := by
  show Below _ _ _
  rw [hw0]
  exact ((Below.refl _ _).alloc (Nat.le_refl _) _).alloc (by simp) _
 have HV0 : Hid (Box w0 B ⟨6, false, 0, []⟩ (.slice pn fs.length cn) (.slice pl fs.length cl)) := by
  show Box _ _ _ _ _
  rw [hw0, hB]
  exact (box_new w ⟨6, false, 0, []⟩ _ _).below ((Below.refl _ _).alloc (Nat.le_refl _) _)
 have HR0 : Hid (Box w0 (B + 1) ⟨0, false, 0, []⟩ (.slice none 0 0) (.slice none 0 0)) := by
  show Box _ _ _ _ _
  have := box_new (w.alloc (.cells #[.int .i64 6, .bool false, .int .i64 0, .string ⟨#[]⟩, .slice pn fs.length cn, .slice pl fs.length cl] 38)) ⟨0, false, 0, []⟩ (.slice none 0 0) (.slice none 0 0)
  rw [hw0, hB]
  simpa using this
 have HW0 : Hid (w0 = (w.alloc (.cells #[.int .i64 6, .bool false, .int .i64 0, .string ⟨#[]⟩, .slice pn fs.length cn, .slice pl fs.length cl] 38)).alloc (.cells #[.int .i64 0, .bool false, .int .i64 0, .string ⟨#[]⟩, .slice none 0 0, .slice none 0 0] 38)) := hw0
 have HBe : Hid (B = w.heap.size) := hB
 clear hw0 hB hN hL hn3 hl3
 go_enter Tryz.func33, Tryz.ntmps33
 go_wp2
 rw [<- HBe.out, <- HW0.out]
 go_loopw [11] (fun i wr => ∃ k : Nat, k <= fs.length /\ i = .int .i64 k /\ findF fs nm.data.toList = findF (fs.drop k) nm.data.toList /\ Below w.heap.size w wr /\ Box wr B ⟨6, false, 0, []⟩ (.slice pn fs.length cn) (.slice pl fs.length cl) /\ Box wr (B + 1) ⟨0, false, 0, []⟩ (.slice none 0 0) (.slice none 0 0)) (fun i _ => fs.length - (intOf i).toNat)
 case atStart => exact ⟨0, Nat.zero_le _, rfl, by rw [List.drop_zero], HB0.out, HV0.out, HR0.out⟩
 case round =>
  obtain ⟨k, hk, rfl, hf, hB, hV, hR⟩ := hrel
  have HF : Hid (findF fs nm.data.toList = findF (fs.drop k) nm.data.toList) := hf
  have HB : Hid (Below w.heap.size w wr) := hB
  have HV : Hid (Box wr B ⟨6, false, 0, []⟩ (.slice pn fs.length cn) (.slice pl fs.length cl)) := hV
  have HR : Hid (Box wr (B + 1) ⟨0, false, 0, []⟩ (.slice none 0 0) (.slice none 0 0)) := hR
  have v0 := hV.c0
  have v5 := hV.c5
  have f0 := hR.free 0
  have f1 := hR.free 1
  have f2 := hR.free 2
  have f3 := hR.free 3
  have f4 := hR.free 4
  have f5 := hR.free 5
  have r0 := hR.c0
  have r1 := hR.c1
  have r2 := hR.c2
  have r3 := hR.c3
  have r4 := hR.c4
  have r5 := hR.c5
  clear hf hB hV hR
  by_cases hlt : k < fs.length
  ·obtain ⟨f, hfk⟩ : ∃ f, fs[k]? = some f := ⟨fs[k], List.getElem?_eq_getElem hlt⟩
   obtain ⟨g, rfl, hg, hgc⟩ := HN3.out k f hfk
   have n1 : wr.cell? ⟨g, k, none⟩ = some (.string ⟨f.1.toArray⟩) := (HB.out.cell (p := ⟨g, k, none⟩) hg).trans hgc
   have HK : Hid (fs[k]? = some f) := hfk
   clear hgc hfk
   have hbe : ((⟨f.1.toArray⟩ : ByteArray).toList == nm.toList) = decide (f.1 = nm.data.toList) := by
    rw [ByteArray.toList_eq, ByteArray.toList_eq, Bool.eq_iff_iff, beq_iff_eq, decide_eq_true_iff]
   by_cases he : f.1 = nm.data.toList
   ·have hq : ((⟨f.1.toArray⟩ : ByteArray).toList == nm.toList) = true := by rw [hbe]; exact decide_eq_true he
    have HE : Hid (findF fs nm.data.toList = some f.2) := HF.out.trans (findF_hit HK.out he)
    obtain ⟨g', nm', l', rfl, hg', h6, hst⟩ := HL3.out k f HK.out
    obtain ⟨⟨p1, k1, c1, rfl⟩, p2, k2, c2, rfl⟩ := rst_sl hst
    have h6' := h6.keep (HB.out.block g' hg')
    obtain ⟨x0, x1, x2, x3, x4, x5⟩ := h6'
    have HS : Hid (RSt av w n f.2 (rfV (headJ n f.2) (.slice p1 k1 c1) (.slice p2 k2 c2))) := hst
    clear hbe he hst h6
    generalize (⟨f.1.toArray⟩ : ByteArray) = fb at *
    go_wp2_with fail
    have e6 := put6_box HR.out (headJ n f.2) (.slice p1 k1 c1) (.slice p2 k2 c2)
    have b6 := put6_below HB.out (g := B + 1) (by rw [HBe.out]; omega) HB.out.size (.int .i64 (headJ n f.2).k) (.bool (headJ n f.2).b) (.int .i64 (headJ n f.2).i) (.string ⟨(headJ n f.2).s.toArray⟩) (.slice p1 k1 c1) (.slice p2 k2 c2)
    change bodyPost _ _ _ _ _ (put6 wr (B + 1) _ _ _ _ _ _)
    generalize put6 wr (B + 1) (.int .i64 (headJ n f.2).k) (.bool (headJ n f.2).b) (.int .i64 (headJ n f.2).i) (.string ⟨(headJ n f.2).s.toArray⟩) (.slice p1 k1 c1) (.slice p2 k2 c2) = W at *
    exact bodyPost_ret (v := .tuple #[rfV (headJ n f.2) (.slice p1 k1 c1) (.slice p2 k2 c2), .bool true]) (by simp [results, Tryz.results33, go_sem, rfV, e6.c0, e6.c1, e6.c2, e6.c3, e6.c4, e6.c5]) rfl ⟨b6, Or.inr ⟨_, _, HE.out, rfl, HS.out⟩⟩
   ·have hq : ((⟨f.1.toArray⟩ : ByteArray).toList == nm.toList) = false := by rw [hbe]; exact decide_eq_false he
    have HE : Hid (findF fs nm.data.toList = findF (fs.drop (k + 1)) nm.data.toList) := HF.out.trans (findF_miss HK.out he)
    clear hbe he
    generalize (⟨f.1.toArray⟩ : ByteArray) = fb at *
    go_wp2_with fail
    go_roundw
    case rel => exact ⟨k + 1, by omega, by go_num, HE.out, HB.out, HV.out, HR.out⟩
    case measure => simp [intOf]; omega
  ·have HE : Hid (findF fs nm.data.toList = none) := by
    show _ = _
    rw [HF.out, List.drop_eq_nil_of_le (by omega)]
    rfl
   go_wp2_with fail
   have e6 := put6_box HR.out ⟨0, false, 0, []⟩ (.slice none 0 0) (.slice none 0 0)
   have b6 := put6_below HB.out (g := B + 1) (by rw [HBe.out]; omega) HB.out.size (.int .i64 0) (.bool false) (.int .i64 0) (.string ⟨#[]⟩) (.slice none 0 0) (.slice none 0 0)
   change bodyPost _ _ _ _ _ (put6 wr (B + 1) _ _ _ _ _ _)
   generalize put6 wr (B + 1) (.int .i64 0) (.bool false) (.int .i64 0) (.string ⟨#[]⟩) (.slice none 0 0) (.slice none 0 0) = W at *
   exact bodyPost_ret (v := .tuple #[rfV ⟨0, false, 0, []⟩ (.slice none 0 0) (.slice none 0 0), .bool false]) (by simp [results, Tryz.results33, go_sem, rfV, e6.c0, e6.c1, e6.c2, e6.c3, e6.c4, e6.c5]) rfl ⟨b6, Or.inl ⟨HE.out, rfl⟩⟩
theorem info_V : (Tryz.prog.info? 38).map (fun i => (i.zero, i.size, i.bytes)) = some (some (.agg #[.int .i64 0, .bool false, .int .i64 0, .string ⟨#[]⟩, .slice none 0 0, .slice none 0 0]), 6, 88) := by kernel_rfl
theorem info_text : (Tryz.prog.info? 9).map (fun i => (i.zero, i.size, i.bytes)) = some (some (.string ⟨#[]⟩), 1, 16) := by kernel_rfl
abbrev Six3 := Hd × Value × Value
def six3 (u : Six3) : List Value := [.int .i64 u.1.k, .bool u.1.b, .int .i64 u.1.i, .string ⟨u.1.s.toArray⟩, u.2.1, u.2.2]
theorem six3_len (u : Six3) : (six3 u).length = 6 := rfl
theorem flat6_get : ∀ (us : List Six3) (i k : Nat) (u : Six3), us[i]? = some u -> k < 6 -> (us.flatMap six3)[i * 6 + k]? = (six3 u)[k]?
 | [], i, k, u, h, _ => by simp at h
 | u' :: us, 0, k, u, h, hk => by
  simp at h
  subst h
  rw [List.flatMap_cons, Nat.zero_mul, Nat.zero_add, List.getElem?_append_left (by rw [six3_len]; exact hk)]
 | u' :: us, i + 1, k, u, h, hk => by
  rw [List.flatMap_cons, List.getElem?_append_right (by rw [six3_len]; omega), six3_len, show (i + 1) * 6 + k - 6 = i * 6 + k by omega]
  exact flat6_get us i k u (by simpa using h) hk
def OwnV (av : Nat -> Prop) (N : Nat) (w : World) (n : Nat) (xs : List (J n)) (v : Value) : Prop :=
 ∃ us : List Six3, us.length = xs.length /\ w.ownsRow N 38 6 v xs.length (us.flatMap six3) /\ ∀ (i : Nat) (x : J n) (u : Six3), xs[i]? = some x -> us[i]? = some u -> u.1 = headJ n x /\ RSt (fun c => av c ∨ v.ownBlock = some c) w n x (rfV u.1 u.2.1 u.2.2)
def OwnT (N : Nat) (w : World) (L : List Bs) (v : Value) : Prop := w.ownsRow N 9 1 v L.length (L.map fun s => .string ⟨s.toArray⟩)
theorem OwnV.nil (av : Nat -> Prop) (N : Nat) (w : World) (n : Nat) : OwnV av N w n [] (.slice none 0 0) := ⟨[], rfl, World.ownsRow_nil _ _ _ _, fun i x u h => by simp at h⟩
theorem OwnT.nil (N : Nat) (w : World) : OwnT N w [] (.slice none 0 0) := World.ownsRow_nil _ _ _ _
theorem ownT_apart {N : Nat} {w : World} {L : List Bs} {v : Value} {av : Nat -> Prop} {N' n : Nat} {xs : List (J n)} {v' : Value} (h : OwnT N w L v) (h' : OwnV av N' w n xs v') : v.ownBlock = none ∨ v.ownBlock ≠ v'.ownBlock := by
 obtain ⟨us, _, h', _⟩ := h'
 rcases h.2 with ⟨rfl, _⟩ | ⟨g, cap, cur, rfl, _, hh, _⟩
 ·exact Or.inl rfl
 ·refine Or.inr ?_
  rcases h'.2 with ⟨rfl, _⟩ | ⟨g', cap', cur', rfl, _, hh', _⟩
  ·simp [Value.ownBlock]
  ·intro e
   simp [Value.ownBlock] at e
   subst e
   rw [hh] at hh'
   simp at hh'
theorem OwnT.row {N : Nat} {w : World} {L : List Bs} {v : Value} (h : OwnT N w L v) : ∀ k, v.ownBlock = some k -> N <= k /\ k < w.heap.size := World.ownsRow.lt h
theorem OwnV.row {av : Nat -> Prop} {N n : Nat} {w : World} {xs : List (J n)} {v : Value} (h : OwnV av N w n xs v) : ∀ k, v.ownBlock = some k -> N <= k /\ k < w.heap.size := by
 obtain ⟨us, _, h, _⟩ := h
 exact World.ownsRow.lt h
theorem OwnT.kept {N : Nat} {w w' : World} {L : List Bs} {v : Value} {row : Option Nat} (h : OwnT N w L v) (hg : w.grownBy w' row) (hne : v.ownBlock = none ∨ v.ownBlock ≠ row) : OwnT N w' L v := World.ownsRow.kept h hg hne
theorem OwnT.far {N : Nat} {w w' : World} {L : List Bs} {v : Value} {row : Option Nat} (h : OwnT N w L v) (hg : w.grownBy w' row) (hr : ∀ k, row = some k -> k < N) : OwnT N w' L v := by
 refine h.kept hg ?_
 cases hv : v.ownBlock with
 | none => exact Or.inl rfl
 | some x => exact Or.inr (fun e => by have := hr x e.symm; have := (h.row x hv).1; omega)
theorem OwnV.kept {av : Nat -> Prop} {N n : Nat} {w w' : World} {xs : List (J n)} {v : Value} {row : Option Nat} (h : OwnV av N w n xs v) (hg : w.grownBy w' row) (hne : v.ownBlock = none ∨ v.ownBlock ≠ row) (hr : ∀ k, row = some k -> av k) : OwnV av N w' n xs v := by
 obtain ⟨us, hl, ho, he⟩ := h
 refine ⟨us, hl, ho.kept hg hne, fun i x u hx hu => ?_⟩
 obtain ⟨h1, h2⟩ := he i x u hx hu
 exact ⟨h1, h2.grown hg (fun k e => Or.inl (hr k e))⟩
theorem OwnV.far {av : Nat -> Prop} {N n : Nat} {w w' : World} {xs : List (J n)} {v : Value} {row : Option Nat} (h : OwnV av N w n xs v) (hg : w.grownBy w' row) (hr : ∀ k, row = some k -> k < N /\ av k) : OwnV av N w' n xs v := by
 refine h.kept hg ?_ (fun k e => (hr k e).2)
 cases hv : v.ownBlock with
 | none => exact Or.inl rfl
 | some x => exact Or.inr (fun e => by have := (hr x e.symm).1; have := (h.row x hv).1; omega)
theorem OwnT.alloc {N : Nat} {w : World} {L : List Bs} {v : Value} (h : OwnT N w L v) (o : Obj) : OwnT N (w.alloc o) L v := World.ownsRow.alloc h o
theorem OwnT.snoc {N : Nat} {w : World} {L : List Bs} {s : Bs} {v : Value} (h : w.ownsRow N 9 1 v (L.length + 1) ((L.map fun s => .string ⟨s.toArray⟩) ++ [.string ⟨s.toArray⟩])) : OwnT N w (L ++ [s]) v := by
 unfold OwnT
 rw [List.length_append, List.map_append]
 exact h
theorem OwnV.snoc {av : Nat -> Prop} {N n g cap : Nat} {wa w1 : World} {xs : List (J n)} {us : List Six3} {v : Value} {j : J n} {nm l : Value} (hl : us.length = xs.length)
  (he : ∀ (i : Nat) (x : J n) (u : Six3), xs[i]? = some x -> us[i]? = some u -> u.1 = headJ n x /\ RSt (fun c => av c ∨ v.ownBlock = some c) wa n x (rfV u.1 u.2.1 u.2.2))
  (ho : w1.ownsRow N 38 6 (.slice (some ⟨g, 0, none⟩) (xs.length + 1) cap) (xs.length + 1) (us.flatMap six3 ++ six3 (headJ n j, nm, l)))
  (hg : wa.grownBy w1 v.ownBlock) (hat : v.ownBlock = some g ∨ wa.heap.size <= g) (hj : RSt (fun c => av c ∨ v.ownBlock = some c) wa n j (rfV (headJ n j) nm l)) :
  OwnV av N w1 n (xs ++ [j]) (.slice (some ⟨g, 0, none⟩) (xs.length + 1) cap) := by
 have hmove : ∀ {x : J n} {u : Value}, RSt (fun c => av c ∨ v.ownBlock = some c) wa n x u -> RSt (fun c => av c ∨ (Value.slice (some ⟨g, 0, none⟩) (xs.length + 1) cap).ownBlock = some c) w1 n x u := by
  intro x u h
  have h1 : RSt (fun c => av c ∨ v.ownBlock = some c ∨ c = g) wa n x u := h.wide (fun c e => by
   rcases e with e | e | e
   ·exact Or.inl (Or.inl e)
   ·exact Or.inl (Or.inr e)
   ·rcases hat with h | h
    ·exact Or.inl (Or.inr (by rw [e]; exact h))
    ·exact Or.inr (by omega))
  have h2 := h1.grown hg (fun k e => Or.inr (Or.inl e))
  exact h2.wide (fun c e => by
   rcases e with e | e
   ·exact Or.inl (Or.inl e)
   ·simp [Value.ownBlock] at e
    exact Or.inl (Or.inr (Or.inr e.symm)))
 refine ⟨us ++ [(headJ n j, nm, l)], by simp [hl], ?_, fun i x u hx hu => ?_⟩
 ·rw [List.length_append, List.flatMap_append]
  simpa using ho
 ·rcases snoc_get hx with ⟨hi, hx⟩ | ⟨hi, rfl⟩
  ·rcases snoc_get hu with ⟨_, hu⟩ | ⟨hi2, _⟩
   ·obtain ⟨h1, h2⟩ := he i x u hx hu
    exact ⟨h1, hmove h2⟩
   ·omega
  ·rcases snoc_get hu with ⟨hi2, _⟩ | ⟨_, rfl⟩
   ·omega
   ·exact ⟨rfl, hmove hj⟩
theorem OwnT.strs {av : Nat -> Prop} {N : Nat} {w : World} {L : List Bs} {v : Value} (h : OwnT N w L v) (hav : ∀ c, N <= c -> ¬ av c) : RStrs av w L v := by
 obtain ⟨_, h2⟩ := h
 rcases h2 with ⟨rfl, h0⟩ | ⟨g, cap, cur, rfl, hb, hh, h1, h3, h4, h5⟩
 ·exact Or.inl ⟨List.eq_nil_of_length_eq_zero h0, rfl⟩
 ·refine Or.inr ⟨g, cap, rfl, h1, h3, hav g hb, lt_of_block hh, fun i s hs => ?_⟩
  rw [cell_of_row _ _ _ _ _ _ hh]
  have hi : i < L.length := (List.getElem?_eq_some_iff.1 hs).1
  have h6 : (cur.toList.take (L.length * 1))[i]? = (L.map fun s => Value.string ⟨s.toArray⟩)[i]? := by rw [h5]
  rw [List.getElem?_take, if_pos (by omega), Array.getElem?_toList] at h6
  rw [h6, List.getElem?_map, hs]
  rfl
theorem OwnV.valsTo {av av' : Nat -> Prop} {N n : Nat} {w : World} {xs : List (J n)} {v : Value} (h : OwnV av' N w n xs v) (hav : ∀ c, N <= c -> ¬ av c) (hsub : ∀ c, av c -> av' c) : RVals av w n xs v := by
 obtain ⟨us, hl, ⟨_, h2⟩, he⟩ := h
 rcases h2 with ⟨rfl, h0⟩ | ⟨g, cap, cur, rfl, hb, hh, h1, h3, h4, h5⟩
 ·exact Or.inl ⟨List.eq_nil_of_length_eq_zero h0, rfl⟩
 ·refine Or.inr ⟨g, cap, rfl, h1, h3, hav g hb, lt_of_block hh, fun i x hx => ?_⟩
  have hi : i < xs.length := (List.getElem?_eq_some_iff.1 hx).1
  have hu : us[i]? = some (us[i]'(by omega)) := List.getElem?_eq_getElem (by omega)
  generalize us[i]'(by omega) = u at hu
  obtain ⟨e1, e2⟩ := he i x u hx hu
  have hc : ∀ k, k < 6 -> w.cell? ⟨g, i * 6 + k, none⟩ = (six3 u)[k]? := fun k hk => by
   rw [cell_of_row _ _ _ _ _ _ hh, <- flat6_get us i k u hu hk, <- h5, List.getElem?_take, if_pos (by omega), Array.getElem?_toList]
  refine ⟨u.2.1, u.2.2, ⟨?_, ?_, ?_, ?_, ?_, ?_⟩, ?_⟩
  ·have := hc 0 (by omega); rw [Nat.add_zero] at this; rw [this, <- e1]; rfl
  ·rw [hc 1 (by omega), <- e1]; rfl
  ·rw [hc 2 (by omega), <- e1]; rfl
  ·rw [hc 3 (by omega), <- e1]; rfl
  ·rw [hc 4 (by omega)]; rfl
  ·rw [hc 5 (by omega)]; rfl
  ·rw [<- e1]
   exact e2.wide (fun c h => Or.inl (Or.inl (hsub c h)))
theorem OwnV.vals {av : Nat -> Prop} {N n : Nat} {w : World} {xs : List (J n)} {v : Value} (h : OwnV av N w n xs v) (hav : ∀ c, N <= c -> ¬ av c) : RVals av w n xs v := h.valsTo hav (fun _ h => h)
theorem Box.setL {w : World} {g : Nat} {h : Hd} {nm l : Value} (hb : Box w g h nm l) (l' : Value) : Box (w.setCell ⟨g, 5, none⟩ l') g h nm l' := heap_setCell_same w g 5 _ _ l' hb
theorem Box.setN {w : World} {g : Nat} {h : Hd} {nm l : Value} (hb : Box w g h nm l) (nm' : Value) : Box (w.setCell ⟨g, 4, none⟩ nm') g h nm' l := heap_setCell_same w g 4 _ _ nm' hb
theorem Box.other {w : World} {g c o : Nat} {h : Hd} {nm l : Value} (hb : Box w g h nm l) (hne : g ≠ c) (v : Value) : Box (w.setCell ⟨c, o, none⟩ v) g h nm l := hb.grown (grownBy_setCell w c o v) (fun e => hne (Option.some.inj e))
theorem Box.alloc {w : World} {g : Nat} {h : Hd} {nm l : Value} (hb : Box w g h nm l) (o : Obj) : Box (w.alloc o) g h nm l := hb.grown (World.grownBy_alloc w o none) (fun e => by cases e)
theorem RSt.alloc {av : Nat -> Prop} {w : World} {n : Nat} {j : J n} {v : Value} (h : RSt av w n j v) (o : Obj) : RSt av (w.alloc o) n j v := h.grown (World.grownBy_alloc w o none) (fun k e => by cases e)
theorem six_new (w : World) (h : Hd) (nm l : Value) : ∀ j u, (six3 (h, nm, l))[j]? = some u -> (w.alloc (.cells #[.int .i64 h.k, .bool h.b, .int .i64 h.i, .string ⟨h.s.toArray⟩, nm, l] 38)).cell? ((⟨w.heap.size, 0, none⟩ : Addr).add j) = some u :=
 World.news_of_block (cs := #[.int .i64 h.k, .bool h.b, .int .i64 h.i, .string ⟨h.s.toArray⟩, nm, l]) (t := 38) (fr := (0, 0)) (heap_alloc_new w _)
theorem six_one (w : World) (h : Hd) (p q : Option Addr) (a b c d : Nat) : ∀ u ∈ six3 (h, .slice p a b, .slice q c d), u.oneCell' = true := by
 intro u hu
 simp [six3] at hu
 rcases hu with rfl | rfl | rfl | rfl | rfl | rfl <;> rfl
theorem text_one (s : ByteArray) : ∀ u ∈ [Value.string s], u.oneCell' = true := by
 intro u hu
 simp at hu
 subst hu
 rfl
def SetPost (av : Nat -> Prop) {n : Nat} (fs : List (Bs × J n)) (nm : Bs) (j : J n) (w : World) (e : Ending) (w' : World) : Prop :=
 Below w.heap.size w w' /\ ∃ vn vl, e = .returned (rfV ⟨6, false, 0, []⟩ vn vl) /\ RStrs av w' ((setF fs nm j).map fun f => f.1) vn /\ RVals av w' n ((setF fs nm j).map fun f => f.2) vl
theorem less_bytes' : ∀ (a b : Bs), Op.bytesLess a b = less a b
 | [], [] => by simp [Op.bytesLess, less, Lib.compareBytes]
 | [], _ :: _ => by simp [Op.bytesLess, less, Lib.compareBytes]
 | _ :: _, [] => by simp [Op.bytesLess, less, Lib.compareBytes]
 | x :: a, y :: b => by
  have ih := less_bytes' a b
  simp only [Op.bytesLess, less, Lib.compareBytes] at ih ⊢
  by_cases h1 : x < y
  ·simp [h1]
  ·by_cases h2 : y < x
   ·have h3 : (x == y) = false := by
     rw [beq_eq_false_iff_ne]
     rintro rfl
     exact h1 h2
    simp [h1, h2, h3]
   ·have h3 : x = y := UInt8.le_antisymm (UInt8.not_lt.1 h2) (UInt8.not_lt.1 h1)
    subst h3
    simp [ih]
theorem cell_alloc_old {w : World} {o : Obj} {a : Addr} {v : Value} (h : w.cell? a = some v) : (w.alloc o).cell? a = some v :=
 (World.cell?_of_block (w := w) (w' := w.alloc o) (a := a) (Below.heap_alloc w o a.block (World.block_lt_of_cell? w _ h))).trans h
theorem cell_grown_old {w w' : World} {row : Option Nat} {a : Addr} {v : Value} (hg : w.grownBy w' row) (h : w.cell? a = some v) (hne : some a.block ≠ row) : w'.cell? a = some v :=
 (hg.cell_far a (World.block_lt_of_cell? w _ h) hne).trans h
structure SetAt (av : Nat -> Prop) {n : Nat} (w : World) (B : Nat) (pn pl : Option Addr) (fl cn cl : Nat) (h : Hd) (p1 p2 : Option Addr) (k1 c1 k2 c2 : Nat) (done : List (Bs × J n)) (wr : World) (vn vl : Value) : Prop where
 names : OwnT (B + 4) wr (done.map fun f => f.1) vn
 vals : OwnV (fun c => av c ∨ B <= c) (B + 4) wr n (done.map fun f => f.2) vl
 b0 : Box wr B ⟨6, false, 0, []⟩ (.slice pn fl cn) (.slice pl fl cl)
 b1 : Box wr (B + 1) h (.slice p1 k1 c1) (.slice p2 k2 c2)
 b2 : Box wr (B + 1 + 1) ⟨0, false, 0, []⟩ (.slice none 0 0) (.slice none 0 0)
 b3 : Box wr (B + 1 + 1 + 1) ⟨6, false, 0, []⟩ vn vl
 below : Below B w wr
 size : B + 4 <= wr.heap.size
theorem OwnT.shape {N : Nat} {w : World} {L : List Bs} {v : Value} (h : OwnT N w L v) : ∃ p c, v = .slice p L.length c := by
 rcases h.2 with ⟨rfl, h0⟩ | ⟨g, cap, cur, rfl, _⟩
 ·exact ⟨none, 0, by rw [h0]⟩
 ·exact ⟨_, _, rfl⟩
theorem OwnV.shape {av : Nat -> Prop} {N n : Nat} {w : World} {xs : List (J n)} {v : Value} (h : OwnV av N w n xs v) : ∃ p c, v = .slice p xs.length c := by
 obtain ⟨us, _, h, _⟩ := h
 rcases h.2 with ⟨rfl, h0⟩ | ⟨g, cap, cur, rfl, _⟩
 ·exact ⟨none, 0, by rw [h0]⟩
 ·exact ⟨_, _, rfl⟩
def SetLoop (av : Nat -> Prop) {n : Nat} (w : World) (B : Nat) (pn pl : Option Addr) (cn cl : Nat) (p1 p2 : Option Addr) (k1 c1 k2 c2 : Nat) (fs : List (Bs × J n)) (nm : Bs) (j : J n) (z i : Value) (wr : World) : Prop :=
 ∃ (k : Nat) (q : Bool) (done : List (Bs × J n)) (vn vl : Value), k <= fs.length /\ z = .bool q /\ i = .int .i64 k /\ setF fs nm j = done ++ setGo nm j q (fs.drop k) /\ done.length <= k + (if q then 1 else 0) /\ SetAt av w B pn pl fs.length cn cl (headJ n j) p1 p2 k1 c1 k2 c2 done wr vn vl
theorem news_grown {w w' : World} {row : Option Nat} {g : Nat} {news : List Value} (h : ∀ j u, news[j]? = some u -> w.cell? ((⟨g, 0, none⟩ : Addr).add j) = some u) (hg : w.grownBy w' row) (hne : some g ≠ row) : ∀ j u, news[j]? = some u -> w'.cell? ((⟨g, 0, none⟩ : Addr).add j) = some u :=
 fun j u hu => cell_grown_old hg (h j u hu) (by rw [Addr.add_lit]; exact hne)
theorem news_alloc {w : World} {o : Obj} {g : Nat} {news : List Value} (h : ∀ j u, news[j]? = some u -> w.cell? ((⟨g, 0, none⟩ : Addr).add j) = some u) : ∀ j u, news[j]? = some u -> (w.alloc o).cell? ((⟨g, 0, none⟩ : Addr).add j) = some u :=
 fun j u hu => cell_alloc_old (h j u hu)
theorem text_new (w : World) (s : ByteArray) : ∀ j u, [Value.string s][j]? = some u -> (w.alloc (.cells #[.string s] 9)).cell? ((⟨w.heap.size, 0, none⟩ : Addr).add j) = some u :=
 World.news_of_block (cs := #[.string s]) (t := 9) (fr := (0, 0)) (heap_alloc_new w _)
theorem text_new2 (w : World) (o : Obj) (s : ByteArray) : ∀ j u, [Value.string s][j]? = some u -> ((w.drew.alloc o).alloc (.cells #[.string s] 9)).cell? ((⟨w.heap.size + 1, 0, none⟩ : Addr).add j) = some u := by
 have h := text_new (w.drew.alloc o) s
 have e : (w.drew.alloc o).heap.size = w.heap.size + 1 := by simp
 rw [e] at h
 exact h
theorem six_new2 (w : World) (o : Obj) (h : Hd) (nm l : Value) : ∀ j u, (six3 (h, nm, l))[j]? = some u -> ((w.drew.alloc o).alloc (.cells #[.int .i64 h.k, .bool h.b, .int .i64 h.i, .string ⟨h.s.toArray⟩, nm, l] 38)).cell? ((⟨w.heap.size + 1, 0, none⟩ : Addr).add j) = some u := by
 have h1 := six_new (w.drew.alloc o) h nm l
 have e : (w.drew.alloc o).heap.size = w.heap.size + 1 := by simp
 rw [e] at h1
 exact h1
theorem six_first (w : World) (o : Obj) (h : Hd) (nm l : Value) : ∀ j u, (six3 (h, nm, l))[j]? = some u -> ((w.drew.alloc (.cells #[.int .i64 h.k, .bool h.b, .int .i64 h.i, .string ⟨h.s.toArray⟩, nm, l] 38)).alloc o).cell? ((⟨w.heap.size, 0, none⟩ : Addr).add j) = some u := news_alloc (six_new w.drew h nm l)
theorem text_first (w : World) (o : Obj) (s : ByteArray) : ∀ j u, [Value.string s][j]? = some u -> ((w.drew.alloc (.cells #[.string s] 9)).alloc o).cell? ((⟨w.heap.size, 0, none⟩ : Addr).add j) = some u := news_alloc (text_new w.drew s)
theorem nm_eta (nm : ByteArray) : nm = ⟨nm.data.toList.toArray⟩ := by cases nm; simp
theorem grown_drew (w : World) : w.grownBy w.drew none := ⟨rfl, rfl, rfl, Nat.le_refl _, fun _ _ _ => rfl⟩
theorem grown_none {a b c : World} (h : a.grownBy b none) (k : b.grownBy c none) : a.grownBy c none :=
 ⟨k.os.trans h.os, k.tape.trans h.tape, k.output.trans h.output, Nat.le_trans h.size k.size, fun x hx hne => (k.block x (Nat.lt_of_lt_of_le hx h.size) hne).trans (h.block x hx hne)⟩
theorem grown_one (w : World) (o : Obj) : w.grownBy (w.drew.alloc o) none := grown_none (grown_drew w) (World.grownBy_alloc _ _ _)
theorem grown_two (w : World) (o o' : Obj) : w.grownBy ((w.drew.alloc o).alloc o') none := grown_none (grown_one w o) (World.grownBy_alloc _ _ _)
theorem grown_refl (w : World) : w.grownBy w none := ⟨rfl, rfl, rfl, Nat.le_refl _, fun _ _ _ => rfl⟩
theorem own_none (v : Value) : v.ownBlock = none ∨ v.ownBlock ≠ (none : Option Nat) := by
 cases v.ownBlock with
 | none => exact Or.inl rfl
 | some x => exact Or.inr (fun e => by cases e)
theorem set_join {av : Nat -> Prop} {n : Nat} {w : World} {B : Nat} {pn pl : Option Addr} {fl cn cl : Nat} {h : Hd} {p1 p2 : Option Addr} {k1 c1 k2 c2 : Nat} {done : List (Bs × J n)} {wr W1 wa W2 wb : World} {vn vl : Value} {us : List Six3} {nm : Bs} {nmv : ByteArray} {x : J n} {s1 s2 : Value} {ga ca gb cb : Nat}
  (hS : SetAt av w B pn pl fl cn cl h p1 p2 k1 c1 k2 c2 done wr vn vl) (hx : RSt (fun c => av c ∨ B <= c) wr n x (rfV (headJ n x) s1 s2))
  (hul : us.length = (done.map fun f => f.2).length) (hue : ∀ (i : Nat) (x : J n) (u : Six3), (done.map fun f => f.2)[i]? = some x -> us[i]? = some u -> u.1 = headJ n x /\ RSt (fun c => (av c ∨ B <= c) ∨ vl.ownBlock = some c) wr n x (rfV u.1 u.2.1 u.2.2))
  (g1 : wr.grownBy W1 none) (gA : W1.grownBy wa vn.ownBlock) (oA : wa.ownsRow (B + 4) 9 1 (.slice (some ⟨ga, 0, none⟩) (done.length + 1) ca) (done.length + 1) (((done.map fun f => f.1).map fun s => .string ⟨s.toArray⟩) ++ [.string nmv])) (hnm : nmv = ⟨nm.toArray⟩)
  (g2 : wa.grownBy W2 none) (gB : W2.grownBy wb vl.ownBlock) (oB : wb.ownsRow (B + 4) 38 6 (.slice (some ⟨gb, 0, none⟩) (done.length + 1) cb) (done.length + 1) (us.flatMap six3 ++ six3 (headJ n x, s1, s2))) (hat : vl.ownBlock = some gb ∨ W2.heap.size <= gb) :
  SetAt av w B pn pl fl cn cl h p1 p2 k1 c1 k2 c2 (done ++ [(nm, x)]) ((wb.setCell ⟨B + 1 + 1 + 1, 4, none⟩ (.slice (some ⟨ga, 0, none⟩) (done.length + 1) ca)).setCell ⟨B + 1 + 1 + 1, 5, none⟩ (.slice (some ⟨gb, 0, none⟩) (done.length + 1) cb)) (.slice (some ⟨ga, 0, none⟩) (done.length + 1) ca) (.slice (some ⟨gb, 0, none⟩) (done.length + 1) cb) := by
 have e1 : (done.map fun f => f.1).length = done.length := List.length_map _
 have e2 : (done.map fun f => f.2).length = done.length := List.length_map _
 have rn := hS.names.row
 have rv := hS.vals.row
 have hna : ∀ k, k < B + 4 -> some k ≠ vn.ownBlock := fun k hk e => by have := (rn k e.symm).1; omega
 have hnb : ∀ k, k < B + 4 -> some k ≠ vl.ownBlock := fun k hk e => by have := (rv k e.symm).1; omega
 have up : ∀ {g : Nat} {h : Hd} {a b : Value}, g < B + 4 -> Box wr g h a b -> Box wb g h a b := fun {g h a b} hg hb =>
  (((hb.grown g1 (fun e => by cases e)).grown gA (hna g hg)).grown g2 (fun e => by cases e)).grown gB (hnb g hg)
 have hb3 := up (by omega) hS.b3
 have hVa : OwnV (fun c => av c ∨ B <= c) (B + 4) wa n (done.map fun f => f.2) vl := by
  refine ((hS.vals.kept g1 (own_none _) (fun k e => by cases e)).kept gA ?_ (fun k e => Or.inr (by have := (rn k e).1; omega)))
  rcases ownT_apart hS.names hS.vals with h | h
  ·rw [h]; exact own_none _
  ·exact Or.inr (fun e => h e.symm)
 have hTb : OwnT (B + 4) wb ((done.map fun f => f.1) ++ [nm]) (.slice (some ⟨ga, 0, none⟩) (done.length + 1) ca) := by
  have h1 : OwnT (B + 4) wa ((done.map fun f => f.1) ++ [nm]) (.slice (some ⟨ga, 0, none⟩) (done.length + 1) ca) := OwnT.snoc (by rw [e1, <- hnm]; exact oA)
  exact (h1.kept g2 (own_none _)).kept gB (ownT_apart (h1.kept g2 (own_none _)) (hVa.kept g2 (own_none _) (fun k e => by cases e)))
 have hmv : ∀ {x : J n} {u : Value} {av' : Nat -> Prop}, (∀ c, B <= c -> av' c) -> RSt av' wr n x u -> RSt av' W2 n x u := fun {x u av'} ha h =>
  ((h.grown g1 (fun k e => by cases e)).grown gA (fun k e => ha k (by have := (rn k e).1; omega))).grown g2 (fun k e => by cases e)
 have hVb : OwnV (fun c => av c ∨ B <= c) (B + 4) wb n ((done.map fun f => f.2) ++ [x]) (.slice (some ⟨gb, 0, none⟩) (done.length + 1) cb) := by
  have h9 := OwnV.snoc (g := gb) (cap := cb) (v := vl) hul (fun i y u hy hu => ⟨(hue i y u hy hu).1, hmv (fun c hc => Or.inl (Or.inr hc)) (hue i y u hy hu).2⟩) (by rw [e2]; exact oB) gB hat (hmv (fun c hc => Or.inl (Or.inr hc)) (hx.wide (fun c e => by
   rcases e with e | e
   ·exact Or.inl e
   ·exact Or.inl (Or.inr (by have := (rv c e).1; omega)))))
  rw [e2] at h9
  exact h9
 have hsz : B + 4 <= wb.heap.size := by
  have := hS.size; have := g1.size; have := gA.size; have := g2.size; have := gB.size
  omega
 have hbl : Below B w wb := by
  have hB0 := hS.below
  have q1 := hB0.grown g1 (by have := hS.size; omega) (fun k e => by cases e)
  have q2 := q1.grown gA (by have := hS.size; have := g1.size; omega) (fun k e => by have := (rn k e).1; omega)
  have q3 := q2.grown g2 (by have := hS.size; have := g1.size; have := gA.size; omega) (fun k e => by cases e)
  exact q3.grown gB (by have := hS.size; have := g1.size; have := gA.size; have := g2.size; omega) (fun k e => by have := (rv k e).1; omega)
 refine ⟨?_, ?_, ((up (by omega) hS.b0).other (by omega) _).other (by omega) _, ((up (by omega) hS.b1).other (by omega) _).other (by omega) _, ((up (by omega) hS.b2).other (by omega) _).other (by omega) _, (hb3.setN _).setL _, (hbl.setCell (by show B <= B + 1 + 1 + 1; omega) _).setCell (by show B <= B + 1 + 1 + 1; omega) _, by rw [heap_setCell_size, heap_setCell_size]; exact hsz⟩
 ·rw [List.map_append]
  exact (hTb.far (grownBy_setCell _ _ _ _) (fun k e => by cases e; omega)).far (grownBy_setCell _ _ _ _) (fun k e => by cases e; omega)
 ·rw [List.map_append]
  exact (hVb.far (grownBy_setCell _ _ _ _) (fun k e => by cases e; exact ⟨by omega, Or.inr (by omega)⟩)).far (grownBy_setCell _ _ _ _) (fun k e => by cases e; exact ⟨by omega, Or.inr (by omega)⟩)
def Loc (av : Nat -> Prop) (a b c : Nat) : Prop := av c ∨ (a <= c /\ c < b)
theorem RStrs.wide {av av' : Nat -> Prop} {w : World} {L : List Bs} {v : Value} (h : RStrs av w L v) (ha : ∀ c, av' c -> av c ∨ w.heap.size <= c) : RStrs av' w L v :=
 h.move (Nat.le_refl _) (fun _ _ _ => rfl) (fun c hc hn e => by rcases ha c e with h1 | h1
                                                                · exact hn h1
                                                                · omega)
theorem RVals.wide {av av' : Nat -> Prop} {w : World} {n : Nat} {xs : List (J n)} {v : Value} (h : RVals av w n xs v) (ha : ∀ c, av' c -> av c ∨ w.heap.size <= c) : RVals av' w n xs v :=
 h.move (Nat.le_refl _) (fun _ _ _ => rfl) (fun c hc hn e => by rcases ha c e with h1 | h1
                                                                · exact hn h1
                                                                · omega)
section
variable {av : Nat -> Prop} {w wr w' : World} {n b : Nat}
theorem loc_wide (c : Nat) (e : Loc av w.heap.size b c) : av c ∨ w.heap.size <= c := by
 rcases e with e | e
 ·exact Or.inl e
 ·exact Or.inr e.1
theorem RSt.loc {j : J n} {v : Value} (h : RSt av w n j v) (hb : Below w.heap.size w wr) : RSt (Loc av w.heap.size b) wr n j v := (h.wide loc_wide).below hb
theorem RStrs.loc {L : List Bs} {v : Value} (h : RStrs av w L v) (hb : Below w.heap.size w wr) : RStrs (Loc av w.heap.size b) wr L v := (h.wide loc_wide).below hb
theorem RVals.loc {xs : List (J n)} {v : Value} (h : RVals av w n xs v) (hb : Below w.heap.size w wr) : RVals (Loc av w.heap.size b) wr n xs v := (h.wide loc_wide).below hb
theorem RStrs.unloc {a : Nat} {L : List Bs} {v : Value} (h : RStrs (Loc av a b) w L v) : RStrs av w L v := h.wide (fun c e => Or.inl (Or.inl e))
theorem RVals.unloc {a : Nat} {xs : List (J n)} {v : Value} (h : RVals (Loc av a b) w n xs v) : RVals av w n xs v := h.wide (fun c e => Or.inl (Or.inl e))
end
structure OutAt (av : Nat -> Prop) (B : Nat) {n : Nat} (s : List (Bs × J n)) (vn vl : Value) (wr : World) : Prop where
 names : RStrs av wr (s.map fun f => f.1) vn
 vals : RVals av wr n (s.map fun f => f.2) vl
 o : Box wr B ⟨6, false, 0, []⟩ vn vl
 hi : av B
 free : ∀ c, wr.heap.size <= c -> ¬ av c
section
variable {av : Nat -> Prop} {B n : Nat} {s s' : List (Bs × J n)} {vn vl vn' vl' : Value} {wr w' : World}
theorem OutAt.below (h : OutAt av B s vn vl wr) (g : Below wr.heap.size wr w') : OutAt av B s vn vl w' :=
 ⟨h.names.below g, h.vals.below g, h.o.below g, h.hi, fun c hc => h.free c (Nat.le_trans g.size hc)⟩
theorem OutAt.put (h : OutAt av B s vn vl wr) (hn : RStrs av wr (s'.map fun f => f.1) vn') (hl : RVals av wr n (s'.map fun f => f.2) vl') :
  OutAt av B s' vn' vl' (put6 wr B (.int .i64 6) (.bool false) (.int .i64 0) (.string ⟨#[]⟩) vn' vl') := by
 have g := put6_grown wr B (.int .i64 6) (.bool false) (.int .i64 0) (.string ⟨#[]⟩) vn' vl'
 exact ⟨hn.grown g (fun k e => by cases e; exact h.hi), hl.grown g (fun k e => by cases e; exact h.hi), put6_box h.o ⟨6, false, 0, []⟩ vn' vl', h.hi, fun c hc => h.free c (Nat.le_trans g.size hc)⟩
theorem OutAt.shape (h : OutAt av B s vn vl wr) : (∃ p c, vn = .slice p s.length c) /\ ∃ p c, vl = .slice p s.length c := by
 obtain ⟨p, c, e, _⟩ := h.names.form
 obtain ⟨q, d, f, _⟩ := h.vals.form
 rw [List.length_map] at e f
 exact ⟨⟨p, c, e⟩, q, d, f⟩
end
structure DAt (av : Nat -> Prop) (w : World) {n : Nat} (dfs : List (Bs × J n)) (dh : Hd) (dn dl : Value) : Prop where
 names : RStrs av w (dfs.map fun f => f.1) dn
 vals : (dh = ⟨6, false, 0, []⟩ /\ RVals av w n (dfs.map fun f => f.2) dl) ∨ (dh.k ≠ 6 /\ dfs = [])
 shape : ∃ p k c, dl = .slice p k c
theorem DAt.loc {av : Nat -> Prop} {w w' : World} {n b : Nat} {dfs : List (Bs × J n)} {dh : Hd} {dn dl : Value} (h : DAt av w dfs dh dn dl) (g : Below w.heap.size w w') : DAt (Loc av w.heap.size b) w' dfs dh dn dl :=
 ⟨h.names.loc g, by
  rcases h.vals with ⟨e, hv⟩ | hv
  ·exact Or.inl ⟨e, hv.loc g⟩
  ·exact Or.inr hv, h.shape⟩
def ROpt (av : Nat -> Prop) (w : World) (n : Nat) (d : Option (J n)) (v : Value) : Prop :=
 match d with
 | none => v = rfV ⟨0, false, 0, []⟩ (.slice none 0 0) (.slice none 0 0)
 | some x => RSt av w n x v
theorem ROpt.below {av : Nat -> Prop} {w w' : World} {n : Nat} {d : Option (J n)} {v : Value} (h : ROpt av w n d v) (g : Below w.heap.size w w') : ROpt av w' n d v := by
 cases d with
 | none => exact h
 | some x => exact RSt.below h g
theorem ROpt.form {av : Nat -> Prop} {w : World} {n : Nat} {d : Option (J n)} {v : Value} (h : ROpt av w n d v) : ∃ dh p k c q l e, v = rfV dh (.slice p k c) (.slice q l e) := by
 cases d with
 | none => exact ⟨_, _, _, _, _, _, _, h⟩
 | some x =>
  obtain ⟨nm, l, rfl⟩ := rst_form h
  obtain ⟨⟨p, k, c, rfl⟩, q, k', c', rfl⟩ := rst_sl h
  exact ⟨_, _, _, _, _, _, _, rfl⟩
end Go.Proofs.YtjcdklbimaclkaaGreatDoor
namespace Go.Proofs.YtjcdklbimaclkaaGreatDoor
set_option linter.unusedVariables false
set_option linter.unusedSimpArgs false
theorem cmp_self : ∀ a : Bs, Lib.compareBytes a a = 0
 | [] => rfl
 | x :: a => by
  rw [Lib.compareBytes, if_neg (UInt8.lt_irrefl x), if_neg (UInt8.lt_irrefl x)]
  exact cmp_self a
theorem cmp_vals : ∀ a b : Bs, Lib.compareBytes a b = 0 ∨ Lib.compareBytes a b = 1 ∨ Lib.compareBytes a b = -1
 | [], [] => Or.inl rfl
 | [], _ :: _ => Or.inr (Or.inr rfl)
 | _ :: _, [] => Or.inr (Or.inl rfl)
 | x :: a, y :: b => by
  rw [Lib.compareBytes]
  split
  ·exact Or.inr (Or.inr rfl)
  ·split
   ·exact Or.inr (Or.inl rfl)
   ·exact cmp_vals a b
theorem cmp_eq : ∀ a b : Bs, Lib.compareBytes a b = 0 -> a = b
 | [], [], _ => rfl
 | [], _ :: _, h => by rw [Lib.compareBytes] at h; omega
 | _ :: _, [], h => by rw [Lib.compareBytes] at h; omega
 | x :: a, y :: b, h => by
  rw [Lib.compareBytes] at h
  split at h
  ·omega
  ·split at h
   ·omega
   ·rename_i h1 h2
    have e : x = y := UInt8.toNat_inj.1 (by rw [UInt8.lt_iff_toNat_lt] at h1 h2; omega)
    rw [e, cmp_eq a b h]
theorem cmp_swap : ∀ a b : Bs, Lib.compareBytes b a = - Lib.compareBytes a b
 | [], [] => rfl
 | [], _ :: _ => rfl
 | _ :: _, [] => rfl
 | x :: a, y :: b => by
  rw [Lib.compareBytes, Lib.compareBytes]
  by_cases h1 : x < y
  ·have h2 : ¬ y < x := by rw [UInt8.lt_iff_toNat_lt] at h1 ⊢; omega
   simp [h1, h2]
  ·by_cases h2 : y < x
   ·simp [h1, h2]
   ·simp [h1, h2]
    exact cmp_swap a b
theorem cmp_trans : ∀ a b c : Bs, Lib.compareBytes a b < 0 -> Lib.compareBytes b c < 0 -> Lib.compareBytes a c < 0
 | [], [], _, h, _ => by rw [Lib.compareBytes] at h; omega
 | [], _ :: _, [], _, h => by rw [Lib.compareBytes] at h; omega
 | [], _ :: _, _ :: _, _, _ => by rw [Lib.compareBytes]; omega
 | _ :: _, [], _, h, _ => by rw [Lib.compareBytes] at h; omega
 | _ :: _, _ :: _, [], _, h => by rw [Lib.compareBytes] at h; omega
 | x :: a, y :: b, z :: c, h, g => by
  rw [Lib.compareBytes] at h g ⊢
  simp only [UInt8.lt_iff_toNat_lt] at h g ⊢
  by_cases h1 : x.toNat < y.toNat
  ·by_cases g1 : y.toNat < z.toNat
   ·rw [if_pos (by omega)]; omega
   ·rw [if_neg g1] at g
    by_cases g2 : z.toNat < y.toNat
    ·rw [if_pos g2] at g; omega
    ·rw [if_pos (by omega)]; omega
  ·rw [if_neg h1] at h
   by_cases h2 : y.toNat < x.toNat
   ·rw [if_pos h2] at h; omega
   ·rw [if_neg h2] at h
    by_cases g1 : y.toNat < z.toNat
    ·rw [if_pos (by omega)]; omega
    ·rw [if_neg g1] at g
     by_cases g2 : z.toNat < y.toNat
     ·rw [if_pos g2] at g; omega
     ·rw [if_neg g2] at g
      rw [if_neg (by omega), if_neg (by omega)]
      exact cmp_trans a b c h g
theorem less_iff (a b : Bs) : less a b = true ↔ Lib.compareBytes a b < 0 := by simp [less]
def Rising {α : Type} (fs : List (Bs × α)) : Prop := fs.Pairwise fun f g => less f.1 g.1 = true
def placeOfName {α : Type} (fs : List (Bs × α)) (nm : Bs) : Nat := (fs.takeWhile fun f => less f.1 nm).length
theorem place_le {α : Type} (fs : List (Bs × α)) (nm : Bs) : placeOfName fs nm <= fs.length := (List.takeWhile_sublist _).length_le
theorem place_of {α : Type} : ∀ (fs : List (Bs × α)) (nm : Bs) (i : Nat), i <= fs.length -> (∀ (x : Nat) (f : Bs × α), x < i -> fs[x]? = some f -> less f.1 nm = true) -> (∀ (f : Bs × α), fs[i]? = some f -> less f.1 nm = false) -> placeOfName fs nm = i
 | [], nm, i, hi, _, _ => by simp at hi; subst hi; rfl
 | f :: fs, nm, 0, _, _, h2 => by
  have := h2 f rfl
  unfold placeOfName
  rw [List.takeWhile_cons, if_neg (by simp [this])]
  rfl
 | f :: fs, nm, i + 1, hi, h1, h2 => by
  have h0 := h1 0 f (by omega) rfl
  have ih := place_of fs nm i (by simpa using hi) (fun x g hx hg => h1 (x + 1) g (by omega) (by simpa using hg)) (fun g hg => h2 g (by simpa using hg))
  unfold placeOfName at ih ⊢
  rw [List.takeWhile_cons, if_pos h0, List.length_cons, ih]
theorem insert_eq {α : Type} (fs : List (Bs × α)) (nm : Bs) (v : α) : insertAt fs nm v = fs.take (placeOfName fs nm) ++ (nm, v) :: fs.drop (placeOfName fs nm) := by
 unfold insertAt placeOfName
 have h := List.takeWhile_append_dropWhile (p := fun f : Bs × α => less f.1 nm) (l := fs)
 have h1 : fs.take (fs.takeWhile fun f => less f.1 nm).length = fs.takeWhile fun f => less f.1 nm := (List.prefix_iff_eq_take.1 (List.takeWhile_prefix _)).symm
 have h2 : fs.drop (fs.takeWhile fun f => less f.1 nm).length = fs.dropWhile fun f => less f.1 nm := by
  have e : fs.drop (fs.takeWhile fun f => less f.1 nm).length = ((fs.takeWhile fun f => less f.1 nm) ++ fs.dropWhile fun f => less f.1 nm).drop (fs.takeWhile fun f => less f.1 nm).length := by rw [h]
  rw [e, List.drop_left]
 rw [h1, h2]
theorem rising_get {α : Type} {fs : List (Bs × α)} (h : Rising fs) {i j : Nat} {f g : Bs × α} (hij : i < j) (hf : fs[i]? = some f) (hg : fs[j]? = some g) : less f.1 g.1 = true := by
 obtain ⟨hi, rfl⟩ := List.getElem?_eq_some_iff.1 hf
 obtain ⟨hj, rfl⟩ := List.getElem?_eq_some_iff.1 hg
 exact List.pairwise_iff_getElem.1 h i j hi hj hij
theorem place_spec {α : Type} (fs : List (Bs × α)) (nm : Bs) : (∀ (x : Nat) (f : Bs × α), x < placeOfName fs nm -> fs[x]? = some f -> less f.1 nm = true) /\ ∀ (f : Bs × α), fs[placeOfName fs nm]? = some f -> less f.1 nm = false := by
 induction fs with
 | nil => exact ⟨fun x f _ h => by simp at h, fun f h => by simp at h⟩
 | cons f fs ih =>
  unfold placeOfName
  rw [List.takeWhile_cons]
  split
  ·rename_i hl
   refine ⟨fun x g hx hg => ?_, fun g hg => ?_⟩
   ·cases x with
    | zero => simp at hg; subst hg; exact hl
    | succ x => exact ih.1 x g (by simpa [placeOfName] using hx) (by simpa using hg)
   ·exact ih.2 g (by simpa [placeOfName] using hg)
  ·rename_i hl
   refine ⟨fun x g hx hg => by simp at hx, fun g hg => ?_⟩
   simp at hg
   subst hg
   simpa using hl
theorem any_place {α : Type} {fs : List (Bs × α)} (h : Rising fs) (nm : Bs) : (fs.any fun f => f.1 == nm) = (match fs[placeOfName fs nm]? with | none => false | some f => decide (Lib.compareBytes f.1 nm = 0)) := by
 have hs := place_spec fs nm
 rw [Bool.eq_iff_iff, List.any_eq_true]
 constructor
 ·rintro ⟨f, hf, he⟩
  obtain ⟨x, hx, rfl⟩ := List.getElem_of_mem hf
  have he' : fs[x].1 = nm := by simpa using he
  have hx' : fs[x]? = some fs[x] := List.getElem?_eq_getElem hx
  have hge : placeOfName fs nm <= x := by
   rcases Nat.lt_or_ge x (placeOfName fs nm) with h' | h'
   ·have := hs.1 x _ h' hx'
    rw [he', less_iff, cmp_self] at this
    omega
   ·exact h'
  have hle : x <= placeOfName fs nm := by
   rcases Nat.lt_or_ge (placeOfName fs nm) x with h' | h'
   ·have hp : placeOfName fs nm < fs.length := by omega
    have hp' : fs[placeOfName fs nm]? = some fs[placeOfName fs nm] := List.getElem?_eq_getElem hp
    have h1 := rising_get h h' hp' hx'
    rw [he'] at h1
    have h2 := hs.2 _ hp'
    rw [h1] at h2
    cases h2
   ·exact h'
  have e : placeOfName fs nm = x := by omega
  rw [e, hx']
  simp [he', cmp_self]
 ·intro hm
  cases hp : fs[placeOfName fs nm]? with
  | none => rw [hp] at hm; cases hm
  | some f =>
   rw [hp] at hm
   have := cmp_eq _ _ (of_decide_eq_true hm)
   exact ⟨f, List.mem_of_getElem? hp, by simp [this]⟩
theorem less_of_not {a b : Bs} (h : less a b = false) (hne : a ≠ b) : less b a = true := by
 rw [less_iff, cmp_swap a b]
 have h1 : ¬ Lib.compareBytes a b < 0 := by simpa [less] using h
 rcases cmp_vals a b with h2 | h2 | h2
 ·exact absurd (cmp_eq _ _ h2) hne
 ·omega
 ·omega
theorem rising_insert {α : Type} {fs : List (Bs × α)} (h : Rising fs) (nm : Bs) (v : α) (hn : (fs.any fun f => f.1 == nm) = false) : Rising (insertAt fs nm v) := by
 have hs := place_spec fs nm
 rw [insert_eq]
 unfold Rising
 rw [List.pairwise_append]
 have hne : ∀ f ∈ fs, f.1 ≠ nm := by
  intro f hf e
  rw [List.any_eq_false] at hn
  exact hn f hf (by simp [e])
 refine ⟨List.Pairwise.sublist (List.take_sublist _ _) h, ?_, ?_⟩
 ·rw [List.pairwise_cons]
  refine ⟨fun g hg => ?_, List.Pairwise.sublist (List.drop_sublist _ _) h⟩
  obtain ⟨x, hx, rfl⟩ := List.getElem_of_mem hg
  rw [List.getElem_drop]
  have hx' : placeOfName fs nm + x < fs.length := by simp at hx; omega
  have hget : fs[placeOfName fs nm + x]? = some fs[placeOfName fs nm + x] := List.getElem?_eq_getElem hx'
  have hp' : fs[placeOfName fs nm]? = some (fs[placeOfName fs nm]'(by omega)) := List.getElem?_eq_getElem (by omega)
  have h0 : less nm (fs[placeOfName fs nm]'(by omega)).1 = true := less_of_not (hs.2 _ hp') (hne _ (List.getElem_mem _))
  rcases Nat.eq_zero_or_pos x with rfl | hpos
  ·exact h0
  ·have h1 := rising_get h (show placeOfName fs nm < placeOfName fs nm + x by omega) hp' hget
   rw [less_iff] at h0 h1 ⊢
   exact cmp_trans _ _ _ h0 h1
 ·intro f hf g hg
  obtain ⟨x, hx, rfl⟩ := List.getElem_of_mem hf
  have hxl : x < placeOfName fs nm := by simp at hx; omega
  have hxf : x < fs.length := by have := place_le fs nm; omega
  rw [List.getElem_take]
  have hget : fs[x]? = some fs[x] := List.getElem?_eq_getElem hxf
  have h1 := hs.1 x _ hxl hget
  rcases List.mem_cons.1 hg with rfl | hg
  ·exact h1
  ·obtain ⟨y, hy, rfl⟩ := List.getElem_of_mem hg
   rw [List.getElem_drop]
   have hy' : placeOfName fs nm + y < fs.length := by simp at hy; omega
   exact rising_get h (show x < placeOfName fs nm + y by omega) hget (List.getElem?_eq_getElem hy')
def GoodLeaf : Leaf -> Prop
 | some (Sum.inr (Sum.inl i)) => -1000000000000000000 < i /\ i < 1000000000000000000
 | some (Sum.inr (Sum.inr s)) => ∀ c ∈ s, meant c = true
 | _ => True
def Good : (n : Nat) -> J n -> Prop
 | 0, l => GoodLeaf l
 | _ + 1, Sum.inl l => GoodLeaf l
 | n + 1, Sum.inr (Sum.inl xs) => ∀ x ∈ xs, Good n x
 | n + 1, Sum.inr (Sum.inr fs) => Rising fs /\ ∀ f ∈ fs, (∀ c ∈ f.1, meant c = true) /\ Good n f.2
def FitLeaf : Leaf -> Prop
 | some (Sum.inr (Sum.inl i)) => -1000000000000000000 < i /\ i < 1000000000000000000
 | _ => True
def Fit : (n : Nat) -> J n -> Prop
 | 0, l => FitLeaf l
 | _ + 1, Sum.inl l => FitLeaf l
 | n + 1, Sum.inr (Sum.inl xs) => ∀ x ∈ xs, Fit n x
 | n + 1, Sum.inr (Sum.inr fs) => ∀ f ∈ fs, Fit n f.2
theorem fit_leaf {l : Leaf} (h : GoodLeaf l) : FitLeaf l := by
 rcases l with _ | b | i | s
 ·trivial
 ·trivial
 ·exact h
 ·trivial
theorem fit_of_good : ∀ (n : Nat) (j : J n), Good n j -> Fit n j
 | 0, l, h => fit_leaf h
 | _ + 1, Sum.inl l, h => fit_leaf h
 | n + 1, Sum.inr (Sum.inl xs), h => fun x hx => fit_of_good n x (h x hx)
 | n + 1, Sum.inr (Sum.inr fs), h => fun f hf => fit_of_good n f.2 (h.2 f hf).2
theorem good_leaf {n : Nat} {l : Leaf} (h : GoodLeaf l) : Good n (leaf n l) := by
 cases n <;> exact h
theorem leafE_good {r : Bs} {l : Leaf} {r' : Bs} (h : leafE r = .ok (l, r')) : GoodLeaf l := by
 unfold leafE at h
 split at h
 ·unfold word at h; split at h <;> cases h; trivial
 ·split at h
  ·unfold word at h; split at h <;> cases h; trivial
  ·split at h
   ·unfold word at h; split at h <;> cases h; trivial
   ·split at h
    ·unfold textE at h
     cases hq : quoted r with
     | none => rw [hq] at h; cases h
     | some p =>
      rw [hq] at h
      cases h
      exact (quoted_meant hq).1
    ·unfold number at h
     simp only [] at h
     generalize (if (hd r == 45) = true then r.tail else r) = r1 at h
     split at h
     ·cases h
     ·split at h
      ·cases h
      ·split at h
       ·cases h
       ·rename_i h1 h2 h3
        cases h
        show -1000000000000000000 < numVal _ _ /\ numVal _ _ < 1000000000000000000
        have hdg : ∀ c ∈ r1.takeWhile isDigit, isDigit c = true := fun c hc => by
         have := List.all_takeWhile (p := isDigit) (l := r1)
         rw [List.all_eq_true] at this
         exact this c hc
        have hlt := decV_lt _ hdg
        have hle : 10 ^ (r1.takeWhile isDigit).length <= 10 ^ 18 := Nat.pow_le_pow_right (by decide) (by omega)
        have hb : decV (r1.takeWhile isDigit) < 1000000000000000000 := by omega
        unfold numVal
        split <;> omega
theorem rowGo_all {σ : Type} {z : UInt8} {one : σ -> Nat -> Bs -> Except Nat (σ × Nat × Bs)} {P : σ -> Prop} (h : ∀ s k r s' k' r', P s -> one s k r = .ok (s', k', r') -> P s') : ∀ (f : Nat) (s : σ) (k : Nat) (r : Bs) (s' : σ) (k' : Nat) (r' : Bs), P s -> rowGo z one f s k r = .ok (s', k', r') -> P s'
 | 0, s, k, r, s', k', r', _, e => by simp [rowGo] at e
 | f + 1, s, k, r, s', k', r', hs, e => by
  rw [rowGo] at e
  cases ho : one s k r with
  | error er => rw [ho] at e; cases e
  | ok p =>
   obtain ⟨s1, k1, r1⟩ := p
   have h1 := h s k r s1 k1 r1 hs ho
   rw [ho] at e
   simp only [] at e
   split at e
   ·cases e; exact h1
   ·split at e
    ·exact rowGo_all h f s1 k1 _ s' k' r' h1 e
    ·cases e
theorem row_all {σ : Type} {z : UInt8} {one : σ -> Nat -> Bs -> Except Nat (σ × Nat × Bs)} {P : σ -> Prop} (h : ∀ s k r s' k' r', P s -> one s k r = .ok (s', k', r') -> P s') (s : σ) (k : Nat) (r : Bs) (s' : σ) (k' : Nat) (r' : Bs) (hs : P s) (e : row z one s k r = .ok (s', k', r')) : P s' := by
 unfold row at e
 split at e
 ·cases e; exact hs
 ·exact rowGo_all h _ _ _ _ _ _ _ hs e
theorem oneItem_ok {α : Type} {pv : Nat -> Bs -> Except Nat (α × Nat × Bs)} {s s' : List α} {k k' : Nat} {r r' : Bs} (h : oneItem pv s k r = .ok (s', k', r')) : ∃ v, pv k r = .ok (v, k', r') /\ s' = s ++ [v] := by
 unfold oneItem at h
 cases hv : pv k r with
 | error er => rw [hv] at h; cases h
 | ok p =>
  obtain ⟨v, k1, r1⟩ := p
  rw [hv] at h
  cases h
  exact ⟨v, rfl, rfl⟩
theorem nameE_ok {α : Type} {fs : List (Bs × α)} {r nm r' : Bs} (h : nameE fs r = .ok (nm, r')) : ∃ q, quoted (skip r) = some (nm, q) /\ (fs.any fun f => f.1 == nm) = false /\ hd (skip q) = 58 /\ r' = (skip q).tail := by
 unfold nameE at h
 cases hq : quoted (skip r) with
 | none => rw [hq] at h; cases h
 | some p =>
  rw [hq] at h
  simp only [] at h
  split at h
  ·cases h
  ·split at h
   ·rename_i h1 h2
    cases h
    exact ⟨p.2, rfl, by rw [<- Bool.not_eq_true]; exact h1, h2, rfl⟩
   ·cases h
theorem oneField_ok {α : Type} {pv : Nat -> Bs -> Except Nat (α × Nat × Bs)} {s s' : List (Bs × α)} {k k' : Nat} {r r' : Bs} (h : oneField pv s k r = .ok (s', k', r')) : ∃ nm v r1, nameE s r = .ok (nm, r1) /\ pv k r1 = .ok (v, k', r') /\ s' = insertAt s nm v := by
 unfold oneField at h
 cases hn : nameE s r with
 | error er => rw [hn] at h; cases h
 | ok p =>
  obtain ⟨nm, r1⟩ := p
  rw [hn] at h
  simp only [] at h
  cases hv : pv k r1 with
  | error er => rw [hv] at h; cases h
  | ok p =>
   obtain ⟨v, k1, r2⟩ := p
   rw [hv] at h
   cases h
   exact ⟨nm, v, r1, rfl, hv, rfl⟩
theorem mem_insertAt {α : Type} {fs : List (Bs × α)} {nm : Bs} {v : α} {f : Bs × α} (h : f ∈ insertAt fs nm v) : f = (nm, v) ∨ f ∈ fs := by
 rw [insert_eq] at h
 rcases List.mem_append.1 h with h | h
 ·exact Or.inr (List.mem_of_mem_take h)
 ·rcases List.mem_cons.1 h with h | h
  ·exact Or.inl h
  ·exact Or.inr (List.mem_of_mem_drop h)
theorem value_cases {n k : Nat} {r : Bs} {j : J n} {k' : Nat} {r' : Bs} (e : value n k r = .ok (j, k', r')) :
  (beginE n k (skip r) = 0) /\ ((∃ l, hd (skip r) ≠ 91 /\ hd (skip r) ≠ 123 /\ leafE (skip r) = .ok (l, r') /\ j = leaf n l /\ k' = k + 1) ∨
   (∃ m, ∃ hm : n = m + 1, ∃ xs : List (J m), hd (skip r) = 91 /\ row 93 (oneItem (value m)) [] (k + 1) (skip r) = .ok (xs, k', r') /\ j = hm ▸ (Sum.inr (Sum.inl xs) : J (m + 1))) ∨
   (∃ m, ∃ hm : n = m + 1, ∃ fs : List (Bs × J m), hd (skip r) = 123 /\ row 125 (oneField (value m)) [] (k + 1) (skip r) = .ok (fs, k', r') /\ j = hm ▸ (Sum.inr (Sum.inr fs) : J (m + 1)))) := by
 cases n with
 | zero =>
  rw [value] at e
  split at e
  ·cases e
  ·rename_i h0
   have h0' : beginE 0 k (skip r) = 0 := by simpa using h0
   refine ⟨h0', Or.inl ?_⟩
   unfold leafAt at e
   cases hl : leafE (skip r) with
   | error er => rw [hl] at e; cases e
   | ok p =>
    obtain ⟨l, r1⟩ := p
    rw [hl] at e
    cases e
    have hne : hd (skip r) ≠ 91 /\ hd (skip r) ≠ 123 := by
     unfold beginE at h0'
     split at h0'
     ·simp at h0'
     ·split at h0'
      ·simp at h0'
      ·split at h0'
       ·simp at h0'
       ·rename_i h
        exact ⟨fun e => h ⟨rfl, Or.inl e⟩, fun e => h ⟨rfl, Or.inr e⟩⟩
    exact ⟨l, hne.1, hne.2, rfl, rfl, rfl⟩
 | succ n =>
  rw [value] at e
  split at e
  ·cases e
  ·rename_i h0
   refine ⟨by simpa using h0, ?_⟩
   split at e
   ·rename_i h91
    cases hr : row 93 (oneItem (value n)) [] (k + 1) (skip r) with
    | error er => rw [hr] at e; cases e
    | ok p =>
     obtain ⟨s1, k1, r1⟩ := p
     rw [hr] at e
     cases e
     exact Or.inr (Or.inl ⟨n, rfl, s1, h91, hr, rfl⟩)
   ·rename_i h91
    split at e
    ·rename_i h123
     cases hr : row 125 (oneField (value n)) [] (k + 1) (skip r) with
     | error er => rw [hr] at e; cases e
     | ok p =>
      obtain ⟨s1, k1, r1⟩ := p
      rw [hr] at e
      cases e
      exact Or.inr (Or.inr ⟨n, rfl, s1, h123, hr, rfl⟩)
    ·rename_i h123
     unfold leafAt at e
     cases hl : leafE (skip r) with
     | error er => rw [hl] at e; cases e
     | ok p =>
      obtain ⟨l, r1⟩ := p
      rw [hl] at e
      cases e
      exact Or.inl ⟨l, h91, h123, rfl, rfl, rfl⟩
theorem value_good : ∀ (n : Nat) (k : Nat) (r : Bs) (j : J n) (k' : Nat) (r' : Bs), value n k r = .ok (j, k', r') -> Good n j
 | 0, k, r, j, k', r', e => by
  rcases (value_cases e).2 with ⟨l, _, _, hl, rfl, _⟩ | ⟨m, hm, _⟩ | ⟨m, hm, _⟩
  ·exact good_leaf (leafE_good hl)
  ·cases hm
  ·cases hm
 | n + 1, k, r, j, k', r', e => by
  rcases (value_cases e).2 with ⟨l, _, _, hl, rfl, _⟩ | ⟨m, hm, xs, _, hr, hj⟩ | ⟨m, hm, fs, _, hr, hj⟩
  ·exact good_leaf (leafE_good hl)
  ·cases hm
   subst hj
   refine row_all (one := oneItem (value n)) (P := fun s => ∀ x ∈ s, Good n x) (fun s k r s' k' r' hs ho => ?_) _ _ _ _ _ _ (fun x hx => by simp at hx) hr
   obtain ⟨v, hv, rfl⟩ := oneItem_ok ho
   intro x hx
   rcases List.mem_append.1 hx with hx | hx
   ·exact hs x hx
   ·simp at hx
    subst hx
    exact value_good n k r x k' r' hv
  ·cases hm
   subst hj
   refine row_all (one := oneField (value n)) (P := fun s => Rising s /\ ∀ f ∈ s, (∀ c ∈ f.1, meant c = true) /\ Good n f.2) (fun s k r s' k' r' hs ho => ?_) _ _ _ _ _ _ ⟨List.Pairwise.nil, fun x hx => by simp at hx⟩ hr
   obtain ⟨nm, v, r1, hn, hv, rfl⟩ := oneField_ok ho
   obtain ⟨q, hq, hany, _, _⟩ := nameE_ok hn
   refine ⟨rising_insert hs.1 nm v hany, fun f hf => ?_⟩
   rcases mem_insertAt hf with rfl | hf
   ·exact ⟨(quoted_meant hq).1, value_good n k r1 v k' r' hv⟩
   ·exact hs.2 f hf
theorem read_good {s : Bs} {j : J 10} (h : read s = .ok j) : Good 10 j := by
 unfold read at h
 split at h
 ·cases h
 ·cases hv : value 10 0 s with
  | error er => rw [hv] at h; cases h
  | ok p =>
   obtain ⟨j1, k1, r1⟩ := p
   rw [hv] at h
   simp only [] at h
   split at h
   ·cases h
    exact value_good 10 0 s j k1 r1 hv
   ·cases h
end Go.Proofs.YtjcdklbimaclkaaGreatDoor
namespace Go.Proofs.YtjcdklbimaclkaaGreatDoor
open Go.RowKit
set_option linter.unusedVariables false
set_option linter.unusedSimpArgs false
theorem maxOf_snocR : ∀ (l : List Nat) (x : Nat), maxOf (l ++ [x]) = max (maxOf l) x
 | [], x => by simp [maxOf]
 | y :: l, x => by
  have := maxOf_snocR l x
  simp only [List.cons_append, maxOf] at this ⊢
  rw [this]
  omega
theorem sum_snoc (l : List Nat) (x : Nat) : (l ++ [x]).sum = l.sum + x := by simp
theorem take_snoc {α β : Type} (f : α -> β) (l : List α) (k : Nat) (x : α) (h : l[k]? = some x) : ((l.take (k + 1)).map f) = (l.take k).map f ++ [f x] := by
 have hk : k < l.length := (List.getElem?_eq_some_iff.1 h).1
 rw [List.take_succ_eq_append_getElem hk, List.map_append]
 rw [List.getElem?_eq_getElem hk] at h
 cases h
 rfl
theorem sum_take_leR (l : List Nat) (k : Nat) : (l.take k).sum <= l.sum := by
 have := congrArg List.sum (List.take_append_drop k l)
 rw [List.sum_append] at this
 omega
theorem depth_leR : ∀ (n : Nat) (j : J n), depth n j <= n
 | 0, _ => Nat.le_refl _
 | _ + 1, Sum.inl _ => Nat.zero_le _
 | n + 1, Sum.inr (Sum.inl xs) => by
  have : ∀ l : List (J n), maxOf (l.map (depth n)) <= n := fun l => by
   induction l with
   | nil => exact Nat.zero_le _
   | cons x l ih => have := depth_leR n x; simp only [List.map_cons, maxOf]; omega
  have := this xs
  simp only [depth]
  omega
 | n + 1, Sum.inr (Sum.inr fs) => by
  have : ∀ l : List (Bs × J n), maxOf (l.map fun f => depth n f.2) <= n := fun l => by
   induction l with
   | nil => exact Nat.zero_le _
   | cons x l ih => have := depth_leR n x.2; simp only [List.map_cons, maxOf]; omega
  have := this fs
  simp only [depth]
  omega
def RSizeOK (n : Nat) : Prop := ∀ (av : Nat -> Prop) (j : J n) (v : Value) (w : World), RSt av w n j v -> nodes n j <= 1000000 -> n <= 1000 ->
 Calls Tryz.prog 35 #[v] w fun e w' => e = .returned (.tuple #[.int .i64 (nodes n j), .int .i64 (depth n j)]) /\ Below w.heap.size w w'
def ZLoop {n : Nat} (w : World) (xs : List (J n)) (h : Hd) (nm l : Value) (m d i : Value) (wr : World) : Prop :=
 ∃ k : Nat, k <= xs.length /\ i = .int .i64 k /\ m = .int .i64 ((1 + ((xs.take k).map (nodes n)).sum : Nat) : Int) /\ d = .int .i64 ((maxOf ((xs.take k).map (depth n)) : Nat) : Int) /\ Below w.heap.size w wr /\ Box wr w.heap.size h nm l
set_option maxRecDepth 100000 in
set_option maxHeartbeats 2000000 in
theorem rfsize_list (n : Nat) (ih : RSizeOK n) (av : Nat -> Prop) (xs : List (J n)) (h : Hd) (hk : h.k = 5) (pa : Option Addr) (na ca : Nat) (vl : Value) (w : World) (hL : RVals av w n xs vl) (hm : 1 + (xs.map (nodes n)).sum <= 1000000) (hn : n <= 1000) :
  Calls Tryz.prog 35 #[rfV h (.slice pa na ca) vl] w fun e w' => e = .returned (.tuple #[.int .i64 ((1 + (xs.map (nodes n)).sum : Nat) : Int), .int .i64 ((maxOf (xs.map (depth n)) + 1 : Nat) : Int)]) /\ Below w.heap.size w w' := by
 obtain ⟨pl, cl, rfl, hl1, hl2, hl3⟩ := hL.form
 unfold maxLen at hl2
 have HL3 : Hid (∀ (i : Nat) (x : J n), xs[i]? = some x -> ∃ g nm' l', pl = some ⟨g, 0, none⟩ /\ g < w.heap.size /\ Six w g (i * 6) (headJ n x) nm' l' /\ RSt av w n x (rfV (headJ n x) nm' l')) := hl3
 have HIh : Hid (RSizeOK n) := ih
 have HSm : Hid (∀ k, ((xs.take k).map (nodes n)).sum <= (xs.map (nodes n)).sum) := fun k => by rw [List.map_take]; exact sum_take_leR _ _
 have HMx : Hid (∀ l : List (J n), maxOf (l.map (depth n)) <= n) := fun l => by
  induction l with
  | nil => exact Nat.zero_le _
  | cons x l ih2 => have := depth_leR n x; simp only [List.map_cons, maxOf]; omega
 have e5 : ((h.k : Int) == 5) = true := by rw [hk]; rfl
 clear hk
 unfold rfV
 obtain ⟨w0, hw0⟩ : ∃ w0, w0 = w.alloc (.cells #[.int .i64 h.k, .bool h.b, .int .i64 h.i, .string ⟨h.s.toArray⟩, .slice pa na ca, .slice pl xs.length cl] 38) := ⟨_, rfl⟩
 have HW0 : Hid (w0 = w.alloc (.cells #[.int .i64 h.k, .bool h.b, .int .i64 h.i, .string ⟨h.s.toArray⟩, .slice pa na ca, .slice pl xs.length cl] 38)) := hw0
 have HV0 : Hid (Box w0 w.heap.size h (.slice pa na ca) (.slice pl xs.length cl)) := by show Box _ _ _ _ _; rw [hw0]; exact box_new w h _ _
 have HB0 : Hid (Below w.heap.size w w0) := by show Below _ _ _; rw [hw0]; exact (Below.refl _ _).alloc (Nat.le_refl _) _
 clear hw0 hl3 hL ih
 go_enter Tryz.func35, Tryz.ntmps35
 go_wp2
 rw [<- HW0.out]
 go_loopw [4, 5, 13] (fun m d i wr => ZLoop w xs h (.slice pa na ca) (.slice pl xs.length cl) m d i wr) (fun _ _ i _ => xs.length - (intOf i).toNat)
 case atStart => exact ⟨0, Nat.zero_le _, rfl, rfl, rfl, HB0.out, HV0.out⟩
 case round =>
  obtain ⟨k, hk, rfl, rfl, rfl, hB, hV⟩ := hrel
  have HB : Hid (Below w.heap.size w wr) := hB
  have HV : Hid (Box wr w.heap.size h (.slice pa na ca) (.slice pl xs.length cl)) := hV
  have v0 := hV.c0
  obtain ⟨ms, hms⟩ : ∃ ms, ms = 1 + ((xs.take k).map (nodes n)).sum := ⟨_, rfl⟩
  obtain ⟨ds, hds⟩ : ∃ ds, ds = maxOf ((xs.take k).map (depth n)) := ⟨_, rfl⟩
  have hmz : ms <= 1000000 := by have := HSm.out k; omega
  have hdz : ds <= 1000 := by have := HMx.out (xs.take k); omega
  have HMs : Hid (ms = 1 + ((xs.take k).map (nodes n)).sum) := hms
  have HDs : Hid (ds = maxOf ((xs.take k).map (depth n))) := hds
  rw [<- hms, <- hds]
  clear hB hV hms hds HV0 HB0 HW0
  by_cases hlt : k < xs.length
  ·obtain ⟨x, hxk⟩ : ∃ x, xs[k]? = some x := ⟨xs[k], List.getElem?_eq_getElem hlt⟩
   obtain ⟨g', nm', l', rfl, hg', h6, hst⟩ := HL3.out k x hxk
   obtain ⟨⟨p1, k1, c1, rfl⟩, p2, k2, c2, rfl⟩ := rst_sl hst
   obtain ⟨x0, x1, x2, x3, x4, x5⟩ := h6.keep (HB.out.block g' hg')
   have hnx : nodes n x <= 1000000 := by
    have h9 := HSm.out (k + 1)
    rw [take_snoc (nodes n) xs k x hxk, sum_snoc] at h9
    omega
   have hdx := depth_leR n x
   have HN1 : Hid (1 + ((xs.take (k + 1)).map (nodes n)).sum = ms + nodes n x) := by show _ = _; rw [take_snoc (nodes n) xs k x hxk, sum_snoc, HMs.out]; omega
   have HD1 : Hid (maxOf ((xs.take (k + 1)).map (depth n)) = max ds (depth n x)) := by show _ = _; rw [take_snoc (depth n) xs k x hxk, maxOf_snocR, HDs.out]
   have HCall : Hid (∀ w1, Below w.heap.size w w1 -> Calls Tryz.prog 35 #[rfV (headJ n x) (.slice p1 k1 c1) (.slice p2 k2 c2)] w1 fun e w' => e = .returned (.tuple #[.int .i64 (nodes n x), .int .i64 (depth n x)]) /\ Below w1.heap.size w1 w') := fun w1 b => HIh.out av x _ w1 (hst.below b) hnx hn
   have hkI : (k : Int) < (xs.length : Int) := by omega
   clear hst h6 hxk
   go_wp2_with fail
   have HB2 : Hid (Below w.heap.size w (wr.alloc (.cells #[.int .i64 (headJ n x).k, .bool (headJ n x).b, .int .i64 (headJ n x).i, .string ⟨(headJ n x).s.toArray⟩, .slice p1 k1 c1, .slice p2 k2 c2] 38))) := HB.out.alloc HB.out.size _
   have hc := HCall.out _ HB2.out
   unfold rfV at hc
   refine Calls.mono hc ?_
   rintro e w3 ⟨rfl, b3⟩
   have HB3 : Hid (Below w.heap.size w w3) := HB2.out.trans (b3.mono HB2.out.size)
   have HV3 : Hid (Box w3 w.heap.size h (.slice pa na ca) (.slice (some ⟨g', 0, none⟩) xs.length cl)) := (HV.out.alloc _).below b3
   clear b3 hc
   generalize nodes n x = nx at *
   generalize depth n x = dx at *
   have hs1 : (ms : Int) + (nx : Int) <= 9223372036854775807 := by omega
   go_wp2_with fail
   go_roundw
   case rel =>
    have hrelN : ZLoop w xs h (.slice pa na ca) (.slice (some ⟨g', 0, none⟩) xs.length cl) (.int .i64 ((ms : Int) + (nx : Int))) (.int .i64 (if ds < dx then (dx : Int) else (ds : Int))) (.int .i64 ((k : Int) + 1)) w3 := ⟨k + 1, by omega, by go_num, by rw [HN1.out]; congr 1, by rw [HD1.out]; congr 1; split <;> omega, HB3.out, HV3.out⟩
    first | exact hrelN | ((repeat apply Exists.intro); refine ⟨hrelN, ?_⟩; first | rfl | exact ⟨rfl, rfl⟩ | exact ⟨rfl, rfl, rfl⟩ | exact ⟨rfl, rfl, rfl, rfl⟩ | exact ⟨rfl, rfl, rfl, rfl, rfl⟩)
   case measure => (simp [intOf]; omega)
  ·have HM1 : Hid (1 + (xs.map (nodes n)).sum = ms) := by show _ = _; rw [HMs.out, List.take_of_length_le (by omega)]
   have HD1 : Hid (maxOf (xs.map (depth n)) = ds) := by show _ = _; rw [HDs.out, List.take_of_length_le (by omega)]
   go_wp2_with fail
   go_ret2
   exact ⟨by rw [HM1.out, HD1.out]; rfl, HB.out⟩
set_option maxRecDepth 100000 in
set_option maxHeartbeats 2000000 in
theorem rfsize_obj (n : Nat) (ih : RSizeOK n) (av : Nat -> Prop) (xs : List (J n)) (h : Hd) (hk : h.k = 6) (pa : Option Addr) (na ca : Nat) (vl : Value) (w : World) (hL : RVals av w n xs vl) (hm : 1 + (xs.map (nodes n)).sum <= 1000000) (hn : n <= 1000) :
  Calls Tryz.prog 35 #[rfV h (.slice pa na ca) vl] w fun e w' => e = .returned (.tuple #[.int .i64 ((1 + (xs.map (nodes n)).sum : Nat) : Int), .int .i64 ((maxOf (xs.map (depth n)) + 1 : Nat) : Int)]) /\ Below w.heap.size w w' := by
 obtain ⟨pl, cl, rfl, hl1, hl2, hl3⟩ := hL.form
 unfold maxLen at hl2
 have HL3 : Hid (∀ (i : Nat) (x : J n), xs[i]? = some x -> ∃ g nm' l', pl = some ⟨g, 0, none⟩ /\ g < w.heap.size /\ Six w g (i * 6) (headJ n x) nm' l' /\ RSt av w n x (rfV (headJ n x) nm' l')) := hl3
 have HIh : Hid (RSizeOK n) := ih
 have HSm : Hid (∀ k, ((xs.take k).map (nodes n)).sum <= (xs.map (nodes n)).sum) := fun k => by rw [List.map_take]; exact sum_take_leR _ _
 have HMx : Hid (∀ l : List (J n), maxOf (l.map (depth n)) <= n) := fun l => by
  induction l with
  | nil => exact Nat.zero_le _
  | cons x l ih2 => have := depth_leR n x; simp only [List.map_cons, maxOf]; omega
 have e5 : ((h.k : Int) == 5) = false := by rw [hk]; rfl
 have e6 : ((h.k : Int) == 6) = true := by rw [hk]; rfl
 clear hk
 unfold rfV
 obtain ⟨w0, hw0⟩ : ∃ w0, w0 = w.alloc (.cells #[.int .i64 h.k, .bool h.b, .int .i64 h.i, .string ⟨h.s.toArray⟩, .slice pa na ca, .slice pl xs.length cl] 38) := ⟨_, rfl⟩
 have HW0 : Hid (w0 = w.alloc (.cells #[.int .i64 h.k, .bool h.b, .int .i64 h.i, .string ⟨h.s.toArray⟩, .slice pa na ca, .slice pl xs.length cl] 38)) := hw0
 have HV0 : Hid (Box w0 w.heap.size h (.slice pa na ca) (.slice pl xs.length cl)) := by show Box _ _ _ _ _; rw [hw0]; exact box_new w h _ _
 have HB0 : Hid (Below w.heap.size w w0) := by show Below _ _ _; rw [hw0]; exact (Below.refl _ _).alloc (Nat.le_refl _) _
 clear hw0 hl3 hL ih
 go_enter Tryz.func35, Tryz.ntmps35
 go_wp2
 rw [<- HW0.out]
 go_loopw [4, 5, 13] (fun m d i wr => ZLoop w xs h (.slice pa na ca) (.slice pl xs.length cl) m d i wr) (fun _ _ i _ => xs.length - (intOf i).toNat)
 case atStart => exact ⟨0, Nat.zero_le _, rfl, rfl, rfl, HB0.out, HV0.out⟩
 case round =>
  obtain ⟨k, hk, rfl, rfl, rfl, hB, hV⟩ := hrel
  have HB : Hid (Below w.heap.size w wr) := hB
  have HV : Hid (Box wr w.heap.size h (.slice pa na ca) (.slice pl xs.length cl)) := hV
  have v0 := hV.c0
  obtain ⟨ms, hms⟩ : ∃ ms, ms = 1 + ((xs.take k).map (nodes n)).sum := ⟨_, rfl⟩
  obtain ⟨ds, hds⟩ : ∃ ds, ds = maxOf ((xs.take k).map (depth n)) := ⟨_, rfl⟩
  have hmz : ms <= 1000000 := by have := HSm.out k; omega
  have hdz : ds <= 1000 := by have := HMx.out (xs.take k); omega
  have HMs : Hid (ms = 1 + ((xs.take k).map (nodes n)).sum) := hms
  have HDs : Hid (ds = maxOf ((xs.take k).map (depth n))) := hds
  rw [<- hms, <- hds]
  clear hB hV hms hds HV0 HB0 HW0
  by_cases hlt : k < xs.length
  ·obtain ⟨x, hxk⟩ : ∃ x, xs[k]? = some x := ⟨xs[k], List.getElem?_eq_getElem hlt⟩
   obtain ⟨g', nm', l', rfl, hg', h6, hst⟩ := HL3.out k x hxk
   obtain ⟨⟨p1, k1, c1, rfl⟩, p2, k2, c2, rfl⟩ := rst_sl hst
   obtain ⟨x0, x1, x2, x3, x4, x5⟩ := h6.keep (HB.out.block g' hg')
   have hnx : nodes n x <= 1000000 := by
    have h9 := HSm.out (k + 1)
    rw [take_snoc (nodes n) xs k x hxk, sum_snoc] at h9
    omega
   have hdx := depth_leR n x
   have HN1 : Hid (1 + ((xs.take (k + 1)).map (nodes n)).sum = ms + nodes n x) := by show _ = _; rw [take_snoc (nodes n) xs k x hxk, sum_snoc, HMs.out]; omega
   have HD1 : Hid (maxOf ((xs.take (k + 1)).map (depth n)) = max ds (depth n x)) := by show _ = _; rw [take_snoc (depth n) xs k x hxk, maxOf_snocR, HDs.out]
   have HCall : Hid (∀ w1, Below w.heap.size w w1 -> Calls Tryz.prog 35 #[rfV (headJ n x) (.slice p1 k1 c1) (.slice p2 k2 c2)] w1 fun e w' => e = .returned (.tuple #[.int .i64 (nodes n x), .int .i64 (depth n x)]) /\ Below w1.heap.size w1 w') := fun w1 b => HIh.out av x _ w1 (hst.below b) hnx hn
   have hkI : (k : Int) < (xs.length : Int) := by omega
   clear hst h6 hxk
   go_wp2_with fail
   have HB2 : Hid (Below w.heap.size w (wr.alloc (.cells #[.int .i64 (headJ n x).k, .bool (headJ n x).b, .int .i64 (headJ n x).i, .string ⟨(headJ n x).s.toArray⟩, .slice p1 k1 c1, .slice p2 k2 c2] 38))) := HB.out.alloc HB.out.size _
   have hc := HCall.out _ HB2.out
   unfold rfV at hc
   refine Calls.mono hc ?_
   rintro e w3 ⟨rfl, b3⟩
   have HB3 : Hid (Below w.heap.size w w3) := HB2.out.trans (b3.mono HB2.out.size)
   have HV3 : Hid (Box w3 w.heap.size h (.slice pa na ca) (.slice (some ⟨g', 0, none⟩) xs.length cl)) := (HV.out.alloc _).below b3
   clear b3 hc
   generalize nodes n x = nx at *
   generalize depth n x = dx at *
   have hs1 : (ms : Int) + (nx : Int) <= 9223372036854775807 := by omega
   go_wp2_with fail
   go_roundw
   case rel =>
    have hrelN : ZLoop w xs h (.slice pa na ca) (.slice (some ⟨g', 0, none⟩) xs.length cl) (.int .i64 ((ms : Int) + (nx : Int))) (.int .i64 (if ds < dx then (dx : Int) else (ds : Int))) (.int .i64 ((k : Int) + 1)) w3 := ⟨k + 1, by omega, by go_num, by rw [HN1.out]; congr 1, by rw [HD1.out]; congr 1; split <;> omega, HB3.out, HV3.out⟩
    first | exact hrelN | ((repeat apply Exists.intro); refine ⟨hrelN, ?_⟩; first | rfl | exact ⟨rfl, rfl⟩ | exact ⟨rfl, rfl, rfl⟩ | exact ⟨rfl, rfl, rfl, rfl⟩ | exact ⟨rfl, rfl, rfl, rfl, rfl⟩)
   case measure => (simp [intOf]; omega)
  ·have HM1 : Hid (1 + (xs.map (nodes n)).sum = ms) := by show _ = _; rw [HMs.out, List.take_of_length_le (by omega)]
   have HD1 : Hid (maxOf (xs.map (depth n)) = ds) := by show _ = _; rw [HDs.out, List.take_of_length_le (by omega)]
   go_wp2_with fail
   go_ret2
   exact ⟨by rw [HM1.out, HD1.out]; rfl, HB.out⟩
set_option maxRecDepth 100000 in
set_option maxHeartbeats 2000000 in
theorem rfsize_leaf (n : Nat) (ih : RSizeOK n) (av : Nat -> Prop) (xs : List (J n)) (h : Hd) (hk : h.k ≠ 5) (hk2 : h.k ≠ 6) (pa : Option Addr) (na ca : Nat) (vl : Value) (w : World) (hL : RVals av w n xs vl) (hm : 1 + (xs.map (nodes n)).sum <= 1000000) (hn : n <= 1000) :
  Calls Tryz.prog 35 #[rfV h (.slice pa na ca) vl] w fun e w' => e = .returned (.tuple #[.int .i64 ((1 + (xs.map (nodes n)).sum : Nat) : Int), .int .i64 ((maxOf (xs.map (depth n)) + 0 : Nat) : Int)]) /\ Below w.heap.size w w' := by
 obtain ⟨pl, cl, rfl, hl1, hl2, hl3⟩ := hL.form
 unfold maxLen at hl2
 have HL3 : Hid (∀ (i : Nat) (x : J n), xs[i]? = some x -> ∃ g nm' l', pl = some ⟨g, 0, none⟩ /\ g < w.heap.size /\ Six w g (i * 6) (headJ n x) nm' l' /\ RSt av w n x (rfV (headJ n x) nm' l')) := hl3
 have HIh : Hid (RSizeOK n) := ih
 have HSm : Hid (∀ k, ((xs.take k).map (nodes n)).sum <= (xs.map (nodes n)).sum) := fun k => by rw [List.map_take]; exact sum_take_leR _ _
 have HMx : Hid (∀ l : List (J n), maxOf (l.map (depth n)) <= n) := fun l => by
  induction l with
  | nil => exact Nat.zero_le _
  | cons x l ih2 => have := depth_leR n x; simp only [List.map_cons, maxOf]; omega
 have e5 : ((h.k : Int) == 5) = false := by rw [beq_eq_false_iff_ne]; omega
 have e6 : ((h.k : Int) == 6) = false := by rw [beq_eq_false_iff_ne]; omega
 clear hk hk2
 unfold rfV
 obtain ⟨w0, hw0⟩ : ∃ w0, w0 = w.alloc (.cells #[.int .i64 h.k, .bool h.b, .int .i64 h.i, .string ⟨h.s.toArray⟩, .slice pa na ca, .slice pl xs.length cl] 38) := ⟨_, rfl⟩
 have HW0 : Hid (w0 = w.alloc (.cells #[.int .i64 h.k, .bool h.b, .int .i64 h.i, .string ⟨h.s.toArray⟩, .slice pa na ca, .slice pl xs.length cl] 38)) := hw0
 have HV0 : Hid (Box w0 w.heap.size h (.slice pa na ca) (.slice pl xs.length cl)) := by show Box _ _ _ _ _; rw [hw0]; exact box_new w h _ _
 have HB0 : Hid (Below w.heap.size w w0) := by show Below _ _ _; rw [hw0]; exact (Below.refl _ _).alloc (Nat.le_refl _) _
 clear hw0 hl3 hL ih
 go_enter Tryz.func35, Tryz.ntmps35
 go_wp2
 rw [<- HW0.out]
 go_loopw [4, 5, 13] (fun m d i wr => ZLoop w xs h (.slice pa na ca) (.slice pl xs.length cl) m d i wr) (fun _ _ i _ => xs.length - (intOf i).toNat)
 case atStart => exact ⟨0, Nat.zero_le _, rfl, rfl, rfl, HB0.out, HV0.out⟩
 case round =>
  obtain ⟨k, hk, rfl, rfl, rfl, hB, hV⟩ := hrel
  have HB : Hid (Below w.heap.size w wr) := hB
  have HV : Hid (Box wr w.heap.size h (.slice pa na ca) (.slice pl xs.length cl)) := hV
  have v0 := hV.c0
  obtain ⟨ms, hms⟩ : ∃ ms, ms = 1 + ((xs.take k).map (nodes n)).sum := ⟨_, rfl⟩
  obtain ⟨ds, hds⟩ : ∃ ds, ds = maxOf ((xs.take k).map (depth n)) := ⟨_, rfl⟩
  have hmz : ms <= 1000000 := by have := HSm.out k; omega
  have hdz : ds <= 1000 := by have := HMx.out (xs.take k); omega
  have HMs : Hid (ms = 1 + ((xs.take k).map (nodes n)).sum) := hms
  have HDs : Hid (ds = maxOf ((xs.take k).map (depth n))) := hds
  rw [<- hms, <- hds]
  clear hB hV hms hds HV0 HB0 HW0
  by_cases hlt : k < xs.length
  ·obtain ⟨x, hxk⟩ : ∃ x, xs[k]? = some x := ⟨xs[k], List.getElem?_eq_getElem hlt⟩
   obtain ⟨g', nm', l', rfl, hg', h6, hst⟩ := HL3.out k x hxk
   obtain ⟨⟨p1, k1, c1, rfl⟩, p2, k2, c2, rfl⟩ := rst_sl hst
   obtain ⟨x0, x1, x2, x3, x4, x5⟩ := h6.keep (HB.out.block g' hg')
   have hnx : nodes n x <= 1000000 := by
    have h9 := HSm.out (k + 1)
    rw [take_snoc (nodes n) xs k x hxk, sum_snoc] at h9
    omega
   have hdx := depth_leR n x
   have HN1 : Hid (1 + ((xs.take (k + 1)).map (nodes n)).sum = ms + nodes n x) := by show _ = _; rw [take_snoc (nodes n) xs k x hxk, sum_snoc, HMs.out]; omega
   have HD1 : Hid (maxOf ((xs.take (k + 1)).map (depth n)) = max ds (depth n x)) := by show _ = _; rw [take_snoc (depth n) xs k x hxk, maxOf_snocR, HDs.out]
   have HCall : Hid (∀ w1, Below w.heap.size w w1 -> Calls Tryz.prog 35 #[rfV (headJ n x) (.slice p1 k1 c1) (.slice p2 k2 c2)] w1 fun e w' => e = .returned (.tuple #[.int .i64 (nodes n x), .int .i64 (depth n x)]) /\ Below w1.heap.size w1 w') := fun w1 b => HIh.out av x _ w1 (hst.below b) hnx hn
   have hkI : (k : Int) < (xs.length : Int) := by omega
   clear hst h6 hxk
   go_wp2_with fail
   have HB2 : Hid (Below w.heap.size w (wr.alloc (.cells #[.int .i64 (headJ n x).k, .bool (headJ n x).b, .int .i64 (headJ n x).i, .string ⟨(headJ n x).s.toArray⟩, .slice p1 k1 c1, .slice p2 k2 c2] 38))) := HB.out.alloc HB.out.size _
   have hc := HCall.out _ HB2.out
   unfold rfV at hc
   refine Calls.mono hc ?_
   rintro e w3 ⟨rfl, b3⟩
   have HB3 : Hid (Below w.heap.size w w3) := HB2.out.trans (b3.mono HB2.out.size)
   have HV3 : Hid (Box w3 w.heap.size h (.slice pa na ca) (.slice (some ⟨g', 0, none⟩) xs.length cl)) := (HV.out.alloc _).below b3
   clear b3 hc
   generalize nodes n x = nx at *
   generalize depth n x = dx at *
   have hs1 : (ms : Int) + (nx : Int) <= 9223372036854775807 := by omega
   go_wp2_with fail
   go_roundw
   case rel =>
    have hrelN : ZLoop w xs h (.slice pa na ca) (.slice (some ⟨g', 0, none⟩) xs.length cl) (.int .i64 ((ms : Int) + (nx : Int))) (.int .i64 (if ds < dx then (dx : Int) else (ds : Int))) (.int .i64 ((k : Int) + 1)) w3 := ⟨k + 1, by omega, by go_num, by rw [HN1.out]; congr 1, by rw [HD1.out]; congr 1; split <;> omega, HB3.out, HV3.out⟩
    first | exact hrelN | ((repeat apply Exists.intro); refine ⟨hrelN, ?_⟩; first | rfl | exact ⟨rfl, rfl⟩ | exact ⟨rfl, rfl, rfl⟩ | exact ⟨rfl, rfl, rfl, rfl⟩ | exact ⟨rfl, rfl, rfl, rfl, rfl⟩)
   case measure => (simp [intOf]; omega)
  ·have HM1 : Hid (1 + (xs.map (nodes n)).sum = ms) := by show _ = _; rw [HMs.out, List.take_of_length_le (by omega)]
   have HD1 : Hid (maxOf (xs.map (depth n)) = ds) := by show _ = _; rw [HDs.out, List.take_of_length_le (by omega)]
   go_wp2_with fail
   go_ret2
   exact ⟨by rw [HM1.out, HD1.out]; rfl, HB.out⟩
set_option maxRecDepth 100000 in
set_option maxHeartbeats 2000000 in
theorem rfsize_none (w : World) (h : Hd) (hk : h.k ≠ 5) (hk2 : h.k ≠ 6) : Calls Tryz.prog 35 #[rfV h (.slice none 0 0) (.slice none 0 0)] w fun e w' => e = .returned (.tuple #[.int .i64 ((1 : Nat) : Int), .int .i64 ((0 : Nat) : Int)]) /\ Below w.heap.size w w' := by
 have e5 : ((h.k : Int) == 5) = false := by rw [beq_eq_false_iff_ne]; omega
 have e6 : ((h.k : Int) == 6) = false := by rw [beq_eq_false_iff_ne]; omega
 clear hk hk2
 unfold rfV
 go_enter Tryz.func35, Tryz.ntmps35
 go_wp2
 go_loopw [4, 5, 13] (fun m d i wr => m = .int .i64 1 /\ d = .int .i64 0 /\ i = .int .i64 0 /\ wr = w.alloc (.cells #[.int .i64 h.k, .bool h.b, .int .i64 h.i, .string ⟨h.s.toArray⟩, .slice none 0 0, .slice none 0 0] 38)) (fun _ _ _ _ => 0)
 case atStart => exact ⟨rfl, rfl, rfl, rfl⟩
 case round =>
  obtain ⟨rfl, rfl, rfl, rfl⟩ := hrel
  go_wp2_with fail
  go_ret2
  exact ⟨rfl, (Below.refl _ _).alloc (Nat.le_refl _) _⟩
theorem rfsize_ok : ∀ n : Nat, RSizeOK n
 | 0, av, l, v, w, h, hm, hn => by
  have e : v = rfV (headL l) (.slice none 0 0) (.slice none 0 0) := h
  subst e
  have hk : (headL l).k ≠ 5 /\ (headL l).k ≠ 6 := by rcases l with _ | b | i | s <;> simp [headL]
  have hz : RSizeOK 0 -> True := fun _ => trivial
  exact rfsize_none w (headL l) hk.1 hk.2
 | n + 1, av, Sum.inl l, v, w, h, hm, hn => by
  obtain ⟨nm, lv, rfl, h1, h2⟩ := h.open
  obtain ⟨p, c, rfl, _⟩ := h1.form
  have hk : (headL l).k ≠ 5 /\ (headL l).k ≠ 6 := by rcases l with _ | b | i | s <;> simp [headL]
  exact rfsize_leaf n (rfsize_ok n) av [] (headL l) hk.1 hk.2 p _ c lv w h2 (by simp) (by omega)
 | n + 1, av, Sum.inr (Sum.inl xs), v, w, h, hm, hn => by
  obtain ⟨nm, lv, rfl, h1, h2⟩ := h.open
  obtain ⟨p, c, rfl, _⟩ := h1.form
  have h9 := rfsize_list n (rfsize_ok n) av xs ⟨5, false, 0, []⟩ rfl p (namesJ (n := n) (Sum.inr (Sum.inl xs))).length c lv w h2 (by simpa only [nodes] using hm) (by omega)
  refine h9.mono ?_
  rintro e w1 ⟨rfl, b⟩
  exact ⟨by simp only [nodes, depth, Nat.add_comm], b⟩
 | n + 1, av, Sum.inr (Sum.inr fs), v, w, h, hm, hn => by
  obtain ⟨nm, lv, rfl, h1, h2⟩ := h.open
  obtain ⟨p, c, rfl, _⟩ := h1.form
  have e1 : ((fs.map fun f => f.2).map (nodes n)) = fs.map fun f => nodes n f.2 := by rw [List.map_map]; rfl
  have e2 : ((fs.map fun f => f.2).map (depth n)) = fs.map fun f => depth n f.2 := by rw [List.map_map]; rfl
  have hm1 : 1 + (fs.map fun f => nodes n f.2).sum <= 1000000 := by simpa only [nodes] using hm
  have hm2 : 1 + ((fs.map fun f => f.2).map (nodes n)).sum <= 1000000 := by rw [e1]; exact hm1
  have h9 := rfsize_obj n (rfsize_ok n) av (List.map (fun f : Bs × J n => f.2) fs) ⟨6, false, 0, []⟩ rfl p (namesJ (n := n) (Sum.inr (Sum.inr fs))).length c lv w h2 hm2 (by omega)
  rw [e1, e2] at h9
  refine h9.mono ?_
  rintro e w1 ⟨rfl, b⟩
  exact ⟨by simp only [nodes, depth, Nat.add_comm], b⟩
end Go.Proofs.YtjcdklbimaclkaaGreatDoor
namespace Go.Proofs.YtjcdklbimaclkaaGreatDoor
set_option linter.unusedVariables false
set_option linter.unusedSimpArgs false
section
variable {P : Program} {ops : Array Oper} {Q : Exit -> Act -> World -> Prop} {md : Region.Mode} {S : World -> Prop} {n : Nat}
def wpM (P : Program) (md : Region.Mode) (ops : Array Oper) (Q : Exit -> Act -> World -> Prop) (S : World -> Prop) (n : Nat) : Nat -> Array Bool -> Act -> World -> Prop
 | 0, listed, a, w => Region.ready md ops listed = [] /\ Q .normal a w
 | fuel + 1, listed, a, w =>
  (Region.ready md ops listed = [] -> Q .normal a w) /\
  ∀ i ∈ Region.ready md ops listed, wpOp P ops Q i (fun a' w' => (i < n -> S w') /\ wpM P md ops Q S n fuel (listed.setIfInBounds i true) a' w') a w
theorem any_of_M : ∀ (fuel : Nat) (listed : Array Bool) (a : Act) (w : World), wpM P md ops Q S n fuel listed a w -> wpAny P md ops Q fuel listed a w
 | 0, _, _, _, h => h
 | fuel + 1, _, _, _, h => ⟨h.1, fun i hi => wpOp_mono (fun a' w' h' => any_of_M fuel _ a' w' h'.2) (h.2 i hi)⟩
theorem M_of_any (hn : ∀ (listed' : Array Bool) (i : Nat), i ∈ Region.ready md ops listed' -> (∀ t, t < n -> listed'.getD t true = true) -> n <= i) : ∀ (fuel : Nat) (listed : Array Bool) (a : Act) (w : World), (∀ t, t < n -> listed.getD t true = true) -> wpAny P md ops Q fuel listed a w -> wpM P md ops Q S n fuel listed a w
 | 0, _, _, _, _, h => h
 | fuel + 1, listed, _, _, hl, h => ⟨h.1, fun i hi => wpOp_mono (fun a' w' h' => ⟨fun hlt => by have := hn _ i hi hl; omega, M_of_any hn fuel _ a' w' (fun t ht => by
   have h1 := hn _ i hi hl
   rw [getD_set_ne true (by omega)]
   exact hl t ht) h'⟩) (h.2 i hi)⟩
theorem M_first {i : Nat} {oi : Oper} {v : Value} (hi : ops[i]? = some oi) (hsel : ∀ (j : Nat) (o : Oper) cs b, ops[j]? = some o -> o.op ≠ .select cs b)
  (hQ : ∀ c a w, Q (.panic c) (a.put oi.dst v) w -> Q (.panic c) a w) (hs : Region.sinkB md ops n = true) (hc : Region.chainB md ops n = true) (hn : n < ops.size) (hin : i < n) :
  ∀ (fuel : Nat) (listed : Array Bool) (a : Act) (w : World), HeadInv md ops n listed ->
   (∀ j oj, ops[j]? = some oj -> j ≠ i -> listed.getD j true = false -> (∀ e ∈ oj.after, Region.binds md e = true -> e.on ≠ i) -> oi.apart ops oj = true) ->
   i ∈ Region.ready md ops listed -> YieldsIf P ops S oi v a -> S w ->
   wpM P md ops Q S n fuel (listed.setIfInBounds i true) (a.put oi.dst v) w -> wpM P md ops Q S n (fuel + 1) listed a w := by
 intro fuel
 induction fuel with
 | zero =>
  intro listed a w _ _ hr hy hS H
  refine ⟨fun h => (by rw [h] at hr; cases hr), fun j hj => ?_⟩
  by_cases hji : j = i
  ·subst hji; exact hy.wpOp hi hS ⟨fun _ => hS, H⟩
  ·have := ready_mono hj hji
   rw [H.1] at this
   cases this
 | succ fuel ih =>
  intro listed a w inv hfree hr hy hS H
  refine ⟨fun h => (by rw [h] at hr; cases hr), fun j hj => ?_⟩
  by_cases hji : j = i
  ·subst hji; exact hy.wpOp hi hS ⟨fun _ => hS, H⟩
  ·have h1 := H.2 j (ready_mono hj hji)
   have hjn : j < n := by
    rcases Nat.lt_or_ge j n with h | h
    ·exact h
    ·exact absurd hj (tail_waits hs hc hn inv (n - i) i rfl hin (mem_ready.1 hr).1 j h)
   obtain ⟨hjun, oj, hoj, hall⟩ := mem_ready.1 hj
   have hnot : ∀ e ∈ oj.after, Region.binds md e = true -> e.on ≠ i := fun e he hb heq => by
    have h1 := hall e he hb
    have h0 := getD_both (mem_ready.1 hr).1
    rw [heq, h0] at h1
    cases h1
   have h2 := wpOp_putIf hoj (hfree j oj hoj hji hjun hnot) (fun cs b => hsel i oi cs b hi) (fun cs b => hsel j oj cs b hoj) hQ hy h1
   have hfree' : ∀ k ok, ops[k]? = some ok -> k ≠ i -> (listed.setIfInBounds j true).getD k true = false ->
     (∀ e ∈ ok.after, Region.binds md e = true -> e.on ≠ i) -> oi.apart ops ok = true := fun k ok hk hki hun hno => by
    refine hfree k ok hk hki ?_ hno
    by_cases hjk : j = k
    ·subst hjk; exact hjun
    ·rw [getD_set_ne true hjk] at hun; exact hun
   refine wpOp_mono (fun a' w' h3 => ⟨h3.2.1, ih (listed.setIfInBounds j true) a' w' (inv.set hj hjn) hfree' (ready_mono hr (Ne.symm hji)) h3.1 (h3.2.1 hjn) ?_⟩) h2
   rw [Array.setIfInBounds_comm _ _ hji]
   exact h3.2.2
def headB (md : Region.Mode) (ops : Array Oper) (n : Nat) (listed : Array Bool) : Bool :=
 decide (listed.size = ops.size) && ((List.range ops.size).all (fun j => !listed.getD j false || ((ops[j]?).map (fun o => o.after.all fun e => !Region.binds md e || listed.getD e.on false)).getD true) && (List.range ops.size).all (fun t => decide (t < n) || !listed.getD t true))
theorem headB_spec {listed : Array Bool} (h : headB md ops n listed = true) : HeadInv md ops n listed := by
 unfold headB at h
 rw [Bool.and_eq_true, Bool.and_eq_true, decide_eq_true_iff, List.all_eq_true, List.all_eq_true] at h
 obtain ⟨h0, h1, h2⟩ := h
 refine ⟨h0, fun j oj hj hl e he hb => ?_, fun t ht ht' => ?_⟩
 ·have h3 := h1 j (List.mem_range.2 (Array.getElem?_eq_some_iff.1 hj).1)
  rw [hl, hj] at h3
  simp only [Bool.not_true, Bool.false_or, Option.map_some, Option.getD_some, Array.all_eq_true_iff_forall_mem] at h3
  have h4 := h3 e he
  rw [hb] at h4
  simpa using h4
 ·have h3 := h2 t (List.mem_range.2 ht')
  rw [Bool.or_eq_true, decide_eq_true_iff] at h3
  rcases h3 with h3 | h3
  ·omega
  ·simpa using h3
theorem M_take (i : Nat) {oi : Oper} {v : Value} {fuel : Nat} {listed : Array Bool} {a : Act} {w : World} (hi : ops[i]? = some oi)
  (hs : Region.noSelect ops = true) (hf : Region.free md ops listed i = true) (hr : (Region.ready md ops listed).contains i = true) (hk : Region.sinkB md ops n = true) (hc : Region.chainB md ops n = true) (hn : n < ops.size) (hin : i < n) (hh : headB md ops n listed = true)
  (hQ : ∀ c a w, Q (.panic c) (a.put oi.dst v) w -> Q (.panic c) a w) (hS : S w) (hy : YieldsIf P ops S oi v a)
  (h : wpM P md ops Q S n fuel (listed.setIfInBounds i true) (a.put oi.dst v) w) : wpM P md ops Q S n (fuel + 1) listed a w :=
 M_first hi (Region.noSelect_spec hs) hQ hk hc hn hin fuel listed a w (headB_spec hh) (Region.free_spec hi hf) (by simpa using hr) hy hS h
theorem M_takeA (i : Nat) {oi : Oper} {v : Value} {fuel : Nat} {listed : Array Bool} {a : Act} {w : World} (hi : ops[i]? = some oi) (hS : S w) (hy : YieldsIf P ops S oi v a)
  (h : wpM P md ops Q S n fuel (listed.setIfInBounds i true) (a.put oi.dst v) w) (hs : Region.noSelect ops = true := by kernel_rfl) (hf : Region.free md ops listed i = true := by kernel_rfl) (hr : (Region.ready md ops listed).contains i = true := by kernel_rfl) (hk : Region.sinkB md ops n = true := by kernel_rfl) (hc : Region.chainB md ops n = true := by kernel_rfl) (hn : n < ops.size := by decide) (hin : i < n := by decide) (hh : headB md ops n listed = true := by kernel_rfl)
  (hQ : ∀ c a w, Q (.panic c) (a.put oi.dst v) w -> Q (.panic c) a w := by exact fun _ _ _ h => h) : wpM P md ops Q S n (fuel + 1) listed a w := M_take i hi hs hf hr hk hc hn hin hh hQ hS hy h
def AllM (P : Program) (md : Region.Mode) (ops : Array Oper) (Q : Exit -> Act -> World -> Prop) (S : World -> Prop) (n fuel : Nat) (listed : Array Bool) (a : Act) (w : World) (rs : List Nat) : Prop :=
 ∀ i ∈ rs, wpOp P ops Q i (fun a' w' => (i < n -> S w') /\ wpM P md ops Q S n fuel (listed.setIfInBounds i true) a' w') a w
theorem AllM.nil {fuel : Nat} {listed : Array Bool} {a : Act} {w : World} : AllM P md ops Q S n fuel listed a w [] := fun _ h => by cases h
theorem AllM.cons {fuel : Nat} {listed : Array Bool} {a : Act} {w : World} {i : Nat} {o : Oper} {rs : List Nat} (ho : ops[i]? = some o)
  (h : ∀ K' : Act -> World -> Prop, Shut (∀ a w, S w -> (S w -> wpM P md ops Q S n fuel (listed.setIfInBounds i true) a w) -> K' a w) -> if Region.wanted o (yielded ops a.tmps) = true then Oper.wp P o a w K' Q else K' (a.put o.dst undef) w)
  (hs : AllM P md ops Q S n fuel listed a w rs) : AllM P md ops Q S n fuel listed a w (i :: rs) := fun j hj => by
 rcases List.mem_cons.1 hj with rfl | hj
 ·exact wpOp_step ho (fun K' hK => h K' (fun a w hS hW => hK a w ⟨fun _ => hS, hW hS⟩))
 ·exact hs j hj
theorem M_ready (rs : List Nat) {fuel : Nat} {listed : Array Bool} {a : Act} {w : World} (hr : Region.ready md ops listed = rs) (hne : rs ≠ []) (h : AllM P md ops Q S n fuel listed a w rs) : wpM P md ops Q S n (fuel + 1) listed a w :=
 ⟨fun h0 => absurd (hr ▸ h0) hne, hr ▸ h⟩
theorem M_tail (l : List Oper) {listed : Array Bool} {a : Act} {w : World} (hl' : ops.toList.drop n = l) (hB : Region.seqB md ops l.length n listed = true) (hall : (List.range n).all (fun t => listed.getD t true) = true)
  (h : wpList P ops Q l a w) : wpM P md ops Q S n l.length listed a w := by
 have hl : ∀ j, l[j]? = ops[n + j]? := fun j => by rw [<- hl', List.getElem?_drop, Array.getElem?_toList]
 refine M_of_any (fun listed' i hi hd => ?_) _ _ _ _ (fun t ht => List.all_eq_true.1 hall t (List.mem_range.2 ht)) (wpAny_of_seq l n listed a w hl hB h)
 rcases Nat.lt_or_ge i n with h | h
 ·have := (mem_ready.1 hi).1
  rw [hd i h] at this
  cases this
 ·exact h
theorem M_begin {id : Nat} {a : Act} {w : World} (n sz : Nat) (S : World -> Prop) (hm : P.follows .mixedOrders = true) (hz : ops.size = sz)
  (h : wpM P .any ops Q S n sz (Array.replicate sz false) a w.drew) : (Code.region id ops true).wp P Q a w :=
 wp_region_any hm (any_of_M _ _ _ _ (by rw [hz]; exact h))
end
end Go.Proofs.YtjcdklbimaclkaaGreatDoor
