/- Contract over this translation: one part of a selector's text. -/
import Derived.Test.YtgaopmdpcjcooaaGreatDoorQParseV
import Derived.RegionTactic
namespace Go.Proofs.YtgaopmdpcjcooaaGreatDoor
open Go.RowKit
set_option linter.unusedVariables false
set_option linter.unusedSimpArgs false
/-- a box of three cells -/
def Bx3 (g : Nat) (w : World) : Prop := ∃ a k v, w.heap[g]? = some (.cells #[.string a, .int .i64 k, v] 35 (0, 0))
def Bx3v (g : Nat) (a : ByteArray) (k : Int) (v : Value) (w : World) : Prop := w.heap[g]? = some (.cells #[.string a, .int .i64 k, v] 35 (0, 0))
theorem Bx3.lt {g : Nat} {w : World} (h : Bx3 g w) : g < w.heap.size := by
  obtain ⟨a, k, v, h⟩ := h
  exact lt_of_block h
theorem Bx3.free {g : Nat} {w : World} (h : Bx3 g w) (o : Nat) : w.frozen? ⟨g, o, none⟩ = false := by
  obtain ⟨a, k, v, h⟩ := h
  exact frozen_of_row _ _ _ _ _ h
theorem Bx3.some {g : Nat} {w : World} (h : Bx3 g w) : (∃ u, w.cell? ⟨g, 0, none⟩ = some u) ∧ (∃ u, w.cell? ⟨g, 1, none⟩ = some u) ∧ ∃ u, w.cell? ⟨g, 2, none⟩ = some u := by
  obtain ⟨a, k, v, h⟩ := h
  refine ⟨⟨.string a, ?_⟩, ⟨.int .i64 k, ?_⟩, ⟨v, ?_⟩⟩ <;> (rw [cell_of_row _ _ _ _ _ _ h]; rfl)
theorem Bx3.g {g b : Nat} {w w' : World} (h : Bx3 g w) (k : G b w w') (hne : g ≠ b) : Bx3 g w' := by
  have hl := h.lt
  obtain ⟨a, i, v, h⟩ := h
  exact ⟨a, i, v, by rw [k.block g hl (fun e => hne (by cases e; rfl))]; exact h⟩
theorem Bx3.alloc {g : Nat} {w : World} (h : Bx3 g w) (o : Obj) : Bx3 g (w.alloc o) := by
  have hl := h.lt
  obtain ⟨a, k, v, h⟩ := h
  exact ⟨a, k, v, (Below.heap_alloc w o g hl).trans h⟩
theorem bx3_new (w : World) (a : ByteArray) (k : Int) (v : Value) : Bx3 w.heap.size (w.alloc (.cells #[.string a, .int .i64 k, v] 35)) := ⟨a, k, v, heap_alloc_new _ _⟩
/-- three cells are written -/
def put3 (w : World) (g : Nat) (a b c : Value) : World := ((w.setCell ⟨g, 0, none⟩ a).setCell ⟨g, 1, none⟩ b).setCell ⟨g, 2, none⟩ c
theorem put3_box {w : World} {g : Nat} (hb : Bx3 g w) (a : ByteArray) (k : Int) (v : Value) : Bx3v g a k v (put3 w g (.string a) (.int .i64 k) v) := by
  obtain ⟨a0, k0, v0, h⟩ := hb
  have e0 := heap_setCell_same w g 0 _ _ (.string a) h
  have e1 := heap_setCell_same _ g 1 _ _ (.int .i64 k) e0
  exact heap_setCell_same _ g 2 _ _ v e1
theorem grownBy_setCell (w : World) (g o : Nat) (v : Value) : w.grownBy (w.setCell ⟨g, o, none⟩ v) (some g) := ⟨rfl, rfl, rfl, by simp [World.setCell], fun k _ hb => heap_setCell_other _ _ _ _ (fun e => hb (by rw [e]))⟩
theorem set_grown_trans {w a : World} {g o : Nat} {v : Value} (h : w.grownBy a (some g)) : w.grownBy (a.setCell ⟨g, o, none⟩ v) (some g) := by
  have k := grownBy_setCell a g o v
  exact ⟨k.os.trans h.os, k.tape.trans h.tape, k.output.trans h.output, Nat.le_trans h.size k.size, fun c hc hne => (k.block c (Nat.lt_of_lt_of_le hc h.size) hne).trans (h.block c hc hne)⟩
theorem put3_grown (w : World) (g : Nat) (a b c : Value) : w.grownBy (put3 w g a b c) (some g) := by
  unfold put3
  exact set_grown_trans (set_grown_trans (grownBy_setCell w g 0 a))
theorem Bx3v.cells {g : Nat} {a : ByteArray} {k : Int} {v : Value} {w : World} (h : Bx3v g a k v w) : w.cell? ⟨g, 0, none⟩ = some (.string a) ∧ w.cell? ⟨g, 1, none⟩ = some (.int .i64 k) ∧ w.cell? ⟨g, 2, none⟩ = some v := by
  refine ⟨?_, ?_, ?_⟩ <;> (rw [cell_of_row _ _ _ _ _ _ h]; rfl)
theorem beq_nil {y : ByteArray} {s : Bs} (h : y = Ba s) (g : s ≠ []) : (y.toList == []) = false := by
  subst h
  rw [ba_list]
  simpa using g
theorem beq_lit {y : ByteArray} {s t : Bs} (h : y = Ba s) (g : s ≠ t) : (y.toList == t) = false := by
  subst h
  rw [ba_list]
  simpa using g
theorem part_fin {b : Nat} {w w3 : World} {t : Bs} {v : Value} {vs : List Bs} (hG : G b w w3) (hX : Bx3 w.heap.size w3) (hR : Rdr b t w3) (hbl : b < w.heap.size) (hO : OwnN w.heap.size w3 v vs) (a k u : Value) :
    G b w (put3 w3 w.heap.size a k u) ∧ OwnN w.heap.size (put3 w3 w.heap.size a k u) v vs ∧ Rdr b t (put3 w3 w.heap.size a k u) := by
  have hgr := put3_grown w3 w.heap.size a k u
  refine ⟨hG.grown hgr (fun k e => by cases e; exact Nat.le_refl _), World.ownsRow.kept hO hgr ?_, hR.kept hgr (fun e => by cases e; omega)⟩
  obtain ⟨a0, k0, v0, hb⟩ := hX
  rcases hO.2 with ⟨rfl, _⟩ | ⟨g, cap, cur, rfl, hB, hg, _⟩
  · exact Or.inl rfl
  · refine Or.inr (fun e => ?_)
    have e2 : g = w.heap.size := by injection e
    rw [e2, hb] at hg
    injection hg with hg
    injection hg with _ h2 _
    exact absurd h2 (by decide)
/-- what part answers -/
def PartR (N b : Nat) (s : Bs) (w : World) (e : Ending) (w' : World) : Prop :=
  G b w w' ∧ ((∃ r t p n c, partP N s = some (r, t) ∧ n = r.2.2.length ∧ e = .returned (.tuple #[.agg #[.string (Ba r.1), .int .i64 r.2.1, .slice p n c], .bool true]) ∧ OwnN w.heap.size w' (.slice p n c) r.2.2 ∧ Rdr b t w') ∨
    (partP N s = none ∧ ∃ a k p n c, e = .returned (.tuple #[.agg #[.string a, .int .i64 k, .slice p n c], .bool false])))
set_option maxRecDepth 100000 in
set_option maxHeartbeats 4000000 in
theorem part_eq2 (N b : Nat) (s : Bs) (w : World) (h : Rdr b s w) (hs : s.length ≤ 300) (hN : 310 ≤ N) (s2 : Bs) (t0 : tk [61, 61] (rr s) = some s2) :
    Calls Tryz.prog 56 #[.pointer (some ⟨b, 0, none⟩)] w fun e w' => PartR N b s w e w' := by
  have HR0 : Hid (Rdr b s (w.alloc (.cells #[.string ⟨#[]⟩, .int .i64 0, .slice none 0 0] 35))) := h.below ((Below.refl _ _).alloc (Nat.le_refl _) _)
  have HG0 : Hid (G b w (w.alloc (.cells #[.string ⟨#[]⟩, .int .i64 0, .slice none 0 0] 35))) := (G.refl b w).alloc _
  have HX0 : Hid (Bx3 w.heap.size (w.alloc (.cells #[.string ⟨#[]⟩, .int .i64 0, .slice none 0 0] 35))) := bx3_new _ _ _ _
  have hbl := h.lt
  have hne : w.heap.size ≠ b := by omega
  have HSz : Hid (w.heap.size ≤ (w.alloc (.cells #[.string ⟨#[]⟩, .int .i64 0, .slice none 0 0] 35)).heap.size) := by show _ ≤ _; simp
  have hrl := rr_len s
  clear h
  have HT0 : Hid (tk [61, 61] (rr s) = some s2) := t0
  have HL : Hid (s2.length ≤ 300) := by have := tk_len t0 (by decide); show _ ≤ _; omega
  have HP : Hid (partP N s = some ((rn s, 1, [rn s2]), rr s2)) := by show _ = _; unfold partP; simp only [t0]
  clear t0
  go_enter Tryz.func56, Tryz.ntmps56
  go_wp2_with fail
  refine Calls.mono (run_any b s _ HR0.out (by omega)) ?_
  rintro e w1 ⟨rfl, g1, r1⟩
  have HG1 : Hid (G b w w1) := HG0.out.trans g1
  have HX1 : Hid (Bx3 w.heap.size w1) := HX0.out.g g1 hne
  have HR1 : Hid (Rdr b _ w1) := r1
  clear g1 r1
  go_wp2_with fail
  refine Calls.mono (take_yes b (rr s) s2 ⟨#[61, 61]⟩ _ HR1.out HT0.out) ?_
  rintro e w2 ⟨rfl, g1, r1⟩
  have HG2 : Hid (G b w w2) := HG1.out.trans g1
  have HX2 : Hid (Bx3 w.heap.size w2) := HX1.out.g g1 hne
  have HR2 : Hid (Rdr b _ w2) := r1
  clear g1 r1
  go_wp2_with fail
  refine Calls.mono (run_any b s2 _ HR2.out (by have := HL.out; omega)) ?_
  rintro e w3 ⟨rfl, g1, r1⟩
  have HG3 : Hid (G b w w3) := HG2.out.trans g1
  have HX3 : Hid (Bx3 w.heap.size w3) := HX2.out.g g1 hne
  have HR3 : Hid (Rdr b _ w3) := r1
  clear g1 r1
  have HXa : Hid (Bx3 w.heap.size (w3.alloc (.cells #[.string (Ba (rn s2))] 9))) := HX3.out.alloc _
  obtain ⟨⟨z0, hz0⟩, ⟨z1, hz1⟩, ⟨z2, hz2⟩⟩ := HXa.out.some
  have hf0 := HXa.out.free 0
  have hf1 := HXa.out.free 1
  have hf2 := HXa.out.free 2
  obtain ⟨f1, f2, f3⟩ := part_fin (HG3.out.alloc _) HXa.out (HR3.out.below ((Below.refl _ _).alloc (Nat.le_refl _) _)) hbl (one_new w.heap.size (rn s2) w3 HG3.out.size) (.string (Ba (rn s))) (.int .i64 1) (.slice (some ⟨w3.heap.size, 0, none⟩) 1 1)
  obtain ⟨c0, c1, c2⟩ := (put3_box HXa.out (Ba (rn s)) 1 (.slice (some ⟨w3.heap.size, 0, none⟩) 1 1)).cells
  unfold put3 at f1 f2 f3 c0 c1 c2
  have F : Hid (_) := And.intro f1 (And.intro f2 f3)
  clear f1 f2 f3
  go_wp2_with fail
  refine bodyPost_ret (v := .tuple #[.agg #[.string (Ba (rn s)), .int .i64 1, .slice (some ⟨w3.heap.size, 0, none⟩) 1 1], .bool true]) (by simp [results, Tryz.results56, go_sem, c0, c1, c2]) rfl ?_
  exact ⟨F.out.1, Or.inl ⟨(rn s, 1, [rn s2]), rr s2, _, 1, 1, HP.out, rfl, rfl, F.out.2.1, F.out.2.2⟩⟩
set_option maxRecDepth 100000 in
set_option maxHeartbeats 4000000 in
theorem part_eq1 (N b : Nat) (s : Bs) (w : World) (h : Rdr b s w) (hs : s.length ≤ 300) (hN : 310 ≤ N) (s2 : Bs) (t0 : tk [61, 61] (rr s) = none) (t1 : tk [61] (rr s) = some s2) :
    Calls Tryz.prog 56 #[.pointer (some ⟨b, 0, none⟩)] w fun e w' => PartR N b s w e w' := by
  have HR0 : Hid (Rdr b s (w.alloc (.cells #[.string ⟨#[]⟩, .int .i64 0, .slice none 0 0] 35))) := h.below ((Below.refl _ _).alloc (Nat.le_refl _) _)
  have HG0 : Hid (G b w (w.alloc (.cells #[.string ⟨#[]⟩, .int .i64 0, .slice none 0 0] 35))) := (G.refl b w).alloc _
  have HX0 : Hid (Bx3 w.heap.size (w.alloc (.cells #[.string ⟨#[]⟩, .int .i64 0, .slice none 0 0] 35))) := bx3_new _ _ _ _
  have hbl := h.lt
  have hne : w.heap.size ≠ b := by omega
  have HSz : Hid (w.heap.size ≤ (w.alloc (.cells #[.string ⟨#[]⟩, .int .i64 0, .slice none 0 0] 35)).heap.size) := by show _ ≤ _; simp
  have hrl := rr_len s
  clear h
  have HT0 : Hid (tk [61, 61] (rr s) = none) := t0
  have HT1 : Hid (tk [61] (rr s) = some s2) := t1
  have HL : Hid (s2.length ≤ 300) := by have := tk_len t1 (by decide); show _ ≤ _; omega
  have HP : Hid (partP N s = some ((rn s, 1, [rn s2]), rr s2)) := by show _ = _; unfold partP; simp only [t0, t1]
  clear t0 t1
  go_enter Tryz.func56, Tryz.ntmps56
  go_wp2_with fail
  refine Calls.mono (run_any b s _ HR0.out (by omega)) ?_
  rintro e w1 ⟨rfl, g1, r1⟩
  have HG1 : Hid (G b w w1) := HG0.out.trans g1
  have HX1 : Hid (Bx3 w.heap.size w1) := HX0.out.g g1 hne
  have HR1 : Hid (Rdr b _ w1) := r1
  clear g1 r1
  go_wp2_with fail
  refine Calls.mono (take_no b (rr s) ⟨#[61, 61]⟩ _ HR1.out HT0.out) ?_
  rintro e w2 ⟨rfl, g1, r1⟩
  have HG2 : Hid (G b w w2) := HG1.out.trans g1
  have HX2 : Hid (Bx3 w.heap.size w2) := HX1.out.g g1 hne
  have HR2 : Hid (Rdr b _ w2) := r1
  clear g1 r1
  go_wp2_with fail
  refine Calls.mono (take_yes b (rr s) s2 ⟨#[61]⟩ _ HR2.out HT1.out) ?_
  rintro e w3 ⟨rfl, g1, r1⟩
  have HG3 : Hid (G b w w3) := HG2.out.trans g1
  have HX3 : Hid (Bx3 w.heap.size w3) := HX2.out.g g1 hne
  have HR3 : Hid (Rdr b _ w3) := r1
  clear g1 r1
  go_wp2_with fail
  refine Calls.mono (run_any b s2 _ HR3.out (by have := HL.out; omega)) ?_
  rintro e w4 ⟨rfl, g1, r1⟩
  have HG4 : Hid (G b w w4) := HG3.out.trans g1
  have HX4 : Hid (Bx3 w.heap.size w4) := HX3.out.g g1 hne
  have HR4 : Hid (Rdr b _ w4) := r1
  clear g1 r1
  have HXa : Hid (Bx3 w.heap.size (w4.alloc (.cells #[.string (Ba (rn s2))] 9))) := HX4.out.alloc _
  obtain ⟨⟨z0, hz0⟩, ⟨z1, hz1⟩, ⟨z2, hz2⟩⟩ := HXa.out.some
  have hf0 := HXa.out.free 0
  have hf1 := HXa.out.free 1
  have hf2 := HXa.out.free 2
  obtain ⟨f1, f2, f3⟩ := part_fin (HG4.out.alloc _) HXa.out (HR4.out.below ((Below.refl _ _).alloc (Nat.le_refl _) _)) hbl (one_new w.heap.size (rn s2) w4 HG4.out.size) (.string (Ba (rn s))) (.int .i64 1) (.slice (some ⟨w4.heap.size, 0, none⟩) 1 1)
  obtain ⟨c0, c1, c2⟩ := (put3_box HXa.out (Ba (rn s)) 1 (.slice (some ⟨w4.heap.size, 0, none⟩) 1 1)).cells
  unfold put3 at f1 f2 f3 c0 c1 c2
  have F : Hid (_) := And.intro f1 (And.intro f2 f3)
  clear f1 f2 f3
  go_wp2_with fail
  refine bodyPost_ret (v := .tuple #[.agg #[.string (Ba (rn s)), .int .i64 1, .slice (some ⟨w4.heap.size, 0, none⟩) 1 1], .bool true]) (by simp [results, Tryz.results56, go_sem, c0, c1, c2]) rfl ?_
  exact ⟨F.out.1, Or.inl ⟨(rn s, 1, [rn s2]), rr s2, _, 1, 1, HP.out, rfl, rfl, F.out.2.1, F.out.2.2⟩⟩
set_option maxRecDepth 100000 in
set_option maxHeartbeats 4000000 in
theorem part_ne (N b : Nat) (s : Bs) (w : World) (h : Rdr b s w) (hs : s.length ≤ 300) (hN : 310 ≤ N) (s2 : Bs) (t0 : tk [61, 61] (rr s) = none) (t1 : tk [61] (rr s) = none) (t2 : tk [33, 61] (rr s) = some s2) :
    Calls Tryz.prog 56 #[.pointer (some ⟨b, 0, none⟩)] w fun e w' => PartR N b s w e w' := by
  have HR0 : Hid (Rdr b s (w.alloc (.cells #[.string ⟨#[]⟩, .int .i64 0, .slice none 0 0] 35))) := h.below ((Below.refl _ _).alloc (Nat.le_refl _) _)
  have HG0 : Hid (G b w (w.alloc (.cells #[.string ⟨#[]⟩, .int .i64 0, .slice none 0 0] 35))) := (G.refl b w).alloc _
  have HX0 : Hid (Bx3 w.heap.size (w.alloc (.cells #[.string ⟨#[]⟩, .int .i64 0, .slice none 0 0] 35))) := bx3_new _ _ _ _
  have hbl := h.lt
  have hne : w.heap.size ≠ b := by omega
  have HSz : Hid (w.heap.size ≤ (w.alloc (.cells #[.string ⟨#[]⟩, .int .i64 0, .slice none 0 0] 35)).heap.size) := by show _ ≤ _; simp
  have hrl := rr_len s
  clear h
  have HT0 : Hid (tk [61, 61] (rr s) = none) := t0
  have HT1 : Hid (tk [61] (rr s) = none) := t1
  have HT2 : Hid (tk [33, 61] (rr s) = some s2) := t2
  have HL : Hid (s2.length ≤ 300) := by have := tk_len t2 (by decide); show _ ≤ _; omega
  have HP : Hid (partP N s = some ((rn s, 2, [rn s2]), rr s2)) := by show _ = _; unfold partP; simp only [t0, t1, t2]
  clear t0 t1 t2
  go_enter Tryz.func56, Tryz.ntmps56
  go_wp2_with fail
  refine Calls.mono (run_any b s _ HR0.out (by omega)) ?_
  rintro e w1 ⟨rfl, g1, r1⟩
  have HG1 : Hid (G b w w1) := HG0.out.trans g1
  have HX1 : Hid (Bx3 w.heap.size w1) := HX0.out.g g1 hne
  have HR1 : Hid (Rdr b _ w1) := r1
  clear g1 r1
  go_wp2_with fail
  refine Calls.mono (take_no b (rr s) ⟨#[61, 61]⟩ _ HR1.out HT0.out) ?_
  rintro e w2 ⟨rfl, g1, r1⟩
  have HG2 : Hid (G b w w2) := HG1.out.trans g1
  have HX2 : Hid (Bx3 w.heap.size w2) := HX1.out.g g1 hne
  have HR2 : Hid (Rdr b _ w2) := r1
  clear g1 r1
  go_wp2_with fail
  refine Calls.mono (take_no b (rr s) ⟨#[61]⟩ _ HR2.out HT1.out) ?_
  rintro e w3 ⟨rfl, g1, r1⟩
  have HG3 : Hid (G b w w3) := HG2.out.trans g1
  have HX3 : Hid (Bx3 w.heap.size w3) := HX2.out.g g1 hne
  have HR3 : Hid (Rdr b _ w3) := r1
  clear g1 r1
  go_wp2_with fail
  refine Calls.mono (take_yes b (rr s) s2 ⟨#[33, 61]⟩ _ HR3.out HT2.out) ?_
  rintro e w4 ⟨rfl, g1, r1⟩
  have HG4 : Hid (G b w w4) := HG3.out.trans g1
  have HX4 : Hid (Bx3 w.heap.size w4) := HX3.out.g g1 hne
  have HR4 : Hid (Rdr b _ w4) := r1
  clear g1 r1
  go_wp2_with fail
  refine Calls.mono (run_any b s2 _ HR4.out (by have := HL.out; omega)) ?_
  rintro e w5 ⟨rfl, g1, r1⟩
  have HG5 : Hid (G b w w5) := HG4.out.trans g1
  have HX5 : Hid (Bx3 w.heap.size w5) := HX4.out.g g1 hne
  have HR5 : Hid (Rdr b _ w5) := r1
  clear g1 r1
  have HXa : Hid (Bx3 w.heap.size (w5.alloc (.cells #[.string (Ba (rn s2))] 9))) := HX5.out.alloc _
  obtain ⟨⟨z0, hz0⟩, ⟨z1, hz1⟩, ⟨z2, hz2⟩⟩ := HXa.out.some
  have hf0 := HXa.out.free 0
  have hf1 := HXa.out.free 1
  have hf2 := HXa.out.free 2
  obtain ⟨f1, f2, f3⟩ := part_fin (HG5.out.alloc _) HXa.out (HR5.out.below ((Below.refl _ _).alloc (Nat.le_refl _) _)) hbl (one_new w.heap.size (rn s2) w5 HG5.out.size) (.string (Ba (rn s))) (.int .i64 2) (.slice (some ⟨w5.heap.size, 0, none⟩) 1 1)
  obtain ⟨c0, c1, c2⟩ := (put3_box HXa.out (Ba (rn s)) 2 (.slice (some ⟨w5.heap.size, 0, none⟩) 1 1)).cells
  unfold put3 at f1 f2 f3 c0 c1 c2
  have F : Hid (_) := And.intro f1 (And.intro f2 f3)
  clear f1 f2 f3
  go_wp2_with fail
  refine bodyPost_ret (v := .tuple #[.agg #[.string (Ba (rn s)), .int .i64 2, .slice (some ⟨w5.heap.size, 0, none⟩) 1 1], .bool true]) (by simp [results, Tryz.results56, go_sem, c0, c1, c2]) rfl ?_
  exact ⟨F.out.1, Or.inl ⟨(rn s, 2, [rn s2]), rr s2, _, 1, 1, HP.out, rfl, rfl, F.out.2.1, F.out.2.2⟩⟩
end Go.Proofs.YtgaopmdpcjcooaaGreatDoor
