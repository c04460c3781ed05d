import Derived.Test.YtjcdklbimaclkaaGreatDoorGAj
import Derived.Test.YtjcdklbimaclkaaGreatDoorGAl
namespace Go.Proofs.YtjcdklbimaclkaaGreatDoor
open Go.RowKit
set_option linter.unusedVariables false
set_option linter.unusedSimpArgs false
set_option maxRecDepth 100000 in
set_option maxHeartbeats 8000000 in
theorem rfval_list (n b : Nat) (t : ByteArray) (p k : Nat) (d : Int) (w : World) (hV : RValueOK n) (h : Rf b t p k w) (hp : p <= t.size) (ht : t.size <= 2000) (hk : k <= 200) (hdn : d + (n + 1) = 10) (hd0 : 0 <= d) (r : Bs) (hc : skip (rest t p) = 91 :: r) (hk2 : k < 200) :
  Calls Tryz.prog 50 #[.pointer (some ⟨b, 0, none⟩), .int .i64 d] w (RValPost b t p k (n + 1) w) := by
 have hbw := h.lt
 have hsl := skipAt_le t p
 have hsg := skipAt_ge t p hp
 have HSk : Hid (rest t (skipAt t p) = skip (rest t p)) := rest_skip t p hp
 obtain ⟨w0, hw0⟩ : ∃ w0, w0 = w.alloc (.cells #[.int .i64 0, .bool false, .int .i64 0, .string ⟨#[]⟩, .slice none 0 0, .slice none 0 0] 38) := ⟨_, rfl⟩
 have HW0 : Hid (w0 = w.alloc (.cells #[.int .i64 0, .bool false, .int .i64 0, .string ⟨#[]⟩, .slice none 0 0, .slice none 0 0] 38)) := hw0
 have HR0 : Hid (Rf b t p k w0) := by show Rf _ _ _ _ _; rw [hw0]; exact h.alloc _
 have HG0 : Hid (G b w w0) := by show G _ _ _; rw [hw0]; exact (G.refl b w).alloc _
 have HZ0 : Hid (Box w0 w.heap.size ⟨0, false, 0, []⟩ (.slice none 0 0) (.slice none 0 0)) := by show Box _ _ _ _ _; rw [hw0]; exact box_new w ⟨0, false, 0, []⟩ _ _
 obtain ⟨c, hcc⟩ : ∃ c : UInt8, c = 91 := ⟨_, rfl⟩
 have ho : c ∈ opens := by rw [hcc]; decide
 rw [<- hcc] at hc
 have HL : Hid (lookOf (rest t (skipAt t p)) = (c.toNat : Int)) := by show lookOf _ = _; rw [HSk.out, hc]; rfl
 have HHd : Hid (hd (skip (rest t p)) = c) := by show hd _ = _; rw [hc]; rfl
 have HHas : Hid (decide (0 <= Lib.indexByte opensR.data.toList c) = true) := by
  show _ = true
  rw [opensR_has, List.contains_iff_mem]
  exact ho
 have HVl : Hid (value (n + 1) k (rest t p) = match row 93 (oneItem (value n)) [] (k + 1) (skip (rest t p)) with
   | .error e => .error e
   | .ok (s, k', r') => .ok (Sum.inr (Sum.inl s), k', r')) := value_list (begin_0 (by rw [HHd.out]; exact ho) hk2 (Or.inl (by omega))) (by rw [HHd.out, hcc])
 have hlt : skipAt t p < t.size := lt_of_hd (by rw [HSk.out, HHd.out, hcc]; decide)
 clear hc ho
 subst hcc
 have HVO : Hid (RValueOK n) := hV
 have hd10 : ((d : Int) == 10) = false := by rw [beq_eq_false_iff_ne]; omega
 clear hV
 clear hw0 h
 go_enter Tryz.func50, Tryz.ntmps50
 go_wp2_with fail
 rw [<- HW0.out]
 refine (look_any b t p k w0 HR0.out hp ht).mono ?_
 rintro e w1 ⟨rfl, g1, r1⟩
 have HG1 : Hid (G b w w1) := HG0.out.trans g1
 have HR1 : Hid (Rf b t (skipAt t p) k w1) := r1
 have HZ1 : Hid (Box w1 w.heap.size ⟨0, false, 0, []⟩ (.slice none 0 0) (.slice none 0 0)) := HZ0.out.grown g1 (fun e => by cases e; omega)
 clear g1 r1
 rw [HL.out]
 have hc0 : decide (((91 : UInt8).toNat : Int) < 0) = false := by rw [decide_eq_false_iff_not]; omega
 go_wp2_with fail
 refine (chr_any 91 w1).mono ?_
 rintro e w2 ⟨rfl, b2⟩
 have HG2 : Hid (G b w w2) := HG1.out.trans ⟨b2.os, b2.tape, b2.output, b2.size, fun k hk _ => b2.block k hk⟩
 have HR2 : Hid (Rf b t (skipAt t p) k w2) := HR1.out.below b2
 have HZ2 : Hid (Box w2 w.heap.size ⟨0, false, 0, []⟩ (.slice none 0 0) (.slice none 0 0)) := HZ1.out.below b2
 clear b2
 go_wp2_with fail
 refine (Tryz.strings_Contains_one opensR 91 w2).mono ?_
 rintro e w2' ⟨rfl, rfl⟩
 rw [HHas.out]
 have m0 := HR2.out.many
 have m1 := HR2.out.free 2
 have m2 := (HR2.out.count (k + 1)).many
 have HR3 : Hid (Rf b t (skipAt t p) (k + 1) (w2'.setCell ⟨b, 2, none⟩ (.int .i64 ((k : Int) + 1)))) := HR2.out.count (k + 1)
 have HG3 : Hid (G b w (w2'.setCell ⟨b, 2, none⟩ (.int .i64 ((k : Int) + 1)))) := HG2.out.setCell 2 _
 have HZ3 : Hid (Box (w2'.setCell ⟨b, 2, none⟩ (.int .i64 ((k : Int) + 1))) w.heap.size ⟨0, false, 0, []⟩ (.slice none 0 0) (.slice none 0 0)) := HZ2.out.other (by omega) _
 have hkk : ¬ (200 : Int) < (k : Int) + 1 := by omega
 go_wp2_with fail
 generalize w2'.setCell ⟨b, 2, none⟩ (.int .i64 ((k : Int) + 1)) = w3 at *
 refine (rflist_any n b t (skipAt t p) (k + 1) d w3 HVO.out (by omega) hd0 HR3.out hlt ht (by omega)).mono ?_
 rintro e w4 ⟨g4, h4⟩
 have HG4 : Hid (G b w w4) := HG3.out.trans g4
 have HZ4 : Hid (Box w4 w.heap.size ⟨0, false, 0, []⟩ (.slice none 0 0) (.slice none 0 0)) := HZ3.out.grown g4 (fun e => by cases e; omega)
 have hw34 : w.heap.size < w3.heap.size := HZ3.out.lt
 clear g4
 rcases h4 with ⟨er, hh, hv, her, her2, rfl⟩ | ⟨s, k', q, v, hv, hpq, hq, hk', rfl, hR4, hst⟩
 ·have HX : Hid (value (n + 1) k (rest t p) = .error er) := by
   show value _ _ _ = _
   rw [HVl.out, <- HSk.out, hv]
  clear hv
  unfold rfV
  have f0 := HZ4.out.free 0
  have f1 := HZ4.out.free 1
  have f2 := HZ4.out.free 2
  have f3 := HZ4.out.free 3
  have f4 := HZ4.out.free 4
  have f5 := HZ4.out.free 5
  have z0 := HZ4.out.c0
  have z1 := HZ4.out.c1
  have z2 := HZ4.out.c2
  have z3 := HZ4.out.c3
  have z4 := HZ4.out.c4
  have z5 := HZ4.out.c5
  go_wp2_with fail
  have e6 : Box (put6 w4 (w.heap.size) (.int .i64 (hh).k) (.bool (hh).b) (.int .i64 (hh).i) (.string ⟨(hh).s.toArray⟩) (.slice none 0 0) (.slice none 0 0)) (w.heap.size) (hh) (.slice none 0 0) (.slice none 0 0) := put6_box HZ4.out (hh) (.slice none 0 0) (.slice none 0 0)
  have g6 := put6_grown w4 (w.heap.size) (.int .i64 (hh).k) (.bool (hh).b) (.int .i64 (hh).i) (.string ⟨(hh).s.toArray⟩) (.slice none 0 0) (.slice none 0 0)
  change bodyPost _ _ _ _ _ (put6 w4 (w.heap.size) _ _ _ _ _ _)
  generalize put6 w4 (w.heap.size) (.int .i64 (hh).k) (.bool (hh).b) (.int .i64 (hh).i) (.string ⟨(hh).s.toArray⟩) (.slice none 0 0) (.slice none 0 0) = W at *
  exact bodyPost_ret (v := .tuple #[rfV (hh) (.slice none 0 0) (.slice none 0 0), .int .i64 er]) (by simp [results, Tryz.results50, go_sem, rfV, e6.c0, e6.c1, e6.c2, e6.c3, e6.c4, e6.c5]) rfl ⟨HG4.out.grown g6 (fun k e => by cases e; omega), Or.inl ⟨er, _, HX.out, her, her2, rfl⟩⟩
 ·have HX : Hid (value (n + 1) k (rest t p) = .ok (Sum.inr (Sum.inl s), k', rest t q)) := by
   show value _ _ _ = _
   rw [HVl.out, <- HSk.out, hv]
  have hkk' : k < k' := value_counts _ _ _ _ _ _ HX.out
  obtain ⟨nm1, l1, rfl⟩ := rst_form hst
  obtain ⟨⟨p1, n1, c1, rfl⟩, p2, n2, c2, rfl⟩ := rst_sl hst
  have HSt : Hid (RSt (fun c => c < w.heap.size + 1) w4 (n + 1) (Sum.inr (Sum.inl s)) (rfV (headJ (n + 1) (Sum.inr (Sum.inl s))) (.slice p1 n1 c1) (.slice p2 n2 c2))) := hst.wide (fun c e => Or.inl (by omega))
  have HR4 : Hid (Rf b t q k' w4) := hR4
  clear hv hst hR4
  unfold rfV
  generalize hj0 : (Sum.inr (Sum.inl s) : J (n + 1)) = j0 at *
  have f0 := HZ4.out.free 0
  have f1 := HZ4.out.free 1
  have f2 := HZ4.out.free 2
  have f3 := HZ4.out.free 3
  have f4 := HZ4.out.free 4
  have f5 := HZ4.out.free 5
  have z0 := HZ4.out.c0
  have z1 := HZ4.out.c1
  have z2 := HZ4.out.c2
  have z3 := HZ4.out.c3
  have z4 := HZ4.out.c4
  have z5 := HZ4.out.c5
  go_wp2_with fail
  have e6 : Box (put6 w4 (w.heap.size) (.int .i64 (headJ (n + 1) j0).k) (.bool (headJ (n + 1) j0).b) (.int .i64 (headJ (n + 1) j0).i) (.string ⟨(headJ (n + 1) j0).s.toArray⟩) (.slice p1 n1 c1) (.slice p2 n2 c2)) (w.heap.size) (headJ (n + 1) j0) (.slice p1 n1 c1) (.slice p2 n2 c2) := put6_box HZ4.out (headJ (n + 1) j0) (.slice p1 n1 c1) (.slice p2 n2 c2)
  have g6 := put6_grown w4 (w.heap.size) (.int .i64 (headJ (n + 1) j0).k) (.bool (headJ (n + 1) j0).b) (.int .i64 (headJ (n + 1) j0).i) (.string ⟨(headJ (n + 1) j0).s.toArray⟩) (.slice p1 n1 c1) (.slice p2 n2 c2)
  change bodyPost _ _ _ _ _ (put6 w4 (w.heap.size) _ _ _ _ _ _)
  generalize put6 w4 (w.heap.size) (.int .i64 (headJ (n + 1) j0).k) (.bool (headJ (n + 1) j0).b) (.int .i64 (headJ (n + 1) j0).i) (.string ⟨(headJ (n + 1) j0).s.toArray⟩) (.slice p1 n1 c1) (.slice p2 n2 c2) = W at *
  exact bodyPost_ret (v := .tuple #[rfV (headJ (n + 1) j0) (.slice p1 n1 c1) (.slice p2 n2 c2), .int .i64 0]) (by simp [results, Tryz.results50, go_sem, rfV, e6.c0, e6.c1, e6.c2, e6.c3, e6.c4, e6.c5]) rfl ⟨HG4.out.grown g6 (fun k e => by cases e; omega), Or.inr ⟨j0, k', q, _, HX.out, by omega, hq, hkk', hk', rfl, HR4.out.kept g6 (fun e => by cases e; omega), (HSt.out.grown g6 (fun k e => by cases e; omega)).wide (fun c e => Or.inl (by omega))⟩⟩
set_option maxRecDepth 100000 in
set_option maxHeartbeats 8000000 in
theorem rfval_obj (n b : Nat) (t : ByteArray) (p k : Nat) (d : Int) (w : World) (hV : RValueOK n) (h : Rf b t p k w) (hp : p <= t.size) (ht : t.size <= 2000) (hk : k <= 200) (hdn : d + (n + 1) = 10) (hd0 : 0 <= d) (r : Bs) (hc : skip (rest t p) = 123 :: r) (hk2 : k < 200) :
  Calls Tryz.prog 50 #[.pointer (some ⟨b, 0, none⟩), .int .i64 d] w (RValPost b t p k (n + 1) w) := by
 have hbw := h.lt
 have hsl := skipAt_le t p
 have hsg := skipAt_ge t p hp
 have HSk : Hid (rest t (skipAt t p) = skip (rest t p)) := rest_skip t p hp
 obtain ⟨w0, hw0⟩ : ∃ w0, w0 = w.alloc (.cells #[.int .i64 0, .bool false, .int .i64 0, .string ⟨#[]⟩, .slice none 0 0, .slice none 0 0] 38) := ⟨_, rfl⟩
 have HW0 : Hid (w0 = w.alloc (.cells #[.int .i64 0, .bool false, .int .i64 0, .string ⟨#[]⟩, .slice none 0 0, .slice none 0 0] 38)) := hw0
 have HR0 : Hid (Rf b t p k w0) := by show Rf _ _ _ _ _; rw [hw0]; exact h.alloc _
 have HG0 : Hid (G b w w0) := by show G _ _ _; rw [hw0]; exact (G.refl b w).alloc _
 have HZ0 : Hid (Box w0 w.heap.size ⟨0, false, 0, []⟩ (.slice none 0 0) (.slice none 0 0)) := by show Box _ _ _ _ _; rw [hw0]; exact box_new w ⟨0, false, 0, []⟩ _ _
 obtain ⟨c, hcc⟩ : ∃ c : UInt8, c = 123 := ⟨_, rfl⟩
 have ho : c ∈ opens := by rw [hcc]; decide
 rw [<- hcc] at hc
 have HL : Hid (lookOf (rest t (skipAt t p)) = (c.toNat : Int)) := by show lookOf _ = _; rw [HSk.out, hc]; rfl
 have HHd : Hid (hd (skip (rest t p)) = c) := by show hd _ = _; rw [hc]; rfl
 have HHas : Hid (decide (0 <= Lib.indexByte opensR.data.toList c) = true) := by
  show _ = true
  rw [opensR_has, List.contains_iff_mem]
  exact ho
 have HVl : Hid (value (n + 1) k (rest t p) = match row 125 (oneField (value n)) [] (k + 1) (skip (rest t p)) with
   | .error e => .error e
   | .ok (s, k', r') => .ok (Sum.inr (Sum.inr s), k', r')) := value_obj (begin_0 (by rw [HHd.out]; exact ho) hk2 (Or.inl (by omega))) (by rw [HHd.out, hcc])
 have hlt : skipAt t p < t.size := lt_of_hd (by rw [HSk.out, HHd.out, hcc]; decide)
 clear hc ho
 subst hcc
 have HVO : Hid (RValueOK n) := hV
 have hd10 : ((d : Int) == 10) = false := by rw [beq_eq_false_iff_ne]; omega
 clear hV
 clear hw0 h
 go_enter Tryz.func50, Tryz.ntmps50
 go_wp2_with fail
 rw [<- HW0.out]
 refine (look_any b t p k w0 HR0.out hp ht).mono ?_
 rintro e w1 ⟨rfl, g1, r1⟩
 have HG1 : Hid (G b w w1) := HG0.out.trans g1
 have HR1 : Hid (Rf b t (skipAt t p) k w1) := r1
 have HZ1 : Hid (Box w1 w.heap.size ⟨0, false, 0, []⟩ (.slice none 0 0) (.slice none 0 0)) := HZ0.out.grown g1 (fun e => by cases e; omega)
 clear g1 r1
 rw [HL.out]
 have hc0 : decide (((123 : UInt8).toNat : Int) < 0) = false := by rw [decide_eq_false_iff_not]; omega
 go_wp2_with fail
 refine (chr_any 123 w1).mono ?_
 rintro e w2 ⟨rfl, b2⟩
 have HG2 : Hid (G b w w2) := HG1.out.trans ⟨b2.os, b2.tape, b2.output, b2.size, fun k hk _ => b2.block k hk⟩
 have HR2 : Hid (Rf b t (skipAt t p) k w2) := HR1.out.below b2
 have HZ2 : Hid (Box w2 w.heap.size ⟨0, false, 0, []⟩ (.slice none 0 0) (.slice none 0 0)) := HZ1.out.below b2
 clear b2
 go_wp2_with fail
 refine (Tryz.strings_Contains_one opensR 123 w2).mono ?_
 rintro e w2' ⟨rfl, rfl⟩
 rw [HHas.out]
 have m0 := HR2.out.many
 have m1 := HR2.out.free 2
 have m2 := (HR2.out.count (k + 1)).many
 have HR3 : Hid (Rf b t (skipAt t p) (k + 1) (w2'.setCell ⟨b, 2, none⟩ (.int .i64 ((k : Int) + 1)))) := HR2.out.count (k + 1)
 have HG3 : Hid (G b w (w2'.setCell ⟨b, 2, none⟩ (.int .i64 ((k : Int) + 1)))) := HG2.out.setCell 2 _
 have HZ3 : Hid (Box (w2'.setCell ⟨b, 2, none⟩ (.int .i64 ((k : Int) + 1))) w.heap.size ⟨0, false, 0, []⟩ (.slice none 0 0) (.slice none 0 0)) := HZ2.out.other (by omega) _
 have hkk : ¬ (200 : Int) < (k : Int) + 1 := by omega
 go_wp2_with fail
 generalize w2'.setCell ⟨b, 2, none⟩ (.int .i64 ((k : Int) + 1)) = w3 at *
 refine (rfobj_any n b t (skipAt t p) (k + 1) d w3 HVO.out (by omega) hd0 HR3.out hlt ht (by omega)).mono ?_
 rintro e w4 ⟨g4, h4⟩
 have HG4 : Hid (G b w w4) := HG3.out.trans g4
 have HZ4 : Hid (Box w4 w.heap.size ⟨0, false, 0, []⟩ (.slice none 0 0) (.slice none 0 0)) := HZ3.out.grown g4 (fun e => by cases e; omega)
 have hw34 : w.heap.size < w3.heap.size := HZ3.out.lt
 clear g4
 rcases h4 with ⟨er, hh, hv, her, her2, rfl⟩ | ⟨s, k', q, v, hv, hpq, hq, hk', rfl, hR4, hst⟩
 ·have HX : Hid (value (n + 1) k (rest t p) = .error er) := by
   show value _ _ _ = _
   rw [HVl.out, <- HSk.out, hv]
  clear hv
  unfold rfV
  have f0 := HZ4.out.free 0
  have f1 := HZ4.out.free 1
  have f2 := HZ4.out.free 2
  have f3 := HZ4.out.free 3
  have f4 := HZ4.out.free 4
  have f5 := HZ4.out.free 5
  have z0 := HZ4.out.c0
  have z1 := HZ4.out.c1
  have z2 := HZ4.out.c2
  have z3 := HZ4.out.c3
  have z4 := HZ4.out.c4
  have z5 := HZ4.out.c5
  go_wp2_with fail
  have e6 : Box (put6 w4 (w.heap.size) (.int .i64 (hh).k) (.bool (hh).b) (.int .i64 (hh).i) (.string ⟨(hh).s.toArray⟩) (.slice none 0 0) (.slice none 0 0)) (w.heap.size) (hh) (.slice none 0 0) (.slice none 0 0) := put6_box HZ4.out (hh) (.slice none 0 0) (.slice none 0 0)
  have g6 := put6_grown w4 (w.heap.size) (.int .i64 (hh).k) (.bool (hh).b) (.int .i64 (hh).i) (.string ⟨(hh).s.toArray⟩) (.slice none 0 0) (.slice none 0 0)
  change bodyPost _ _ _ _ _ (put6 w4 (w.heap.size) _ _ _ _ _ _)
  generalize put6 w4 (w.heap.size) (.int .i64 (hh).k) (.bool (hh).b) (.int .i64 (hh).i) (.string ⟨(hh).s.toArray⟩) (.slice none 0 0) (.slice none 0 0) = W at *
  exact bodyPost_ret (v := .tuple #[rfV (hh) (.slice none 0 0) (.slice none 0 0), .int .i64 er]) (by simp [results, Tryz.results50, go_sem, rfV, e6.c0, e6.c1, e6.c2, e6.c3, e6.c4, e6.c5]) rfl ⟨HG4.out.grown g6 (fun k e => by cases e; omega), Or.inl ⟨er, _, HX.out, her, her2, rfl⟩⟩
 ·have HX : Hid (value (n + 1) k (rest t p) = .ok (Sum.inr (Sum.inr s), k', rest t q)) := by
   show value _ _ _ = _
   rw [HVl.out, <- HSk.out, hv]
  have hkk' : k < k' := value_counts _ _ _ _ _ _ HX.out
  obtain ⟨nm1, l1, rfl⟩ := rst_form hst
  obtain ⟨⟨p1, n1, c1, rfl⟩, p2, n2, c2, rfl⟩ := rst_sl hst
  have HSt : Hid (RSt (fun c => c < w.heap.size + 1) w4 (n + 1) (Sum.inr (Sum.inr s)) (rfV (headJ (n + 1) (Sum.inr (Sum.inr s))) (.slice p1 n1 c1) (.slice p2 n2 c2))) := hst.wide (fun c e => Or.inl (by omega))
  have HR4 : Hid (Rf b t q k' w4) := hR4
  clear hv hst hR4
  unfold rfV
  generalize hj0 : (Sum.inr (Sum.inr s) : J (n + 1)) = j0 at *
  have f0 := HZ4.out.free 0
  have f1 := HZ4.out.free 1
  have f2 := HZ4.out.free 2
  have f3 := HZ4.out.free 3
  have f4 := HZ4.out.free 4
  have f5 := HZ4.out.free 5
  have z0 := HZ4.out.c0
  have z1 := HZ4.out.c1
  have z2 := HZ4.out.c2
  have z3 := HZ4.out.c3
  have z4 := HZ4.out.c4
  have z5 := HZ4.out.c5
  go_wp2_with fail
  have e6 : Box (put6 w4 (w.heap.size) (.int .i64 (headJ (n + 1) j0).k) (.bool (headJ (n + 1) j0).b) (.int .i64 (headJ (n + 1) j0).i) (.string ⟨(headJ (n + 1) j0).s.toArray⟩) (.slice p1 n1 c1) (.slice p2 n2 c2)) (w.heap.size) (headJ (n + 1) j0) (.slice p1 n1 c1) (.slice p2 n2 c2) := put6_box HZ4.out (headJ (n + 1) j0) (.slice p1 n1 c1) (.slice p2 n2 c2)
  have g6 := put6_grown w4 (w.heap.size) (.int .i64 (headJ (n + 1) j0).k) (.bool (headJ (n + 1) j0).b) (.int .i64 (headJ (n + 1) j0).i) (.string ⟨(headJ (n + 1) j0).s.toArray⟩) (.slice p1 n1 c1) (.slice p2 n2 c2)
  change bodyPost _ _ _ _ _ (put6 w4 (w.heap.size) _ _ _ _ _ _)
  generalize put6 w4 (w.heap.size) (.int .i64 (headJ (n + 1) j0).k) (.bool (headJ (n + 1) j0).b) (.int .i64 (headJ (n + 1) j0).i) (.string ⟨(headJ (n + 1) j0).s.toArray⟩) (.slice p1 n1 c1) (.slice p2 n2 c2) = W at *
  exact bodyPost_ret (v := .tuple #[rfV (headJ (n + 1) j0) (.slice p1 n1 c1) (.slice p2 n2 c2), .int .i64 0]) (by simp [results, Tryz.results50, go_sem, rfV, e6.c0, e6.c1, e6.c2, e6.c3, e6.c4, e6.c5]) rfl ⟨HG4.out.grown g6 (fun k e => by cases e; omega), Or.inr ⟨j0, k', q, _, HX.out, by omega, hq, hkk', hk', rfl, HR4.out.kept g6 (fun e => by cases e; omega), (HSt.out.grown g6 (fun k e => by cases e; omega)).wide (fun c e => Or.inl (by omega))⟩⟩
set_option maxRecDepth 100000 in
set_option maxHeartbeats 8000000 in
theorem rfval_text (n b : Nat) (t : ByteArray) (p k : Nat) (d : Int) (w : World) (h : Rf b t p k w) (hp : p <= t.size) (ht : t.size <= 2000) (hk : k <= 200) (hdn : d + n = 10) (hd0 : 0 <= d) (r : Bs) (hc : skip (rest t p) = 34 :: r) (hk2 : k < 200) :
  Calls Tryz.prog 50 #[.pointer (some ⟨b, 0, none⟩), .int .i64 d] w (RValPost b t p k n w) := by
 have hbw := h.lt
 have hsl := skipAt_le t p
 have hsg := skipAt_ge t p hp
 have HSk : Hid (rest t (skipAt t p) = skip (rest t p)) := rest_skip t p hp
 obtain ⟨w0, hw0⟩ : ∃ w0, w0 = w.alloc (.cells #[.int .i64 0, .bool false, .int .i64 0, .string ⟨#[]⟩, .slice none 0 0, .slice none 0 0] 38) := ⟨_, rfl⟩
 have HW0 : Hid (w0 = w.alloc (.cells #[.int .i64 0, .bool false, .int .i64 0, .string ⟨#[]⟩, .slice none 0 0, .slice none 0 0] 38)) := hw0
 have HR0 : Hid (Rf b t p k w0) := by show Rf _ _ _ _ _; rw [hw0]; exact h.alloc _
 have HG0 : Hid (G b w w0) := by show G _ _ _; rw [hw0]; exact (G.refl b w).alloc _
 have HZ0 : Hid (Box w0 w.heap.size ⟨0, false, 0, []⟩ (.slice none 0 0) (.slice none 0 0)) := by show Box _ _ _ _ _; rw [hw0]; exact box_new w ⟨0, false, 0, []⟩ _ _
 obtain ⟨c, hcc⟩ : ∃ c : UInt8, c = 34 := ⟨_, rfl⟩
 have ho : c ∈ opens := by rw [hcc]; decide
 rw [<- hcc] at hc
 have HL : Hid (lookOf (rest t (skipAt t p)) = (c.toNat : Int)) := by show lookOf _ = _; rw [HSk.out, hc]; rfl
 have HHd : Hid (hd (skip (rest t p)) = c) := by show hd _ = _; rw [hc]; rfl
 have HHas : Hid (decide (0 <= Lib.indexByte opensR.data.toList c) = true) := by
  show _ = true
  rw [opensR_has, List.contains_iff_mem]
  exact ho
 have HVl : Hid (value n k (rest t p) = leafAt n k (skip (rest t p))) := value_leaf (begin_0 (by rw [HHd.out]; exact ho) hk2 (Or.inr (by rw [HHd.out, hcc]; decide))) (by rw [HHd.out, hcc]; decide) (by rw [HHd.out, hcc]; decide)
 have HLe : Hid (leafE (skip (rest t p)) = textE (skip (rest t p))) := by
  show leafE _ = _
  rw [leafE, HHd.out, hcc]
  simp
 have HQ : Hid (quoted (skip (rest t p)) = signs (rest t (skipAt t p + 1))) := by
  show quoted _ = _
  rw [quoted, HHd.out, hcc, if_pos rfl, <- HSk.out, rest_tail]
 have hlt : skipAt t p < t.size := lt_of_hd (by rw [HSk.out, HHd.out, hcc]; decide)
 clear hc ho
 subst hcc
 clear hw0 h
 go_enter Tryz.func50, Tryz.ntmps50
 go_wp2_with fail
 rw [<- HW0.out]
 refine (look_any b t p k w0 HR0.out hp ht).mono ?_
 rintro e w1 ⟨rfl, g1, r1⟩
 have HG1 : Hid (G b w w1) := HG0.out.trans g1
 have HR1 : Hid (Rf b t (skipAt t p) k w1) := r1
 have HZ1 : Hid (Box w1 w.heap.size ⟨0, false, 0, []⟩ (.slice none 0 0) (.slice none 0 0)) := HZ0.out.grown g1 (fun e => by cases e; omega)
 clear g1 r1
 rw [HL.out]
 have hc0 : decide (((34 : UInt8).toNat : Int) < 0) = false := by rw [decide_eq_false_iff_not]; omega
 go_wp2_with fail
 refine (chr_any 34 w1).mono ?_
 rintro e w2 ⟨rfl, b2⟩
 have HG2 : Hid (G b w w2) := HG1.out.trans ⟨b2.os, b2.tape, b2.output, b2.size, fun k hk _ => b2.block k hk⟩
 have HR2 : Hid (Rf b t (skipAt t p) k w2) := HR1.out.below b2
 have HZ2 : Hid (Box w2 w.heap.size ⟨0, false, 0, []⟩ (.slice none 0 0) (.slice none 0 0)) := HZ1.out.below b2
 clear b2
 go_wp2_with fail
 refine (Tryz.strings_Contains_one opensR 34 w2).mono ?_
 rintro e w2' ⟨rfl, rfl⟩
 rw [HHas.out]
 have m0 := HR2.out.many
 have m1 := HR2.out.free 2
 have m2 := (HR2.out.count (k + 1)).many
 have HR3 : Hid (Rf b t (skipAt t p) (k + 1) (w2'.setCell ⟨b, 2, none⟩ (.int .i64 ((k : Int) + 1)))) := HR2.out.count (k + 1)
 have HG3 : Hid (G b w (w2'.setCell ⟨b, 2, none⟩ (.int .i64 ((k : Int) + 1)))) := HG2.out.setCell 2 _
 have HZ3 : Hid (Box (w2'.setCell ⟨b, 2, none⟩ (.int .i64 ((k : Int) + 1))) w.heap.size ⟨0, false, 0, []⟩ (.slice none 0 0) (.slice none 0 0)) := HZ2.out.other (by omega) _
 have hkk : ¬ (200 : Int) < (k : Int) + 1 := by omega
 go_wp2_with fail
 generalize w2'.setCell ⟨b, 2, none⟩ (.int .i64 ((k : Int) + 1)) = w3 at *
 refine (rftext_any b t (skipAt t p) (k + 1) w3 HR3.out hlt ht).mono ?_
 rintro e w4 ⟨g4, h4⟩
 have HG4 : Hid (G b w w4) := HG3.out.trans g4
 have HZ4 : Hid (Box w4 w.heap.size ⟨0, false, 0, []⟩ (.slice none 0 0) (.slice none 0 0)) := HZ3.out.grown g4 (fun e => by cases e; omega)
 clear g4
 rcases h4 with ⟨hsg4, rfl⟩ | ⟨l, q, hq, hsg4, rfl, hR4⟩
 ·have HX : Hid (value n k (rest t p) = .error 3) := by
   show value _ _ _ = _
   rw [HVl.out, leafAt, HLe.out, textE, HQ.out, hsg4]
  clear hsg4
  have f0 := HZ4.out.free 0
  have f1 := HZ4.out.free 1
  have f2 := HZ4.out.free 2
  have f3 := HZ4.out.free 3
  have f4 := HZ4.out.free 4
  have f5 := HZ4.out.free 5
  have z0 := HZ4.out.c0
  have z1 := HZ4.out.c1
  have z2 := HZ4.out.c2
  have z3 := HZ4.out.c3
  have z4 := HZ4.out.c4
  have z5 := HZ4.out.c5
  go_wp2_with fail
  have e6 : Box (put6 w4 (w.heap.size) (.int .i64 4) (.bool false) (.int .i64 0) (.string ⟨#[]⟩) (.slice none 0 0) (.slice none 0 0)) (w.heap.size) ⟨4, false, 0, []⟩ (.slice none 0 0) (.slice none 0 0) := put6_box HZ4.out ⟨4, false, 0, []⟩ (.slice none 0 0) (.slice none 0 0)
  have g6 := put6_grown w4 (w.heap.size) (.int .i64 4) (.bool false) (.int .i64 0) (.string ⟨#[]⟩) (.slice none 0 0) (.slice none 0 0)
  change bodyPost _ _ _ _ _ (put6 w4 (w.heap.size) _ _ _ _ _ _)
  generalize put6 w4 (w.heap.size) (.int .i64 4) (.bool false) (.int .i64 0) (.string ⟨#[]⟩) (.slice none 0 0) (.slice none 0 0) = W at *
  exact bodyPost_ret (v := .tuple #[rfV ⟨4, false, 0, []⟩ (.slice none 0 0) (.slice none 0 0), .int .i64 3]) (by simp [results, Tryz.results50, go_sem, rfV, e6.c0, e6.c1, e6.c2, e6.c3, e6.c4, e6.c5]) rfl ⟨HG4.out.grown g6 (fun k e => by cases e; omega), Or.inl ⟨3, _, HX.out, by decide, by decide, rfl⟩⟩
 ·have HX : Hid (value n k (rest t p) = .ok (leaf n (some (Sum.inr (Sum.inr l))), k + 1, rest t q)) := by
   show value _ _ _ = _
   rw [HVl.out, leafAt, HLe.out, textE, HQ.out, hsg4]
  have hlq : skipAt t p + 1 < q := by
   have := signs_len _ _ _ hsg4
   rw [rest_len, rest_len] at this
   omega
  have HR4 : Hid (Rf b t q (k + 1) w4) := hR4
  clear hsg4 hR4
  have f0 := HZ4.out.free 0
  have f1 := HZ4.out.free 1
  have f2 := HZ4.out.free 2
  have f3 := HZ4.out.free 3
  have f4 := HZ4.out.free 4
  have f5 := HZ4.out.free 5
  have z0 := HZ4.out.c0
  have z1 := HZ4.out.c1
  have z2 := HZ4.out.c2
  have z3 := HZ4.out.c3
  have z4 := HZ4.out.c4
  have z5 := HZ4.out.c5
  go_wp2_with fail
  have e6 : Box (put6 w4 (w.heap.size) (.int .i64 4) (.bool false) (.int .i64 0) (.string ⟨(l).toArray⟩) (.slice none 0 0) (.slice none 0 0)) (w.heap.size) ⟨4, false, 0, l⟩ (.slice none 0 0) (.slice none 0 0) := put6_box HZ4.out ⟨4, false, 0, l⟩ (.slice none 0 0) (.slice none 0 0)
  have g6 := put6_grown w4 (w.heap.size) (.int .i64 4) (.bool false) (.int .i64 0) (.string ⟨(l).toArray⟩) (.slice none 0 0) (.slice none 0 0)
  change bodyPost _ _ _ _ _ (put6 w4 (w.heap.size) _ _ _ _ _ _)
  generalize put6 w4 (w.heap.size) (.int .i64 4) (.bool false) (.int .i64 0) (.string ⟨(l).toArray⟩) (.slice none 0 0) (.slice none 0 0) = W at *
  exact bodyPost_ret (v := .tuple #[rfV ⟨4, false, 0, l⟩ (.slice none 0 0) (.slice none 0 0), .int .i64 0]) (by simp [results, Tryz.results50, go_sem, rfV, e6.c0, e6.c1, e6.c2, e6.c3, e6.c4, e6.c5]) rfl ⟨HG4.out.grown g6 (fun k e => by cases e; omega), Or.inr ⟨_, k + 1, q, _, HX.out, by omega, hq, by omega, by omega, rfl, HR4.out.kept g6 (fun e => by cases e; omega), rst_leaf _ _ n (some (Sum.inr (Sum.inr l)))⟩⟩
set_option maxRecDepth 100000 in
set_option maxHeartbeats 8000000 in
theorem rfval_null (n b : Nat) (t : ByteArray) (p k : Nat) (d : Int) (w : World) (h : Rf b t p k w) (hp : p <= t.size) (ht : t.size <= 2000) (hk : k <= 200) (hdn : d + n = 10) (hd0 : 0 <= d) (r : Bs) (hc : skip (rest t p) = 110 :: r) (hk2 : k < 200) :
  Calls Tryz.prog 50 #[.pointer (some ⟨b, 0, none⟩), .int .i64 d] w (RValPost b t p k n w) := by
 have hbw := h.lt
 have hsl := skipAt_le t p
 have hsg := skipAt_ge t p hp
 have HSk : Hid (rest t (skipAt t p) = skip (rest t p)) := rest_skip t p hp
 obtain ⟨w0, hw0⟩ : ∃ w0, w0 = w.alloc (.cells #[.int .i64 0, .bool false, .int .i64 0, .string ⟨#[]⟩, .slice none 0 0, .slice none 0 0] 38) := ⟨_, rfl⟩
 have HW0 : Hid (w0 = w.alloc (.cells #[.int .i64 0, .bool false, .int .i64 0, .string ⟨#[]⟩, .slice none 0 0, .slice none 0 0] 38)) := hw0
 have HR0 : Hid (Rf b t p k w0) := by show Rf _ _ _ _ _; rw [hw0]; exact h.alloc _
 have HG0 : Hid (G b w w0) := by show G _ _ _; rw [hw0]; exact (G.refl b w).alloc _
 have HZ0 : Hid (Box w0 w.heap.size ⟨0, false, 0, []⟩ (.slice none 0 0) (.slice none 0 0)) := by show Box _ _ _ _ _; rw [hw0]; exact box_new w ⟨0, false, 0, []⟩ _ _
 obtain ⟨c, hcc⟩ : ∃ c : UInt8, c = 110 := ⟨_, rfl⟩
 have ho : c ∈ opens := by rw [hcc]; decide
 rw [<- hcc] at hc
 have HL : Hid (lookOf (rest t (skipAt t p)) = (c.toNat : Int)) := by show lookOf _ = _; rw [HSk.out, hc]; rfl
 have HHd : Hid (hd (skip (rest t p)) = c) := by show hd _ = _; rw [hc]; rfl
 have HHas : Hid (decide (0 <= Lib.indexByte opensR.data.toList c) = true) := by
  show _ = true
  rw [opensR_has, List.contains_iff_mem]
  exact ho
 have HVl : Hid (value n k (rest t p) = leafAt n k (skip (rest t p))) := value_leaf (begin_0 (by rw [HHd.out]; exact ho) hk2 (Or.inr (by rw [HHd.out, hcc]; decide))) (by rw [HHd.out, hcc]; decide) (by rw [HHd.out, hcc]; decide)
 have HLe : Hid (leafE (skip (rest t p)) = word nullB (skip (rest t p)) none) := by
  show leafE _ = _
  rw [leafE, HHd.out, hcc]
  simp
 clear hc ho
 subst hcc
 clear hw0 h
 go_enter Tryz.func50, Tryz.ntmps50
 go_wp2_with fail
 rw [<- HW0.out]
 refine (look_any b t p k w0 HR0.out hp ht).mono ?_
 rintro e w1 ⟨rfl, g1, r1⟩
 have HG1 : Hid (G b w w1) := HG0.out.trans g1
 have HR1 : Hid (Rf b t (skipAt t p) k w1) := r1
 have HZ1 : Hid (Box w1 w.heap.size ⟨0, false, 0, []⟩ (.slice none 0 0) (.slice none 0 0)) := HZ0.out.grown g1 (fun e => by cases e; omega)
 clear g1 r1
 rw [HL.out]
 have hc0 : decide (((110 : UInt8).toNat : Int) < 0) = false := by rw [decide_eq_false_iff_not]; omega
 go_wp2_with fail
 refine (chr_any 110 w1).mono ?_
 rintro e w2 ⟨rfl, b2⟩
 have HG2 : Hid (G b w w2) := HG1.out.trans ⟨b2.os, b2.tape, b2.output, b2.size, fun k hk _ => b2.block k hk⟩
 have HR2 : Hid (Rf b t (skipAt t p) k w2) := HR1.out.below b2
 have HZ2 : Hid (Box w2 w.heap.size ⟨0, false, 0, []⟩ (.slice none 0 0) (.slice none 0 0)) := HZ1.out.below b2
 clear b2
 go_wp2_with fail
 refine (Tryz.strings_Contains_one opensR 110 w2).mono ?_
 rintro e w2' ⟨rfl, rfl⟩
 rw [HHas.out]
 have m0 := HR2.out.many
 have m1 := HR2.out.free 2
 have m2 := (HR2.out.count (k + 1)).many
 have HR3 : Hid (Rf b t (skipAt t p) (k + 1) (w2'.setCell ⟨b, 2, none⟩ (.int .i64 ((k : Int) + 1)))) := HR2.out.count (k + 1)
 have HG3 : Hid (G b w (w2'.setCell ⟨b, 2, none⟩ (.int .i64 ((k : Int) + 1)))) := HG2.out.setCell 2 _
 have HZ3 : Hid (Box (w2'.setCell ⟨b, 2, none⟩ (.int .i64 ((k : Int) + 1))) w.heap.size ⟨0, false, 0, []⟩ (.slice none 0 0) (.slice none 0 0)) := HZ2.out.other (by omega) _
 have hkk : ¬ (200 : Int) < (k : Int) + 1 := by omega
 go_wp2_with fail
 generalize w2'.setCell ⟨b, 2, none⟩ (.int .i64 ((k : Int) + 1)) = w3 at *
 cases hpre : (nullB).isPrefixOf (rest t (skipAt t p)) with
 | true =>
  have hle : skipAt t p + 4 <= t.size := by
   have h2 := word_len hpre
   rw [rest_len] at h2
   have h3 : (nullB).length = 4 := rfl
   omega
  have HX : Hid (value n k (rest t p) = .ok (leaf n none, k + 1, rest t (skipAt t p + 4))) := by
   show value _ _ _ = _
   rw [HVl.out, leafAt, HLe.out, word, <- HSk.out, if_pos hpre]
   have : (rest t (skipAt t p)).drop (nullB).length = rest t (skipAt t p + 4) := by
    unfold rest
    rw [List.drop_drop]
    rfl
   rw [this]
  have hcall := rfword_yes b t { data := #[110, 117, 108, 108] } (skipAt t p) (k + 1) 1 false w3 HR3.out hsl ht (by decide) hpre
  unfold rfLeaf at hcall
  refine Calls.mono hcall ?_
  rintro e w4 ⟨rfl, g4, r4⟩
  have HG4 : Hid (G b w w4) := HG3.out.trans g4
  have HZ4 : Hid (Box w4 w.heap.size ⟨0, false, 0, []⟩ (.slice none 0 0) (.slice none 0 0)) := HZ3.out.grown g4 (fun e => by cases e; omega)
  have HR4 : Hid (Rf b t (skipAt t p + 4) (k + 1) w4) := r4
  clear g4 r4 hcall hpre
  have f0 := HZ4.out.free 0
  have f1 := HZ4.out.free 1
  have f2 := HZ4.out.free 2
  have f3 := HZ4.out.free 3
  have f4 := HZ4.out.free 4
  have f5 := HZ4.out.free 5
  have z0 := HZ4.out.c0
  have z1 := HZ4.out.c1
  have z2 := HZ4.out.c2
  have z3 := HZ4.out.c3
  have z4 := HZ4.out.c4
  have z5 := HZ4.out.c5
  go_wp2_with fail
  have e6 : Box (put6 w4 (w.heap.size) (.int .i64 1) (.bool false) (.int .i64 0) (.string ⟨#[]⟩) (.slice none 0 0) (.slice none 0 0)) (w.heap.size) ⟨1, false, 0, []⟩ (.slice none 0 0) (.slice none 0 0) := put6_box HZ4.out ⟨1, false, 0, []⟩ (.slice none 0 0) (.slice none 0 0)
  have g6 := put6_grown w4 (w.heap.size) (.int .i64 1) (.bool false) (.int .i64 0) (.string ⟨#[]⟩) (.slice none 0 0) (.slice none 0 0)
  change bodyPost _ _ _ _ _ (put6 w4 (w.heap.size) _ _ _ _ _ _)
  generalize put6 w4 (w.heap.size) (.int .i64 1) (.bool false) (.int .i64 0) (.string ⟨#[]⟩) (.slice none 0 0) (.slice none 0 0) = W at *
  exact bodyPost_ret (v := .tuple #[rfV ⟨1, false, 0, []⟩ (.slice none 0 0) (.slice none 0 0), .int .i64 0]) (by simp [results, Tryz.results50, go_sem, rfV, e6.c0, e6.c1, e6.c2, e6.c3, e6.c4, e6.c5]) rfl ⟨HG4.out.grown g6 (fun k e => by cases e; omega), Or.inr ⟨_, k + 1, skipAt t p + 4, _, HX.out, by omega, hle, by omega, by omega, rfl, HR4.out.kept g6 (fun e => by cases e; omega), rst_leaf _ _ n none⟩⟩
 | false =>
  have HX : Hid (value n k (rest t p) = .error 3) := by
   show value _ _ _ = _
   rw [HVl.out, leafAt, HLe.out, word, <- HSk.out, if_neg (by rw [hpre]; decide)]
  have hcall := rfword_no b t { data := #[110, 117, 108, 108] } (skipAt t p) (k + 1) 1 false w3 HR3.out hsl ht (by decide) hpre
  unfold rfLeaf at hcall
  refine Calls.mono hcall ?_
  rintro e w4 ⟨rfl, g4⟩
  have HG4 : Hid (G b w w4) := HG3.out.trans g4
  have HZ4 : Hid (Box w4 w.heap.size ⟨0, false, 0, []⟩ (.slice none 0 0) (.slice none 0 0)) := HZ3.out.grown g4 (fun e => by cases e; omega)
  clear g4 hcall hpre
  have f0 := HZ4.out.free 0
  have f1 := HZ4.out.free 1
  have f2 := HZ4.out.free 2
  have f3 := HZ4.out.free 3
  have f4 := HZ4.out.free 4
  have f5 := HZ4.out.free 5
  have z0 := HZ4.out.c0
  have z1 := HZ4.out.c1
  have z2 := HZ4.out.c2
  have z3 := HZ4.out.c3
  have z4 := HZ4.out.c4
  have z5 := HZ4.out.c5
  go_wp2_with fail
  have e6 : Box (put6 w4 (w.heap.size) (.int .i64 0) (.bool false) (.int .i64 0) (.string ⟨#[]⟩) (.slice none 0 0) (.slice none 0 0)) (w.heap.size) ⟨0, false, 0, []⟩ (.slice none 0 0) (.slice none 0 0) := put6_box HZ4.out ⟨0, false, 0, []⟩ (.slice none 0 0) (.slice none 0 0)
  have g6 := put6_grown w4 (w.heap.size) (.int .i64 0) (.bool false) (.int .i64 0) (.string ⟨#[]⟩) (.slice none 0 0) (.slice none 0 0)
  change bodyPost _ _ _ _ _ (put6 w4 (w.heap.size) _ _ _ _ _ _)
  generalize put6 w4 (w.heap.size) (.int .i64 0) (.bool false) (.int .i64 0) (.string ⟨#[]⟩) (.slice none 0 0) (.slice none 0 0) = W at *
  exact bodyPost_ret (v := .tuple #[rfV ⟨0, false, 0, []⟩ (.slice none 0 0) (.slice none 0 0), .int .i64 3]) (by simp [results, Tryz.results50, go_sem, rfV, e6.c0, e6.c1, e6.c2, e6.c3, e6.c4, e6.c5]) rfl ⟨HG4.out.grown g6 (fun k e => by cases e; omega), Or.inl ⟨3, _, HX.out, by decide, by decide, rfl⟩⟩
set_option maxRecDepth 100000 in
set_option maxHeartbeats 8000000 in
theorem rfval_true (n b : Nat) (t : ByteArray) (p k : Nat) (d : Int) (w : World) (h : Rf b t p k w) (hp : p <= t.size) (ht : t.size <= 2000) (hk : k <= 200) (hdn : d + n = 10) (hd0 : 0 <= d) (r : Bs) (hc : skip (rest t p) = 116 :: r) (hk2 : k < 200) :
  Calls Tryz.prog 50 #[.pointer (some ⟨b, 0, none⟩), .int .i64 d] w (RValPost b t p k n w) := by
 have hbw := h.lt
 have hsl := skipAt_le t p
 have hsg := skipAt_ge t p hp
 have HSk : Hid (rest t (skipAt t p) = skip (rest t p)) := rest_skip t p hp
 obtain ⟨w0, hw0⟩ : ∃ w0, w0 = w.alloc (.cells #[.int .i64 0, .bool false, .int .i64 0, .string ⟨#[]⟩, .slice none 0 0, .slice none 0 0] 38) := ⟨_, rfl⟩
 have HW0 : Hid (w0 = w.alloc (.cells #[.int .i64 0, .bool false, .int .i64 0, .string ⟨#[]⟩, .slice none 0 0, .slice none 0 0] 38)) := hw0
 have HR0 : Hid (Rf b t p k w0) := by show Rf _ _ _ _ _; rw [hw0]; exact h.alloc _
 have HG0 : Hid (G b w w0) := by show G _ _ _; rw [hw0]; exact (G.refl b w).alloc _
 have HZ0 : Hid (Box w0 w.heap.size ⟨0, false, 0, []⟩ (.slice none 0 0) (.slice none 0 0)) := by show Box _ _ _ _ _; rw [hw0]; exact box_new w ⟨0, false, 0, []⟩ _ _
 obtain ⟨c, hcc⟩ : ∃ c : UInt8, c = 116 := ⟨_, rfl⟩
 have ho : c ∈ opens := by rw [hcc]; decide
 rw [<- hcc] at hc
 have HL : Hid (lookOf (rest t (skipAt t p)) = (c.toNat : Int)) := by show lookOf _ = _; rw [HSk.out, hc]; rfl
 have HHd : Hid (hd (skip (rest t p)) = c) := by show hd _ = _; rw [hc]; rfl
 have HHas : Hid (decide (0 <= Lib.indexByte opensR.data.toList c) = true) := by
  show _ = true
  rw [opensR_has, List.contains_iff_mem]
  exact ho
 have HVl : Hid (value n k (rest t p) = leafAt n k (skip (rest t p))) := value_leaf (begin_0 (by rw [HHd.out]; exact ho) hk2 (Or.inr (by rw [HHd.out, hcc]; decide))) (by rw [HHd.out, hcc]; decide) (by rw [HHd.out, hcc]; decide)
 have HLe : Hid (leafE (skip (rest t p)) = word trueB (skip (rest t p)) (some (Sum.inl true))) := by
  show leafE _ = _
  rw [leafE, HHd.out, hcc]
  simp
 clear hc ho
 subst hcc
 clear hw0 h
 go_enter Tryz.func50, Tryz.ntmps50
 go_wp2_with fail
 rw [<- HW0.out]
 refine (look_any b t p k w0 HR0.out hp ht).mono ?_
 rintro e w1 ⟨rfl, g1, r1⟩
 have HG1 : Hid (G b w w1) := HG0.out.trans g1
 have HR1 : Hid (Rf b t (skipAt t p) k w1) := r1
 have HZ1 : Hid (Box w1 w.heap.size ⟨0, false, 0, []⟩ (.slice none 0 0) (.slice none 0 0)) := HZ0.out.grown g1 (fun e => by cases e; omega)
 clear g1 r1
 rw [HL.out]
 have hc0 : decide (((116 : UInt8).toNat : Int) < 0) = false := by rw [decide_eq_false_iff_not]; omega
 go_wp2_with fail
 refine (chr_any 116 w1).mono ?_
 rintro e w2 ⟨rfl, b2⟩
 have HG2 : Hid (G b w w2) := HG1.out.trans ⟨b2.os, b2.tape, b2.output, b2.size, fun k hk _ => b2.block k hk⟩
 have HR2 : Hid (Rf b t (skipAt t p) k w2) := HR1.out.below b2
 have HZ2 : Hid (Box w2 w.heap.size ⟨0, false, 0, []⟩ (.slice none 0 0) (.slice none 0 0)) := HZ1.out.below b2
 clear b2
 go_wp2_with fail
 refine (Tryz.strings_Contains_one opensR 116 w2).mono ?_
 rintro e w2' ⟨rfl, rfl⟩
 rw [HHas.out]
 have m0 := HR2.out.many
 have m1 := HR2.out.free 2
 have m2 := (HR2.out.count (k + 1)).many
 have HR3 : Hid (Rf b t (skipAt t p) (k + 1) (w2'.setCell ⟨b, 2, none⟩ (.int .i64 ((k : Int) + 1)))) := HR2.out.count (k + 1)
 have HG3 : Hid (G b w (w2'.setCell ⟨b, 2, none⟩ (.int .i64 ((k : Int) + 1)))) := HG2.out.setCell 2 _
 have HZ3 : Hid (Box (w2'.setCell ⟨b, 2, none⟩ (.int .i64 ((k : Int) + 1))) w.heap.size ⟨0, false, 0, []⟩ (.slice none 0 0) (.slice none 0 0)) := HZ2.out.other (by omega) _
 have hkk : ¬ (200 : Int) < (k : Int) + 1 := by omega
 go_wp2_with fail
 generalize w2'.setCell ⟨b, 2, none⟩ (.int .i64 ((k : Int) + 1)) = w3 at *
 cases hpre : (trueB).isPrefixOf (rest t (skipAt t p)) with
 | true =>
  have hle : skipAt t p + 4 <= t.size := by
   have h2 := word_len hpre
   rw [rest_len] at h2
   have h3 : (trueB).length = 4 := rfl
   omega
  have HX : Hid (value n k (rest t p) = .ok (leaf n (some (Sum.inl true)), k + 1, rest t (skipAt t p + 4))) := by
   show value _ _ _ = _
   rw [HVl.out, leafAt, HLe.out, word, <- HSk.out, if_pos hpre]
   have : (rest t (skipAt t p)).drop (trueB).length = rest t (skipAt t p + 4) := by
    unfold rest
    rw [List.drop_drop]
    rfl
   rw [this]
  have hcall := rfword_yes b t { data := #[116, 114, 117, 101] } (skipAt t p) (k + 1) 2 true w3 HR3.out hsl ht (by decide) hpre
  unfold rfLeaf at hcall
  refine Calls.mono hcall ?_
  rintro e w4 ⟨rfl, g4, r4⟩
  have HG4 : Hid (G b w w4) := HG3.out.trans g4
  have HZ4 : Hid (Box w4 w.heap.size ⟨0, false, 0, []⟩ (.slice none 0 0) (.slice none 0 0)) := HZ3.out.grown g4 (fun e => by cases e; omega)
  have HR4 : Hid (Rf b t (skipAt t p + 4) (k + 1) w4) := r4
  clear g4 r4 hcall hpre
  have f0 := HZ4.out.free 0
  have f1 := HZ4.out.free 1
  have f2 := HZ4.out.free 2
  have f3 := HZ4.out.free 3
  have f4 := HZ4.out.free 4
  have f5 := HZ4.out.free 5
  have z0 := HZ4.out.c0
  have z1 := HZ4.out.c1
  have z2 := HZ4.out.c2
  have z3 := HZ4.out.c3
  have z4 := HZ4.out.c4
  have z5 := HZ4.out.c5
  go_wp2_with fail
  have e6 : Box (put6 w4 (w.heap.size) (.int .i64 2) (.bool true) (.int .i64 0) (.string ⟨#[]⟩) (.slice none 0 0) (.slice none 0 0)) (w.heap.size) ⟨2, true, 0, []⟩ (.slice none 0 0) (.slice none 0 0) := put6_box HZ4.out ⟨2, true, 0, []⟩ (.slice none 0 0) (.slice none 0 0)
  have g6 := put6_grown w4 (w.heap.size) (.int .i64 2) (.bool true) (.int .i64 0) (.string ⟨#[]⟩) (.slice none 0 0) (.slice none 0 0)
  change bodyPost _ _ _ _ _ (put6 w4 (w.heap.size) _ _ _ _ _ _)
  generalize put6 w4 (w.heap.size) (.int .i64 2) (.bool true) (.int .i64 0) (.string ⟨#[]⟩) (.slice none 0 0) (.slice none 0 0) = W at *
  exact bodyPost_ret (v := .tuple #[rfV ⟨2, true, 0, []⟩ (.slice none 0 0) (.slice none 0 0), .int .i64 0]) (by simp [results, Tryz.results50, go_sem, rfV, e6.c0, e6.c1, e6.c2, e6.c3, e6.c4, e6.c5]) rfl ⟨HG4.out.grown g6 (fun k e => by cases e; omega), Or.inr ⟨_, k + 1, skipAt t p + 4, _, HX.out, by omega, hle, by omega, by omega, rfl, HR4.out.kept g6 (fun e => by cases e; omega), rst_leaf _ _ n (some (Sum.inl true))⟩⟩
 | false =>
  have HX : Hid (value n k (rest t p) = .error 3) := by
   show value _ _ _ = _
   rw [HVl.out, leafAt, HLe.out, word, <- HSk.out, if_neg (by rw [hpre]; decide)]
  have hcall := rfword_no b t { data := #[116, 114, 117, 101] } (skipAt t p) (k + 1) 2 true w3 HR3.out hsl ht (by decide) hpre
  unfold rfLeaf at hcall
  refine Calls.mono hcall ?_
  rintro e w4 ⟨rfl, g4⟩
  have HG4 : Hid (G b w w4) := HG3.out.trans g4
  have HZ4 : Hid (Box w4 w.heap.size ⟨0, false, 0, []⟩ (.slice none 0 0) (.slice none 0 0)) := HZ3.out.grown g4 (fun e => by cases e; omega)
  clear g4 hcall hpre
  have f0 := HZ4.out.free 0
  have f1 := HZ4.out.free 1
  have f2 := HZ4.out.free 2
  have f3 := HZ4.out.free 3
  have f4 := HZ4.out.free 4
  have f5 := HZ4.out.free 5
  have z0 := HZ4.out.c0
  have z1 := HZ4.out.c1
  have z2 := HZ4.out.c2
  have z3 := HZ4.out.c3
  have z4 := HZ4.out.c4
  have z5 := HZ4.out.c5
  go_wp2_with fail
  have e6 : Box (put6 w4 (w.heap.size) (.int .i64 0) (.bool false) (.int .i64 0) (.string ⟨#[]⟩) (.slice none 0 0) (.slice none 0 0)) (w.heap.size) ⟨0, false, 0, []⟩ (.slice none 0 0) (.slice none 0 0) := put6_box HZ4.out ⟨0, false, 0, []⟩ (.slice none 0 0) (.slice none 0 0)
  have g6 := put6_grown w4 (w.heap.size) (.int .i64 0) (.bool false) (.int .i64 0) (.string ⟨#[]⟩) (.slice none 0 0) (.slice none 0 0)
  change bodyPost _ _ _ _ _ (put6 w4 (w.heap.size) _ _ _ _ _ _)
  generalize put6 w4 (w.heap.size) (.int .i64 0) (.bool false) (.int .i64 0) (.string ⟨#[]⟩) (.slice none 0 0) (.slice none 0 0) = W at *
  exact bodyPost_ret (v := .tuple #[rfV ⟨0, false, 0, []⟩ (.slice none 0 0) (.slice none 0 0), .int .i64 3]) (by simp [results, Tryz.results50, go_sem, rfV, e6.c0, e6.c1, e6.c2, e6.c3, e6.c4, e6.c5]) rfl ⟨HG4.out.grown g6 (fun k e => by cases e; omega), Or.inl ⟨3, _, HX.out, by decide, by decide, rfl⟩⟩
set_option maxRecDepth 100000 in
set_option maxHeartbeats 8000000 in
theorem rfval_false (n b : Nat) (t : ByteArray) (p k : Nat) (d : Int) (w : World) (h : Rf b t p k w) (hp : p <= t.size) (ht : t.size <= 2000) (hk : k <= 200) (hdn : d + n = 10) (hd0 : 0 <= d) (r : Bs) (hc : skip (rest t p) = 102 :: r) (hk2 : k < 200) :
  Calls Tryz.prog 50 #[.pointer (some ⟨b, 0, none⟩), .int .i64 d] w (RValPost b t p k n w) := by
 have hbw := h.lt
 have hsl := skipAt_le t p
 have hsg := skipAt_ge t p hp
 have HSk : Hid (rest t (skipAt t p) = skip (rest t p)) := rest_skip t p hp
 obtain ⟨w0, hw0⟩ : ∃ w0, w0 = w.alloc (.cells #[.int .i64 0, .bool false, .int .i64 0, .string ⟨#[]⟩, .slice none 0 0, .slice none 0 0] 38) := ⟨_, rfl⟩
 have HW0 : Hid (w0 = w.alloc (.cells #[.int .i64 0, .bool false, .int .i64 0, .string ⟨#[]⟩, .slice none 0 0, .slice none 0 0] 38)) := hw0
 have HR0 : Hid (Rf b t p k w0) := by show Rf _ _ _ _ _; rw [hw0]; exact h.alloc _
 have HG0 : Hid (G b w w0) := by show G _ _ _; rw [hw0]; exact (G.refl b w).alloc _
 have HZ0 : Hid (Box w0 w.heap.size ⟨0, false, 0, []⟩ (.slice none 0 0) (.slice none 0 0)) := by show Box _ _ _ _ _; rw [hw0]; exact box_new w ⟨0, false, 0, []⟩ _ _
 obtain ⟨c, hcc⟩ : ∃ c : UInt8, c = 102 := ⟨_, rfl⟩
 have ho : c ∈ opens := by rw [hcc]; decide
 rw [<- hcc] at hc
 have HL : Hid (lookOf (rest t (skipAt t p)) = (c.toNat : Int)) := by show lookOf _ = _; rw [HSk.out, hc]; rfl
 have HHd : Hid (hd (skip (rest t p)) = c) := by show hd _ = _; rw [hc]; rfl
 have HHas : Hid (decide (0 <= Lib.indexByte opensR.data.toList c) = true) := by
  show _ = true
  rw [opensR_has, List.contains_iff_mem]
  exact ho
 have HVl : Hid (value n k (rest t p) = leafAt n k (skip (rest t p))) := value_leaf (begin_0 (by rw [HHd.out]; exact ho) hk2 (Or.inr (by rw [HHd.out, hcc]; decide))) (by rw [HHd.out, hcc]; decide) (by rw [HHd.out, hcc]; decide)
 have HLe : Hid (leafE (skip (rest t p)) = word falseB (skip (rest t p)) (some (Sum.inl false))) := by
  show leafE _ = _
  rw [leafE, HHd.out, hcc]
  simp
 clear hc ho
 subst hcc
 clear hw0 h
 go_enter Tryz.func50, Tryz.ntmps50
 go_wp2_with fail
 rw [<- HW0.out]
 refine (look_any b t p k w0 HR0.out hp ht).mono ?_
 rintro e w1 ⟨rfl, g1, r1⟩
 have HG1 : Hid (G b w w1) := HG0.out.trans g1
 have HR1 : Hid (Rf b t (skipAt t p) k w1) := r1
 have HZ1 : Hid (Box w1 w.heap.size ⟨0, false, 0, []⟩ (.slice none 0 0) (.slice none 0 0)) := HZ0.out.grown g1 (fun e => by cases e; omega)
 clear g1 r1
 rw [HL.out]
 have hc0 : decide (((102 : UInt8).toNat : Int) < 0) = false := by rw [decide_eq_false_iff_not]; omega
 go_wp2_with fail
 refine (chr_any 102 w1).mono ?_
 rintro e w2 ⟨rfl, b2⟩
 have HG2 : Hid (G b w w2) := HG1.out.trans ⟨b2.os, b2.tape, b2.output, b2.size, fun k hk _ => b2.block k hk⟩
 have HR2 : Hid (Rf b t (skipAt t p) k w2) := HR1.out.below b2
 have HZ2 : Hid (Box w2 w.heap.size ⟨0, false, 0, []⟩ (.slice none 0 0) (.slice none 0 0)) := HZ1.out.below b2
 clear b2
 go_wp2_with fail
 refine (Tryz.strings_Contains_one opensR 102 w2).mono ?_
 rintro e w2' ⟨rfl, rfl⟩
 rw [HHas.out]
 have m0 := HR2.out.many
 have m1 := HR2.out.free 2
 have m2 := (HR2.out.count (k + 1)).many
 have HR3 : Hid (Rf b t (skipAt t p) (k + 1) (w2'.setCell ⟨b, 2, none⟩ (.int .i64 ((k : Int) + 1)))) := HR2.out.count (k + 1)
 have HG3 : Hid (G b w (w2'.setCell ⟨b, 2, none⟩ (.int .i64 ((k : Int) + 1)))) := HG2.out.setCell 2 _
 have HZ3 : Hid (Box (w2'.setCell ⟨b, 2, none⟩ (.int .i64 ((k : Int) + 1))) w.heap.size ⟨0, false, 0, []⟩ (.slice none 0 0) (.slice none 0 0)) := HZ2.out.other (by omega) _
 have hkk : ¬ (200 : Int) < (k : Int) + 1 := by omega
 go_wp2_with fail
 generalize w2'.setCell ⟨b, 2, none⟩ (.int .i64 ((k : Int) + 1)) = w3 at *
 cases hpre : (falseB).isPrefixOf (rest t (skipAt t p)) with
 | true =>
  have hle : skipAt t p + 5 <= t.size := by
   have h2 := word_len hpre
   rw [rest_len] at h2
   have h3 : (falseB).length = 5 := rfl
   omega
  have HX : Hid (value n k (rest t p) = .ok (leaf n (some (Sum.inl false)), k + 1, rest t (skipAt t p + 5))) := by
   show value _ _ _ = _
   rw [HVl.out, leafAt, HLe.out, word, <- HSk.out, if_pos hpre]
   have : (rest t (skipAt t p)).drop (falseB).length = rest t (skipAt t p + 5) := by
    unfold rest
    rw [List.drop_drop]
    rfl
   rw [this]
  have hcall := rfword_yes b t { data := #[102, 97, 108, 115, 101] } (skipAt t p) (k + 1) 2 false w3 HR3.out hsl ht (by decide) hpre
  unfold rfLeaf at hcall
  refine Calls.mono hcall ?_
  rintro e w4 ⟨rfl, g4, r4⟩
  have HG4 : Hid (G b w w4) := HG3.out.trans g4
  have HZ4 : Hid (Box w4 w.heap.size ⟨0, false, 0, []⟩ (.slice none 0 0) (.slice none 0 0)) := HZ3.out.grown g4 (fun e => by cases e; omega)
  have HR4 : Hid (Rf b t (skipAt t p + 5) (k + 1) w4) := r4
  clear g4 r4 hcall hpre
  have f0 := HZ4.out.free 0
  have f1 := HZ4.out.free 1
  have f2 := HZ4.out.free 2
  have f3 := HZ4.out.free 3
  have f4 := HZ4.out.free 4
  have f5 := HZ4.out.free 5
  have z0 := HZ4.out.c0
  have z1 := HZ4.out.c1
  have z2 := HZ4.out.c2
  have z3 := HZ4.out.c3
  have z4 := HZ4.out.c4
  have z5 := HZ4.out.c5
  go_wp2_with fail
  have e6 : Box (put6 w4 (w.heap.size) (.int .i64 2) (.bool false) (.int .i64 0) (.string ⟨#[]⟩) (.slice none 0 0) (.slice none 0 0)) (w.heap.size) ⟨2, false, 0, []⟩ (.slice none 0 0) (.slice none 0 0) := put6_box HZ4.out ⟨2, false, 0, []⟩ (.slice none 0 0) (.slice none 0 0)
  have g6 := put6_grown w4 (w.heap.size) (.int .i64 2) (.bool false) (.int .i64 0) (.string ⟨#[]⟩) (.slice none 0 0) (.slice none 0 0)
  change bodyPost _ _ _ _ _ (put6 w4 (w.heap.size) _ _ _ _ _ _)
  generalize put6 w4 (w.heap.size) (.int .i64 2) (.bool false) (.int .i64 0) (.string ⟨#[]⟩) (.slice none 0 0) (.slice none 0 0) = W at *
  exact bodyPost_ret (v := .tuple #[rfV ⟨2, false, 0, []⟩ (.slice none 0 0) (.slice none 0 0), .int .i64 0]) (by simp [results, Tryz.results50, go_sem, rfV, e6.c0, e6.c1, e6.c2, e6.c3, e6.c4, e6.c5]) rfl ⟨HG4.out.grown g6 (fun k e => by cases e; omega), Or.inr ⟨_, k + 1, skipAt t p + 5, _, HX.out, by omega, hle, by omega, by omega, rfl, HR4.out.kept g6 (fun e => by cases e; omega), rst_leaf _ _ n (some (Sum.inl false))⟩⟩
 | false =>
  have HX : Hid (value n k (rest t p) = .error 3) := by
   show value _ _ _ = _
   rw [HVl.out, leafAt, HLe.out, word, <- HSk.out, if_neg (by rw [hpre]; decide)]
  have hcall := rfword_no b t { data := #[102, 97, 108, 115, 101] } (skipAt t p) (k + 1) 2 false w3 HR3.out hsl ht (by decide) hpre
  unfold rfLeaf at hcall
  refine Calls.mono hcall ?_
  rintro e w4 ⟨rfl, g4⟩
  have HG4 : Hid (G b w w4) := HG3.out.trans g4
  have HZ4 : Hid (Box w4 w.heap.size ⟨0, false, 0, []⟩ (.slice none 0 0) (.slice none 0 0)) := HZ3.out.grown g4 (fun e => by cases e; omega)
  clear g4 hcall hpre
  have f0 := HZ4.out.free 0
  have f1 := HZ4.out.free 1
  have f2 := HZ4.out.free 2
  have f3 := HZ4.out.free 3
  have f4 := HZ4.out.free 4
  have f5 := HZ4.out.free 5
  have z0 := HZ4.out.c0
  have z1 := HZ4.out.c1
  have z2 := HZ4.out.c2
  have z3 := HZ4.out.c3
  have z4 := HZ4.out.c4
  have z5 := HZ4.out.c5
  go_wp2_with fail
  have e6 : Box (put6 w4 (w.heap.size) (.int .i64 0) (.bool false) (.int .i64 0) (.string ⟨#[]⟩) (.slice none 0 0) (.slice none 0 0)) (w.heap.size) ⟨0, false, 0, []⟩ (.slice none 0 0) (.slice none 0 0) := put6_box HZ4.out ⟨0, false, 0, []⟩ (.slice none 0 0) (.slice none 0 0)
  have g6 := put6_grown w4 (w.heap.size) (.int .i64 0) (.bool false) (.int .i64 0) (.string ⟨#[]⟩) (.slice none 0 0) (.slice none 0 0)
  change bodyPost _ _ _ _ _ (put6 w4 (w.heap.size) _ _ _ _ _ _)
  generalize put6 w4 (w.heap.size) (.int .i64 0) (.bool false) (.int .i64 0) (.string ⟨#[]⟩) (.slice none 0 0) (.slice none 0 0) = W at *
  exact bodyPost_ret (v := .tuple #[rfV ⟨0, false, 0, []⟩ (.slice none 0 0) (.slice none 0 0), .int .i64 3]) (by simp [results, Tryz.results50, go_sem, rfV, e6.c0, e6.c1, e6.c2, e6.c3, e6.c4, e6.c5]) rfl ⟨HG4.out.grown g6 (fun k e => by cases e; omega), Or.inl ⟨3, _, HX.out, by decide, by decide, rfl⟩⟩
set_option maxRecDepth 100000 in
set_option maxHeartbeats 8000000 in
theorem rfval_num (n b : Nat) (t : ByteArray) (p k : Nat) (d : Int) (w : World) (h : Rf b t p k w) (hp : p <= t.size) (ht : t.size <= 2000) (hk : k <= 200) (hdn : d + n = 10) (hd0 : 0 <= d) (c : UInt8) (r : Bs) (hc : skip (rest t p) = c :: r) (ho : c ∈ opens) (hk2 : k < 200) (n1 : c ≠ 91) (n2 : c ≠ 123) (n3 : c ≠ 34) (n4 : c ≠ 110) (n5 : c ≠ 116) (n6 : c ≠ 102) :
  Calls Tryz.prog 50 #[.pointer (some ⟨b, 0, none⟩), .int .i64 d] w (RValPost b t p k n w) := by
 have hbw := h.lt
 have hsl := skipAt_le t p
 have hsg := skipAt_ge t p hp
 have HSk : Hid (rest t (skipAt t p) = skip (rest t p)) := rest_skip t p hp
 obtain ⟨w0, hw0⟩ : ∃ w0, w0 = w.alloc (.cells #[.int .i64 0, .bool false, .int .i64 0, .string ⟨#[]⟩, .slice none 0 0, .slice none 0 0] 38) := ⟨_, rfl⟩
 have HW0 : Hid (w0 = w.alloc (.cells #[.int .i64 0, .bool false, .int .i64 0, .string ⟨#[]⟩, .slice none 0 0, .slice none 0 0] 38)) := hw0
 have HR0 : Hid (Rf b t p k w0) := by show Rf _ _ _ _ _; rw [hw0]; exact h.alloc _
 have HG0 : Hid (G b w w0) := by show G _ _ _; rw [hw0]; exact (G.refl b w).alloc _
 have HZ0 : Hid (Box w0 w.heap.size ⟨0, false, 0, []⟩ (.slice none 0 0) (.slice none 0 0)) := by show Box _ _ _ _ _; rw [hw0]; exact box_new w ⟨0, false, 0, []⟩ _ _
 have HL : Hid (lookOf (rest t (skipAt t p)) = (c.toNat : Int)) := by show lookOf _ = _; rw [HSk.out, hc]; rfl
 have HHd : Hid (hd (skip (rest t p)) = c) := by show hd _ = _; rw [hc]; rfl
 have HHas : Hid (decide (0 <= Lib.indexByte opensR.data.toList c) = true) := by
  show _ = true
  rw [opensR_has, List.contains_iff_mem]
  exact ho
 have HVl : Hid (value n k (rest t p) = leafAt n k (skip (rest t p))) := value_leaf (begin_0 (by rw [HHd.out]; exact ho) hk2 (Or.inr (by rw [HHd.out]; exact ⟨n1, n2⟩))) (by rw [HHd.out]; exact n1) (by rw [HHd.out]; exact n2)
 have HLe : Hid (leafE (skip (rest t p)) = number (skip (rest t p))) := by
  show leafE _ = _
  rw [leafE, HHd.out, if_neg n4, if_neg n5, if_neg n6, if_neg n3]
 have hlt : skipAt t p < t.size := by
  have h2 := congrArg List.length (HSk.out.trans hc)
  rw [rest_len, List.length_cons] at h2
  omega
 have e1 : ((c.toNat : Int) == 91) = false := byte_ne n1
 have e2 : ((c.toNat : Int) == 123) = false := byte_ne n2
 have e3 : ((c.toNat : Int) == 34) = false := byte_ne n3
 have e4 : ((c.toNat : Int) == 110) = false := byte_ne n4
 have e5 : ((c.toNat : Int) == 116) = false := byte_ne n5
 have e6 : ((c.toNat : Int) == 102) = false := byte_ne n6
 clear hc ho n1 n2 n3 n4 n5 n6
 clear hw0 h
 go_enter Tryz.func50, Tryz.ntmps50
 go_wp2_with fail
 rw [<- HW0.out]
 refine (look_any b t p k w0 HR0.out hp ht).mono ?_
 rintro e w1 ⟨rfl, g1, r1⟩
 have HG1 : Hid (G b w w1) := HG0.out.trans g1
 have HR1 : Hid (Rf b t (skipAt t p) k w1) := r1
 have HZ1 : Hid (Box w1 w.heap.size ⟨0, false, 0, []⟩ (.slice none 0 0) (.slice none 0 0)) := HZ0.out.grown g1 (fun e => by cases e; omega)
 clear g1 r1
 rw [HL.out]
 have hc0 : decide ((c.toNat : Int) < 0) = false := by rw [decide_eq_false_iff_not]; omega
 go_wp2_with fail
 refine (chr_any c w1).mono ?_
 rintro e w2 ⟨rfl, b2⟩
 have HG2 : Hid (G b w w2) := HG1.out.trans ⟨b2.os, b2.tape, b2.output, b2.size, fun k hk _ => b2.block k hk⟩
 have HR2 : Hid (Rf b t (skipAt t p) k w2) := HR1.out.below b2
 have HZ2 : Hid (Box w2 w.heap.size ⟨0, false, 0, []⟩ (.slice none 0 0) (.slice none 0 0)) := HZ1.out.below b2
 clear b2
 go_wp2_with fail
 refine (Tryz.strings_Contains_one opensR c w2).mono ?_
 rintro e w2' ⟨rfl, rfl⟩
 rw [HHas.out]
 have m0 := HR2.out.many
 have m1 := HR2.out.free 2
 have m2 := (HR2.out.count (k + 1)).many
 have HR3 : Hid (Rf b t (skipAt t p) (k + 1) (w2'.setCell ⟨b, 2, none⟩ (.int .i64 ((k : Int) + 1)))) := HR2.out.count (k + 1)
 have HG3 : Hid (G b w (w2'.setCell ⟨b, 2, none⟩ (.int .i64 ((k : Int) + 1)))) := HG2.out.setCell 2 _
 have HZ3 : Hid (Box (w2'.setCell ⟨b, 2, none⟩ (.int .i64 ((k : Int) + 1))) w.heap.size ⟨0, false, 0, []⟩ (.slice none 0 0) (.slice none 0 0)) := HZ2.out.other (by omega) _
 have hkk : ¬ (200 : Int) < (k : Int) + 1 := by omega
 go_wp2_with fail
 generalize w2'.setCell ⟨b, 2, none⟩ (.int .i64 ((k : Int) + 1)) = w3 at *
 refine (rfnum_any b t (skipAt t p) (k + 1) w3 HR3.out hlt ht).mono ?_
 rintro e w4 ⟨g4, h4⟩
 have HG4 : Hid (G b w w4) := HG3.out.trans g4
 have HZ4 : Hid (Box w4 w.heap.size ⟨0, false, 0, []⟩ (.slice none 0 0) (.slice none 0 0)) := HZ3.out.grown g4 (fun e => by cases e; omega)
 clear g4 e1 e2 e3 e4 e5 e6
 rcases h4 with ⟨er, hv, her, rfl⟩ | ⟨i, q, hq, hv, rfl, hR4⟩
 ·have her2 := number_err hv
  have HX : Hid (value n k (rest t p) = .error er) := by
   show value _ _ _ = _
   rw [HVl.out, leafAt, HLe.out, <- HSk.out, hv]
  clear hv
  unfold rfLeaf
  have f0 := HZ4.out.free 0
  have f1 := HZ4.out.free 1
  have f2 := HZ4.out.free 2
  have f3 := HZ4.out.free 3
  have f4 := HZ4.out.free 4
  have f5 := HZ4.out.free 5
  have z0 := HZ4.out.c0
  have z1 := HZ4.out.c1
  have z2 := HZ4.out.c2
  have z3 := HZ4.out.c3
  have z4 := HZ4.out.c4
  have z5 := HZ4.out.c5
  go_wp2_with fail
  have e6 : Box (put6 w4 (w.heap.size) (.int .i64 0) (.bool false) (.int .i64 0) (.string ⟨#[]⟩) (.slice none 0 0) (.slice none 0 0)) (w.heap.size) ⟨0, false, 0, []⟩ (.slice none 0 0) (.slice none 0 0) := put6_box HZ4.out ⟨0, false, 0, []⟩ (.slice none 0 0) (.slice none 0 0)
  have g6 := put6_grown w4 (w.heap.size) (.int .i64 0) (.bool false) (.int .i64 0) (.string ⟨#[]⟩) (.slice none 0 0) (.slice none 0 0)
  change bodyPost _ _ _ _ _ (put6 w4 (w.heap.size) _ _ _ _ _ _)
  generalize put6 w4 (w.heap.size) (.int .i64 0) (.bool false) (.int .i64 0) (.string ⟨#[]⟩) (.slice none 0 0) (.slice none 0 0) = W at *
  exact bodyPost_ret (v := .tuple #[rfV ⟨0, false, 0, []⟩ (.slice none 0 0) (.slice none 0 0), .int .i64 er]) (by simp [results, Tryz.results50, go_sem, rfV, e6.c0, e6.c1, e6.c2, e6.c3, e6.c4, e6.c5]) rfl ⟨HG4.out.grown g6 (fun k e => by cases e; omega), Or.inl ⟨er, _, HX.out, her, her2, rfl⟩⟩
 ·have hlq : skipAt t p < q := by
   have := number_len hv
   rw [rest_len, rest_len] at this
   omega
  have HX : Hid (value n k (rest t p) = .ok (leaf n (some (Sum.inr (Sum.inl i))), k + 1, rest t q)) := by
   show value _ _ _ = _
   rw [HVl.out, leafAt, HLe.out, <- HSk.out, hv]
  have HR4 : Hid (Rf b t q (k + 1) w4) := hR4
  clear hv hR4
  unfold rfLeaf
  have f0 := HZ4.out.free 0
  have f1 := HZ4.out.free 1
  have f2 := HZ4.out.free 2
  have f3 := HZ4.out.free 3
  have f4 := HZ4.out.free 4
  have f5 := HZ4.out.free 5
  have z0 := HZ4.out.c0
  have z1 := HZ4.out.c1
  have z2 := HZ4.out.c2
  have z3 := HZ4.out.c3
  have z4 := HZ4.out.c4
  have z5 := HZ4.out.c5
  go_wp2_with fail
  have e6 : Box (put6 w4 (w.heap.size) (.int .i64 3) (.bool false) (.int .i64 i) (.string ⟨#[]⟩) (.slice none 0 0) (.slice none 0 0)) (w.heap.size) ⟨3, false, i, []⟩ (.slice none 0 0) (.slice none 0 0) := put6_box HZ4.out ⟨3, false, i, []⟩ (.slice none 0 0) (.slice none 0 0)
  have g6 := put6_grown w4 (w.heap.size) (.int .i64 3) (.bool false) (.int .i64 i) (.string ⟨#[]⟩) (.slice none 0 0) (.slice none 0 0)
  change bodyPost _ _ _ _ _ (put6 w4 (w.heap.size) _ _ _ _ _ _)
  generalize put6 w4 (w.heap.size) (.int .i64 3) (.bool false) (.int .i64 i) (.string ⟨#[]⟩) (.slice none 0 0) (.slice none 0 0) = W at *
  exact bodyPost_ret (v := .tuple #[rfV ⟨3, false, i, []⟩ (.slice none 0 0) (.slice none 0 0), .int .i64 0]) (by simp [results, Tryz.results50, go_sem, rfV, e6.c0, e6.c1, e6.c2, e6.c3, e6.c4, e6.c5]) rfl ⟨HG4.out.grown g6 (fun k e => by cases e; omega), Or.inr ⟨_, k + 1, q, _, HX.out, by omega, hq, by omega, by omega, rfl, HR4.out.kept g6 (fun e => by cases e; omega), rst_leaf _ _ n (some (Sum.inr (Sum.inl i)))⟩⟩
theorem rfvalue_any : ∀ n : Nat, RValueOK n
 | n, b, t, p, k, d, w, h, hp, ht, hk, hdn, hd0 => by
  cases hc : skip (rest t p) with
  | nil => exact rfval_end n b t p k d w h hp ht hk hdn hd0 hc
  | cons c r =>
   by_cases ho : c ∈ opens
   ·by_cases hk2 : 200 <= k
    ·exact rfval_large n b t p k d w h hp ht hk hdn hd0 c r hc ho hk2
    have hk3 : k < 200 := by omega
    by_cases h1 : c = 91
    ·subst h1
     cases n with
     | zero => exact rfval_deepL 0 b t p k d w h hp ht hk hdn hd0 r hc hk3 rfl
     | succ n => exact rfval_list n b t p k d w (rfvalue_any n) h hp ht hk hdn hd0 r hc hk3
    by_cases h2 : c = 123
    ·subst h2
     cases n with
     | zero => exact rfval_deepO 0 b t p k d w h hp ht hk hdn hd0 r hc hk3 rfl
     | succ n => exact rfval_obj n b t p k d w (rfvalue_any n) h hp ht hk hdn hd0 r hc hk3
    by_cases h3 : c = 34
    ·subst h3
     exact rfval_text n b t p k d w h hp ht hk hdn hd0 r hc hk3
    by_cases h4 : c = 110
    ·subst h4
     exact rfval_null n b t p k d w h hp ht hk hdn hd0 r hc hk3
    by_cases h5 : c = 116
    ·subst h5
     exact rfval_true n b t p k d w h hp ht hk hdn hd0 r hc hk3
    by_cases h6 : c = 102
    ·subst h6
     exact rfval_false n b t p k d w h hp ht hk hdn hd0 r hc hk3
    exact rfval_num n b t p k d w h hp ht hk hdn hd0 c r hc ho hk3 h1 h2 h3 h4 h5 h6
   ·exact rfval_bad n b t p k d w h hp ht hk hdn hd0 c r hc ho
def readN (n : Nat) (s : Bs) : Except Nat (J n) :=
 if 2000 < s.length then .error eLarge
 else match value n 0 s with
  | .error e => .error e
  | .ok (j, _, r) => if skip r = [] then .ok j else .error eSyntax
theorem readN_ten (s : Bs) : readN 10 s = read s := by
 unfold readN read
 split
 ·rfl
 ·cases value 10 0 s <;> rfl
def RReadPost (n : Nat) (r : Except Nat (J n)) (w : World) (e : Ending) (w' : World) : Prop :=
 Below w.heap.size w w' /\ ((∃ er : Nat, r = .error er /\ er ≠ 0 /\ er < 100 /\ e = .returned (.tuple #[rfV ⟨0, false, 0, []⟩ (.slice none 0 0) (.slice none 0 0), .int .i64 er])) ∨
  ∃ (j : J n) (v : Value), r = .ok j /\ e = .returned (.tuple #[v, .int .i64 0]) /\ RSt (fun c => c < w.heap.size) w' n j v)
theorem skip_nil {t : ByteArray} {q : Nat} (hq : q <= t.size) : skip (rest t q) = [] ↔ lookOf (rest t (skipAt t q)) = -1 := by
 rw [<- rest_skip t q hq]
 cases rest t (skipAt t q) with
 | nil => simp [lookOf]
 | cons c r =>
  simp only [lookOf]
  constructor
  ·intro h; cases h
  ·intro h; omega
theorem look_ge (r : Bs) (h : lookOf r ≠ -1) : 0 <= lookOf r := by
 cases r with
 | nil => exact absurd rfl h
 | cons c r => simp only [lookOf]; omega
set_option maxRecDepth 100000 in
set_option maxHeartbeats 4000000 in
theorem rfread_any (n : Nat) (hn : n = 10) (t : ByteArray) (w : World) : Calls Tryz.prog 32 #[.string t] w (RReadPost n (readN n t.data.toList) w) := by
 have HN : Hid (n = 10) := hn
 clear hn
 obtain ⟨w0, hw0⟩ : ∃ w0, w0 = w.alloc (.cells #[.int .i64 0, .bool false, .int .i64 0, .string ⟨#[]⟩, .slice none 0 0, .slice none 0 0] 38) := ⟨_, rfl⟩
 have HW0 : Hid (w0 = w.alloc (.cells #[.int .i64 0, .bool false, .int .i64 0, .string ⟨#[]⟩, .slice none 0 0, .slice none 0 0] 38)) := hw0
 have HB0 : Hid (Below w.heap.size w w0) := by show Below _ _ _; rw [hw0]; exact (Below.refl _ _).alloc (Nat.le_refl _) _
 have HZ0 : Hid (Box w0 w.heap.size ⟨0, false, 0, []⟩ (.slice none 0 0) (.slice none 0 0)) := by show Box _ _ _ _ _; rw [hw0]; exact box_new w ⟨0, false, 0, []⟩ _ _
 have hs0 : w0.heap.size = w.heap.size + 1 := by rw [hw0]; simp
 have hlen : t.data.toList.length = t.size := by simp
 clear hw0
 by_cases hbig : (2000 : Int) < (t.size : Int)
 ·have HX : Hid (readN n t.data.toList = .error 2) := by
   show readN _ _ = _
   unfold readN
   rw [if_pos (by rw [data_len]; omega)]
  clear hlen
  go_enter Tryz.func32, Tryz.ntmps32
  go_wp2_with fail
  rw [<- HW0.out]
  exact bodyPost_ret (v := .tuple #[rfV ⟨0, false, 0, []⟩ (.slice none 0 0) (.slice none 0 0), .int .i64 2]) (by simp [results, Tryz.results32, go_sem, rfV, HZ0.out.c0, HZ0.out.c1, HZ0.out.c2, HZ0.out.c3, HZ0.out.c4, HZ0.out.c5]) rfl ⟨HB0.out, Or.inl ⟨2, HX.out, by decide, by decide, rfl⟩⟩
 have ht : t.size <= 2000 := by omega
 have HRd : Hid (readN n t.data.toList = match value n 0 (rest t 0) with
  | .error e => .error e
  | .ok (j, _, r) => if skip r = [] then .ok j else .error eSyntax) := by
  show readN _ _ = _
  unfold readN
  rw [if_neg (by rw [data_len]; omega), rest_zero]
 obtain ⟨w1, hw1⟩ : ∃ w1, w1 = w0.alloc (.cells #[.string t, .int .i64 0, .int .i64 0] 89) := ⟨_, rfl⟩
 have HW1 : Hid (w1 = (w.alloc (.cells #[.int .i64 0, .bool false, .int .i64 0, .string ⟨#[]⟩, .slice none 0 0, .slice none 0 0] 38)).alloc (.cells #[.string t, .int .i64 0, .int .i64 0] 89)) := by show w1 = _; rw [hw1, HW0.out]
 have HR1 : Hid (Rf (w.heap.size + 1) t 0 0 w1) := by
  show Rf _ _ _ _ _
  have := heap_alloc_new w0 (.cells #[.string t, .int .i64 0, .int .i64 0] 89)
  rw [hw1, <- hs0]
  exact this
 have HZ1 : Hid (Box w1 w.heap.size ⟨0, false, 0, []⟩ (.slice none 0 0) (.slice none 0 0)) := by show Box _ _ _ _ _; rw [hw1]; exact HZ0.out.alloc _
 have HB1 : Hid (Below w.heap.size w w1) := by show Below _ _ _; rw [hw1]; exact HB0.out.alloc (by omega) _
 have hs1 : w1.heap.size = w.heap.size + 2 := by rw [hw1]; simp; omega
 clear hw1 hlen HW0 HB0 HZ0 hs0
 go_enter Tryz.func32, Tryz.ntmps32
 go_wp2_with fail
 rw [<- HW1.out]
 refine (rfvalue_any n (w.heap.size + 1) t 0 0 0 w1 HR1.out (Nat.zero_le _) ht (by omega) (by have := HN.out; omega) (by omega)).mono ?_
 rintro e w2 ⟨g2, h2⟩
 have HZ2 : Hid (Box w2 w.heap.size ⟨0, false, 0, []⟩ (.slice none 0 0) (.slice none 0 0)) := HZ1.out.grown g2 (fun e => by have := Option.some.inj e; omega)
 have HB2 : Hid (Below w.heap.size w w2) := HB1.out.grown g2 (by omega) (fun k e => by cases e; omega)
 have hs2 : w.heap.size + 2 <= w2.heap.size := by have := g2.size; omega
 clear g2
 rcases h2 with ⟨er, hh, hv, her, her2, rfl⟩ | ⟨j, k2, q, v, hv, hpq, hq, hkk, hk2, rfl, hR2, hst⟩
 ·have HX : Hid (readN n t.data.toList = .error er) := by
   show readN _ _ = _
   rw [HRd.out, hv]
  have hbe : ((er : Int) != 0) = true := by rw [bne_iff_ne]; omega
  have hbe2 : ((er : Int) == 0) = false := by rw [beq_eq_false_iff_ne]; omega
  clear hv
  unfold rfV
  have HZ3 : Hid (∀ o, Box (w2.alloc o) w.heap.size ⟨0, false, 0, []⟩ (.slice none 0 0) (.slice none 0 0)) := fun o => HZ2.out.alloc o
  have f0 := fun o => (HZ3.out o).free 0
  have f1 := fun o => (HZ3.out o).free 1
  have f2 := fun o => (HZ3.out o).free 2
  have f3 := fun o => (HZ3.out o).free 3
  have f4 := fun o => (HZ3.out o).free 4
  have f5 := fun o => (HZ3.out o).free 5
  have z0 := fun o => (HZ3.out o).c0
  have z1 := fun o => (HZ3.out o).c1
  have z2 := fun o => (HZ3.out o).c2
  have z3 := fun o => (HZ3.out o).c3
  have z4 := fun o => (HZ3.out o).c4
  have z5 := fun o => (HZ3.out o).c5
  go_wp2_with fail
  have HZ : Hid (Box (w2.alloc (.cells #[.int .i64 hh.k, .bool hh.b, .int .i64 hh.i, .string ⟨hh.s.toArray⟩, .slice none 0 0, .slice none 0 0] 38)) w.heap.size ⟨0, false, 0, []⟩ (.slice none 0 0) (.slice none 0 0)) := HZ3.out _
  have HB3 : Hid (Below w.heap.size w (w2.alloc (.cells #[.int .i64 hh.k, .bool hh.b, .int .i64 hh.i, .string ⟨hh.s.toArray⟩, .slice none 0 0, .slice none 0 0] 38))) := HB2.out.alloc (by omega) _
  have hs3 : w.heap.size <= (w2.alloc (.cells #[.int .i64 hh.k, .bool hh.b, .int .i64 hh.i, .string ⟨hh.s.toArray⟩, .slice none 0 0, .slice none 0 0] 38)).heap.size := by simp; omega
  generalize w2.alloc (.cells #[.int .i64 hh.k, .bool hh.b, .int .i64 hh.i, .string ⟨hh.s.toArray⟩, .slice none 0 0, .slice none 0 0] 38) = w3 at *
  have e6 : Box (put6 w3 (w.heap.size) (.int .i64 0) (.bool false) (.int .i64 0) (.string ⟨#[]⟩) (.slice none 0 0) (.slice none 0 0)) (w.heap.size) ⟨0, false, 0, []⟩ (.slice none 0 0) (.slice none 0 0) := put6_box HZ.out ⟨0, false, 0, []⟩ (.slice none 0 0) (.slice none 0 0)
  have g6 := put6_grown w3 (w.heap.size) (.int .i64 0) (.bool false) (.int .i64 0) (.string ⟨#[]⟩) (.slice none 0 0) (.slice none 0 0)
  change bodyPost _ _ _ _ _ (put6 w3 (w.heap.size) _ _ _ _ _ _)
  generalize put6 w3 (w.heap.size) (.int .i64 0) (.bool false) (.int .i64 0) (.string ⟨#[]⟩) (.slice none 0 0) (.slice none 0 0) = W at *
  exact bodyPost_ret (v := .tuple #[rfV ⟨0, false, 0, []⟩ (.slice none 0 0) (.slice none 0 0), .int .i64 er]) (by simp [results, Tryz.results32, go_sem, rfV, e6.c0, e6.c1, e6.c2, e6.c3, e6.c4, e6.c5]) rfl ⟨HB3.out.grown g6 hs3 (fun k e => by cases e; exact Nat.le_refl _), Or.inl ⟨er, HX.out, her, her2, rfl⟩⟩
 obtain ⟨h0, nm1, l1, rfl⟩ : ∃ h nm l, v = rfV h nm l := ⟨_, rst_form hst⟩
 obtain ⟨⟨p1, n1, c1, rfl⟩, p2, n2, c2, rfl⟩ := rst_sl hst
 have HV3 : Hid (Box (w2.alloc (.cells #[.int .i64 h0.k, .bool h0.b, .int .i64 h0.i, .string ⟨h0.s.toArray⟩, .slice p1 n1 c1, .slice p2 n2 c2] 38)) w2.heap.size h0 (.slice p1 n1 c1) (.slice p2 n2 c2)) := box_new w2 _ _ _
 have HSt3 : Hid (RSt (fun c => c < w.heap.size + 2) (w2.alloc (.cells #[.int .i64 h0.k, .bool h0.b, .int .i64 h0.i, .string ⟨h0.s.toArray⟩, .slice p1 n1 c1, .slice p2 n2 c2] 38)) n j (rfV h0 (.slice p1 n1 c1) (.slice p2 n2 c2))) := (hst.wide (fun c e => Or.inl (by omega))).alloc _
 have HR3 : Hid (Rf (w.heap.size + 1) t q k2 (w2.alloc (.cells #[.int .i64 h0.k, .bool h0.b, .int .i64 h0.i, .string ⟨h0.s.toArray⟩, .slice p1 n1 c1, .slice p2 n2 c2] 38))) := hR2.alloc _
 have HZ3 : Hid (Box (w2.alloc (.cells #[.int .i64 h0.k, .bool h0.b, .int .i64 h0.i, .string ⟨h0.s.toArray⟩, .slice p1 n1 c1, .slice p2 n2 c2] 38)) w.heap.size ⟨0, false, 0, []⟩ (.slice none 0 0) (.slice none 0 0)) := HZ2.out.alloc _
 have HB3 : Hid (Below w.heap.size w (w2.alloc (.cells #[.int .i64 h0.k, .bool h0.b, .int .i64 h0.i, .string ⟨h0.s.toArray⟩, .slice p1 n1 c1, .slice p2 n2 c2] 38))) := HB2.out.alloc (by omega) _
 have hs3 : w.heap.size + 2 <= (w2.alloc (.cells #[.int .i64 h0.k, .bool h0.b, .int .i64 h0.i, .string ⟨h0.s.toArray⟩, .slice p1 n1 c1, .slice p2 n2 c2] 38)).heap.size := by simp; omega
 have HVal : Hid (value n 0 (rest t 0) = .ok (j, k2, rest t q)) := hv
 have hw2 : w.heap.size + 2 <= w2.heap.size := hs2
 clear hst hR2 hv hs2
 unfold rfV
 obtain ⟨v2, hv2⟩ : ∃ v2, v2 = w2.heap.size := ⟨_, rfl⟩
 rw [<- hv2] at HV3 hw2
 go_wp2_with fail
 rw [<- hv2]
 clear hv2
 generalize w2.alloc (.cells #[.int .i64 h0.k, .bool h0.b, .int .i64 h0.i, .string ⟨h0.s.toArray⟩, .slice p1 n1 c1, .slice p2 n2 c2] 38) = w3 at *
 refine (look_any (w.heap.size + 1) t q k2 w3 HR3.out hq ht).mono ?_
 rintro e w4 ⟨rfl, g4, r4⟩
 have HV4 : Hid (Box w4 v2 h0 (.slice p1 n1 c1) (.slice p2 n2 c2)) := HV3.out.grown g4 (fun e => by have := Option.some.inj e; omega)
 have HSt4 : Hid (RSt (fun c => c < w.heap.size + 2) w4 n j (rfV h0 (.slice p1 n1 c1) (.slice p2 n2 c2))) := HSt3.out.grown g4 (fun k e => by cases e; omega)
 have HZ4 : Hid (Box w4 w.heap.size ⟨0, false, 0, []⟩ (.slice none 0 0) (.slice none 0 0)) := HZ3.out.grown g4 (fun e => by have := Option.some.inj e; omega)
 have HB4 : Hid (Below w.heap.size w w4) := HB3.out.grown g4 (by omega) (fun k e => by cases e; omega)
 have hs4 : w.heap.size <= w4.heap.size := by have := g4.size; omega
 clear g4 r4
 by_cases hl : lookOf (rest t (skipAt t q)) = -1
 ·have HX : Hid (readN n t.data.toList = .ok j) := by
   show readN _ _ = _
   rw [HRd.out, HVal.out]
   simp only []
   rw [if_pos ((skip_nil hq).2 hl)]
  rw [hl]
  clear hl
  have v0 := HV4.out.c0
  have v1 := HV4.out.c1
  have v2 := HV4.out.c2
  have v3 := HV4.out.c3
  have v4 := HV4.out.c4
  have v5 := HV4.out.c5
  have f0 := HZ4.out.free 0
  have f1 := HZ4.out.free 1
  have f2 := HZ4.out.free 2
  have f3 := HZ4.out.free 3
  have f4 := HZ4.out.free 4
  have f5 := HZ4.out.free 5
  have z0 := HZ4.out.c0
  have z1 := HZ4.out.c1
  have z2 := HZ4.out.c2
  have z3 := HZ4.out.c3
  have z4 := HZ4.out.c4
  have z5 := HZ4.out.c5
  go_wp2_with fail
  have e6 : Box (put6 w4 (w.heap.size) (.int .i64 (h0).k) (.bool (h0).b) (.int .i64 (h0).i) (.string ⟨(h0).s.toArray⟩) (.slice p1 n1 c1) (.slice p2 n2 c2)) (w.heap.size) (h0) (.slice p1 n1 c1) (.slice p2 n2 c2) := put6_box HZ4.out (h0) (.slice p1 n1 c1) (.slice p2 n2 c2)
  have g6 := put6_grown w4 (w.heap.size) (.int .i64 (h0).k) (.bool (h0).b) (.int .i64 (h0).i) (.string ⟨(h0).s.toArray⟩) (.slice p1 n1 c1) (.slice p2 n2 c2)
  change bodyPost _ _ _ _ _ (put6 w4 (w.heap.size) _ _ _ _ _ _)
  generalize put6 w4 (w.heap.size) (.int .i64 (h0).k) (.bool (h0).b) (.int .i64 (h0).i) (.string ⟨(h0).s.toArray⟩) (.slice p1 n1 c1) (.slice p2 n2 c2) = W at *
  exact bodyPost_ret (v := .tuple #[rfV (h0) (.slice p1 n1 c1) (.slice p2 n2 c2), .int .i64 0]) (by simp [results, Tryz.results32, go_sem, rfV, e6.c0, e6.c1, e6.c2, e6.c3, e6.c4, e6.c5]) rfl ⟨HB4.out.grown g6 hs4 (fun k e => by cases e; exact Nat.le_refl _), Or.inr ⟨j, _, HX.out, rfl, (HSt4.out.grown g6 (fun k e => by cases e; omega)).wide (fun c e => Or.inl (by omega))⟩⟩
 ·have HX : Hid (readN n t.data.toList = .error 3) := by
   show readN _ _ = _
   rw [HRd.out, HVal.out]
   simp only []
   rw [if_neg (fun e => hl ((skip_nil hq).1 e))]
  have hg := look_ge _ hl
  clear hl
  generalize lookOf (rest t (skipAt t q)) = lk at *
  have f0 := HZ4.out.free 0
  have f1 := HZ4.out.free 1
  have f2 := HZ4.out.free 2
  have f3 := HZ4.out.free 3
  have f4 := HZ4.out.free 4
  have f5 := HZ4.out.free 5
  have z0 := HZ4.out.c0
  have z1 := HZ4.out.c1
  have z2 := HZ4.out.c2
  have z3 := HZ4.out.c3
  have z4 := HZ4.out.c4
  have z5 := HZ4.out.c5
  go_wp2_with fail
  have e6 : Box (put6 w4 (w.heap.size) (.int .i64 0) (.bool false) (.int .i64 0) (.string ⟨#[]⟩) (.slice none 0 0) (.slice none 0 0)) (w.heap.size) ⟨0, false, 0, []⟩ (.slice none 0 0) (.slice none 0 0) := put6_box HZ4.out ⟨0, false, 0, []⟩ (.slice none 0 0) (.slice none 0 0)
  have g6 := put6_grown w4 (w.heap.size) (.int .i64 0) (.bool false) (.int .i64 0) (.string ⟨#[]⟩) (.slice none 0 0) (.slice none 0 0)
  change bodyPost _ _ _ _ _ (put6 w4 (w.heap.size) _ _ _ _ _ _)
  generalize put6 w4 (w.heap.size) (.int .i64 0) (.bool false) (.int .i64 0) (.string ⟨#[]⟩) (.slice none 0 0) (.slice none 0 0) = W at *
  exact bodyPost_ret (v := .tuple #[rfV ⟨0, false, 0, []⟩ (.slice none 0 0) (.slice none 0 0), .int .i64 3]) (by simp [results, Tryz.results32, go_sem, rfV, e6.c0, e6.c1, e6.c2, e6.c3, e6.c4, e6.c5]) rfl ⟨HB4.out.grown g6 hs4 (fun k e => by cases e; exact Nat.le_refl _), Or.inl ⟨3, HX.out, by decide, by decide, rfl⟩⟩
end Go.Proofs.YtjcdklbimaclkaaGreatDoor
