/- Several texts in one: RfVal, RfRead, RepPlain, RepRoom, RfQuote, Measure, TellText, QuoteAny, RfJQ, KindAny, SizeAny, TopSame, SaysWalk, Laid. -/
import Derived.Test.YtaogilpkeeigoaaGreatDoorRfValA
import Derived.Test.YtaogilpkeeigoaaGreatDoorRfObj
import Derived.Test.YtaogilpkeeigoaaGreatDoorTop
import Derived.Test.YtaogilpkeeigoaaGreatDoorDoc
import Derived.Lib.Replace
import Derived.Lib.SplitLaws
import Derived.Test.YtaogilpkeeigoaaGreatDoorRestPlain
import Derived.Test.YtaogilpkeeigoaaGreatDoorShelf
import Derived.Test.YtaogilpkeeigoaaGreatDoorGPlain
import Derived.WalkKit
import Derived.WalkSpells
import Derived.BigQuiet
import Derived.Test.YtaogilpkeeigoaaGreatDoorOwnPlain
import Derived.Test.YtaogilpkeeigoaaGreatDoorListPlain
import Derived.Test.YtaogilpkeeigoaaGreatDoorTellAny
import Derived.Test.YtaogilpkeeigoaaGreatDoorWriteQuoted
import Derived.Test.YtaogilpkeeigoaaGreatDoorTa
import Derived.Test.YtaogilpkeeigoaaGreatDoorRdSign
import Derived.Test.YtaogilpkeeigoaaGreatDoorTellLeaf
import Derived.Test.YtaogilpkeeigoaaGreatDoorRfText
import Derived.Test.YtaogilpkeeigoaaGreatDoorMA
import Derived.Lib.LaidTab
import Derived.MakeChecks
/- Contract over this translation of the reference's reader: values, however deep. -/
namespace Go.Proofs.YtaogilpkeeigoaaGreatDoor
open Go.RowKit
set_option linter.unusedVariables false
set_option linter.unusedSimpArgs false
set_option maxRecDepth 100000 in
set_option maxHeartbeats 8000000 in
theorem rfval_list (n b : Nat) (t : ByteArray) (p k : Nat) (d : Int) (w : World) (hV : RValueOK n) (h : Rf b t p k w) (hp : p ≤ t.size) (ht : t.size ≤ 2000) (hk : k ≤ 200) (hdn : d + (n + 1) = 10) (hd0 : 0 ≤ d) (r : Bs) (hc : skip (rest t p) = 91 :: r) (hk2 : k < 200) :
    Calls Tryz.prog 18 #[.pointer (some ⟨b, 0, none⟩), .int .i64 d] w (RValPost b t p k (n + 1) w) := by
  have hbw := h.lt
  have hsl := skipAt_le t p
  have hsg := skipAt_ge t p hp
  have HSk : Hid (rest t (skipAt t p) = skip (rest t p)) := rest_skip t p hp
  obtain ⟨w0, hw0⟩ : ∃ w0, w0 = w.alloc (.cells #[.int .i64 0, .bool false, .int .i64 0, .string ⟨#[]⟩, .slice none 0 0, .slice none 0 0] 25) := ⟨_, rfl⟩
  have HW0 : Hid (w0 = w.alloc (.cells #[.int .i64 0, .bool false, .int .i64 0, .string ⟨#[]⟩, .slice none 0 0, .slice none 0 0] 25)) := hw0
  have HR0 : Hid (Rf b t p k w0) := by show Rf _ _ _ _ _; rw [hw0]; exact h.alloc _
  have HG0 : Hid (G b w w0) := by show G _ _ _; rw [hw0]; exact (G.refl b w).alloc _
  have HZ0 : Hid (Box w0 w.heap.size ⟨0, false, 0, []⟩ (.slice none 0 0) (.slice none 0 0)) := by show Box _ _ _ _ _; rw [hw0]; exact box_new w ⟨0, false, 0, []⟩ _ _
  obtain ⟨c, hcc⟩ : ∃ c : UInt8, c = 91 := ⟨_, rfl⟩
  have ho : c ∈ opens := by rw [hcc]; decide
  rw [← hcc] at hc
  have HL : Hid (lookOf (rest t (skipAt t p)) = (c.toNat : Int)) := by show lookOf _ = _; rw [HSk.out, hc]; rfl
  have HHd : Hid (hd (skip (rest t p)) = c) := by show hd _ = _; rw [hc]; rfl
  have HHas : Hid (decide (0 ≤ Lib.indexByte opensR.data.toList c) = true) := by
    show _ = true
    rw [opensR_has, List.contains_iff_mem]
    exact ho
  have HVl : Hid (value (n + 1) k (rest t p) = match row 93 (oneItem (value n)) [] (k + 1) (skip (rest t p)) with
      | .error e => .error e
      | .ok (s, k', r') => .ok (Sum.inr (Sum.inl s), k', r')) := value_list (begin_0 (by rw [HHd.out]; exact ho) hk2 (Or.inl (by omega))) (by rw [HHd.out, hcc])
  have hlt : skipAt t p < t.size := lt_of_hd (by rw [HSk.out, HHd.out, hcc]; decide)
  clear hc ho
  subst hcc
  have HVO : Hid (RValueOK n) := hV
  have hd10 : ((d : Int) == 10) = false := by rw [beq_eq_false_iff_ne]; omega
  clear hV
  clear hw0 h
  go_enter Tryz.func18, Tryz.ntmps18
  go_wp2_with fail
  rw [← HW0.out]
  refine (look_any b t p k w0 HR0.out hp ht).mono ?_
  rintro e w1 ⟨rfl, g1, r1⟩
  have HG1 : Hid (G b w w1) := HG0.out.trans g1
  have HR1 : Hid (Rf b t (skipAt t p) k w1) := r1
  have HZ1 : Hid (Box w1 w.heap.size ⟨0, false, 0, []⟩ (.slice none 0 0) (.slice none 0 0)) := HZ0.out.grown g1 (fun e => by cases e; omega)
  clear g1 r1
  rw [HL.out]
  have hc0 : decide (((91 : UInt8).toNat : Int) < 0) = false := by rw [decide_eq_false_iff_not]; omega
  go_wp2_with fail
  refine (chr_any 91 w1).mono ?_
  rintro e w2 ⟨rfl, b2⟩
  have HG2 : Hid (G b w w2) := HG1.out.trans ⟨b2.os, b2.tape, b2.output, b2.size, fun k hk _ => b2.block k hk⟩
  have HR2 : Hid (Rf b t (skipAt t p) k w2) := HR1.out.below b2
  have HZ2 : Hid (Box w2 w.heap.size ⟨0, false, 0, []⟩ (.slice none 0 0) (.slice none 0 0)) := HZ1.out.below b2
  clear b2
  go_wp2_with fail
  refine (Tryz.strings_Contains_one opensR 91 w2).mono ?_
  rintro e w2' ⟨rfl, rfl⟩
  rw [HHas.out]
  have m0 := HR2.out.many
  have m1 := HR2.out.free 2
  have m2 := (HR2.out.count (k + 1)).many
  have HR3 : Hid (Rf b t (skipAt t p) (k + 1) (w2'.setCell ⟨b, 2, none⟩ (.int .i64 ((k : Int) + 1)))) := HR2.out.count (k + 1)
  have HG3 : Hid (G b w (w2'.setCell ⟨b, 2, none⟩ (.int .i64 ((k : Int) + 1)))) := HG2.out.setCell 2 _
  have HZ3 : Hid (Box (w2'.setCell ⟨b, 2, none⟩ (.int .i64 ((k : Int) + 1))) w.heap.size ⟨0, false, 0, []⟩ (.slice none 0 0) (.slice none 0 0)) := HZ2.out.other (by omega) _
  have hkk : ¬ (200 : Int) < (k : Int) + 1 := by omega
  go_wp2_with fail
  generalize w2'.setCell ⟨b, 2, none⟩ (.int .i64 ((k : Int) + 1)) = w3 at *
  refine (rflist_any n b t (skipAt t p) (k + 1) d w3 HVO.out (by omega) hd0 HR3.out hlt ht (by omega)).mono ?_
  rintro e w4 ⟨g4, h4⟩
  have HG4 : Hid (G b w w4) := HG3.out.trans g4
  have HZ4 : Hid (Box w4 w.heap.size ⟨0, false, 0, []⟩ (.slice none 0 0) (.slice none 0 0)) := HZ3.out.grown g4 (fun e => by cases e; omega)
  have hw34 : w.heap.size < w3.heap.size := HZ3.out.lt
  clear g4
  rcases h4 with ⟨er, hh, hv, her, her2, rfl⟩ | ⟨s, k', q, v, hv, hpq, hq, hk', rfl, hR4, hst⟩
  · have HX : Hid (value (n + 1) k (rest t p) = .error er) := by
      show value _ _ _ = _
      rw [HVl.out, ← HSk.out, hv]
    clear hv
    unfold rfV
    have f0 := HZ4.out.free 0
    have f1 := HZ4.out.free 1
    have f2 := HZ4.out.free 2
    have f3 := HZ4.out.free 3
    have f4 := HZ4.out.free 4
    have f5 := HZ4.out.free 5
    have z0 := HZ4.out.c0
    have z1 := HZ4.out.c1
    have z2 := HZ4.out.c2
    have z3 := HZ4.out.c3
    have z4 := HZ4.out.c4
    have z5 := HZ4.out.c5
    go_wp2_with fail
    have e6 : Box (put6 w4 (w.heap.size) (.int .i64 (hh).k) (.bool (hh).b) (.int .i64 (hh).i) (.string ⟨(hh).s.toArray⟩) (.slice none 0 0) (.slice none 0 0)) (w.heap.size) (hh) (.slice none 0 0) (.slice none 0 0) := put6_box HZ4.out (hh) (.slice none 0 0) (.slice none 0 0)
    have g6 := put6_grown w4 (w.heap.size) (.int .i64 (hh).k) (.bool (hh).b) (.int .i64 (hh).i) (.string ⟨(hh).s.toArray⟩) (.slice none 0 0) (.slice none 0 0)
    change bodyPost _ _ _ _ _ (put6 w4 (w.heap.size) _ _ _ _ _ _)
    generalize put6 w4 (w.heap.size) (.int .i64 (hh).k) (.bool (hh).b) (.int .i64 (hh).i) (.string ⟨(hh).s.toArray⟩) (.slice none 0 0) (.slice none 0 0) = W at *
    exact bodyPost_ret (v := .tuple #[rfV (hh) (.slice none 0 0) (.slice none 0 0), .int .i64 er]) (by simp [results, Tryz.results18, go_sem, rfV, e6.c0, e6.c1, e6.c2, e6.c3, e6.c4, e6.c5]) rfl ⟨HG4.out.grown g6 (fun k e => by cases e; omega), Or.inl ⟨er, _, HX.out, her, her2, rfl⟩⟩
  · have HX : Hid (value (n + 1) k (rest t p) = .ok (Sum.inr (Sum.inl s), k', rest t q)) := by
      show value _ _ _ = _
      rw [HVl.out, ← HSk.out, hv]
    have hkk' : k < k' := value_counts _ _ _ _ _ _ HX.out
    obtain ⟨nm1, l1, rfl⟩ := rst_form hst
    obtain ⟨⟨p1, n1, c1, rfl⟩, p2, n2, c2, rfl⟩ := rst_sl hst
    have HSt : Hid (RSt (fun c => c < w.heap.size + 1) w4 (n + 1) (Sum.inr (Sum.inl s)) (rfV (headJ (n + 1) (Sum.inr (Sum.inl s))) (.slice p1 n1 c1) (.slice p2 n2 c2))) := hst.wide (fun c e => Or.inl (by omega))
    have HR4 : Hid (Rf b t q k' w4) := hR4
    clear hv hst hR4
    unfold rfV
    generalize hj0 : (Sum.inr (Sum.inl s) : J (n + 1)) = j0 at *
    have f0 := HZ4.out.free 0
    have f1 := HZ4.out.free 1
    have f2 := HZ4.out.free 2
    have f3 := HZ4.out.free 3
    have f4 := HZ4.out.free 4
    have f5 := HZ4.out.free 5
    have z0 := HZ4.out.c0
    have z1 := HZ4.out.c1
    have z2 := HZ4.out.c2
    have z3 := HZ4.out.c3
    have z4 := HZ4.out.c4
    have z5 := HZ4.out.c5
    go_wp2_with fail
    have e6 : Box (put6 w4 (w.heap.size) (.int .i64 (headJ (n + 1) j0).k) (.bool (headJ (n + 1) j0).b) (.int .i64 (headJ (n + 1) j0).i) (.string ⟨(headJ (n + 1) j0).s.toArray⟩) (.slice p1 n1 c1) (.slice p2 n2 c2)) (w.heap.size) (headJ (n + 1) j0) (.slice p1 n1 c1) (.slice p2 n2 c2) := put6_box HZ4.out (headJ (n + 1) j0) (.slice p1 n1 c1) (.slice p2 n2 c2)
    have g6 := put6_grown w4 (w.heap.size) (.int .i64 (headJ (n + 1) j0).k) (.bool (headJ (n + 1) j0).b) (.int .i64 (headJ (n + 1) j0).i) (.string ⟨(headJ (n + 1) j0).s.toArray⟩) (.slice p1 n1 c1) (.slice p2 n2 c2)
    change bodyPost _ _ _ _ _ (put6 w4 (w.heap.size) _ _ _ _ _ _)
    generalize put6 w4 (w.heap.size) (.int .i64 (headJ (n + 1) j0).k) (.bool (headJ (n + 1) j0).b) (.int .i64 (headJ (n + 1) j0).i) (.string ⟨(headJ (n + 1) j0).s.toArray⟩) (.slice p1 n1 c1) (.slice p2 n2 c2) = W at *
    exact bodyPost_ret (v := .tuple #[rfV (headJ (n + 1) j0) (.slice p1 n1 c1) (.slice p2 n2 c2), .int .i64 0]) (by simp [results, Tryz.results18, go_sem, rfV, e6.c0, e6.c1, e6.c2, e6.c3, e6.c4, e6.c5]) rfl ⟨HG4.out.grown g6 (fun k e => by cases e; omega), Or.inr ⟨j0, k', q, _, HX.out, by omega, hq, hkk', hk', rfl, HR4.out.kept g6 (fun e => by cases e; omega), (HSt.out.grown g6 (fun k e => by cases e; omega)).wide (fun c e => Or.inl (by omega))⟩⟩
set_option maxRecDepth 100000 in
set_option maxHeartbeats 8000000 in
theorem rfval_obj (n b : Nat) (t : ByteArray) (p k : Nat) (d : Int) (w : World) (hV : RValueOK n) (h : Rf b t p k w) (hp : p ≤ t.size) (ht : t.size ≤ 2000) (hk : k ≤ 200) (hdn : d + (n + 1) = 10) (hd0 : 0 ≤ d) (r : Bs) (hc : skip (rest t p) = 123 :: r) (hk2 : k < 200) :
    Calls Tryz.prog 18 #[.pointer (some ⟨b, 0, none⟩), .int .i64 d] w (RValPost b t p k (n + 1) w) := by
  have hbw := h.lt
  have hsl := skipAt_le t p
  have hsg := skipAt_ge t p hp
  have HSk : Hid (rest t (skipAt t p) = skip (rest t p)) := rest_skip t p hp
  obtain ⟨w0, hw0⟩ : ∃ w0, w0 = w.alloc (.cells #[.int .i64 0, .bool false, .int .i64 0, .string ⟨#[]⟩, .slice none 0 0, .slice none 0 0] 25) := ⟨_, rfl⟩
  have HW0 : Hid (w0 = w.alloc (.cells #[.int .i64 0, .bool false, .int .i64 0, .string ⟨#[]⟩, .slice none 0 0, .slice none 0 0] 25)) := hw0
  have HR0 : Hid (Rf b t p k w0) := by show Rf _ _ _ _ _; rw [hw0]; exact h.alloc _
  have HG0 : Hid (G b w w0) := by show G _ _ _; rw [hw0]; exact (G.refl b w).alloc _
  have HZ0 : Hid (Box w0 w.heap.size ⟨0, false, 0, []⟩ (.slice none 0 0) (.slice none 0 0)) := by show Box _ _ _ _ _; rw [hw0]; exact box_new w ⟨0, false, 0, []⟩ _ _
  obtain ⟨c, hcc⟩ : ∃ c : UInt8, c = 123 := ⟨_, rfl⟩
  have ho : c ∈ opens := by rw [hcc]; decide
  rw [← hcc] at hc
  have HL : Hid (lookOf (rest t (skipAt t p)) = (c.toNat : Int)) := by show lookOf _ = _; rw [HSk.out, hc]; rfl
  have HHd : Hid (hd (skip (rest t p)) = c) := by show hd _ = _; rw [hc]; rfl
  have HHas : Hid (decide (0 ≤ Lib.indexByte opensR.data.toList c) = true) := by
    show _ = true
    rw [opensR_has, List.contains_iff_mem]
    exact ho
  have HVl : Hid (value (n + 1) k (rest t p) = match row 125 (oneField (value n)) [] (k + 1) (skip (rest t p)) with
      | .error e => .error e
      | .ok (s, k', r') => .ok (Sum.inr (Sum.inr s), k', r')) := value_obj (begin_0 (by rw [HHd.out]; exact ho) hk2 (Or.inl (by omega))) (by rw [HHd.out, hcc])
  have hlt : skipAt t p < t.size := lt_of_hd (by rw [HSk.out, HHd.out, hcc]; decide)
  clear hc ho
  subst hcc
  have HVO : Hid (RValueOK n) := hV
  have hd10 : ((d : Int) == 10) = false := by rw [beq_eq_false_iff_ne]; omega
  clear hV
  clear hw0 h
  go_enter Tryz.func18, Tryz.ntmps18
  go_wp2_with fail
  rw [← HW0.out]
  refine (look_any b t p k w0 HR0.out hp ht).mono ?_
  rintro e w1 ⟨rfl, g1, r1⟩
  have HG1 : Hid (G b w w1) := HG0.out.trans g1
  have HR1 : Hid (Rf b t (skipAt t p) k w1) := r1
  have HZ1 : Hid (Box w1 w.heap.size ⟨0, false, 0, []⟩ (.slice none 0 0) (.slice none 0 0)) := HZ0.out.grown g1 (fun e => by cases e; omega)
  clear g1 r1
  rw [HL.out]
  have hc0 : decide (((123 : UInt8).toNat : Int) < 0) = false := by rw [decide_eq_false_iff_not]; omega
  go_wp2_with fail
  refine (chr_any 123 w1).mono ?_
  rintro e w2 ⟨rfl, b2⟩
  have HG2 : Hid (G b w w2) := HG1.out.trans ⟨b2.os, b2.tape, b2.output, b2.size, fun k hk _ => b2.block k hk⟩
  have HR2 : Hid (Rf b t (skipAt t p) k w2) := HR1.out.below b2
  have HZ2 : Hid (Box w2 w.heap.size ⟨0, false, 0, []⟩ (.slice none 0 0) (.slice none 0 0)) := HZ1.out.below b2
  clear b2
  go_wp2_with fail
  refine (Tryz.strings_Contains_one opensR 123 w2).mono ?_
  rintro e w2' ⟨rfl, rfl⟩
  rw [HHas.out]
  have m0 := HR2.out.many
  have m1 := HR2.out.free 2
  have m2 := (HR2.out.count (k + 1)).many
  have HR3 : Hid (Rf b t (skipAt t p) (k + 1) (w2'.setCell ⟨b, 2, none⟩ (.int .i64 ((k : Int) + 1)))) := HR2.out.count (k + 1)
  have HG3 : Hid (G b w (w2'.setCell ⟨b, 2, none⟩ (.int .i64 ((k : Int) + 1)))) := HG2.out.setCell 2 _
  have HZ3 : Hid (Box (w2'.setCell ⟨b, 2, none⟩ (.int .i64 ((k : Int) + 1))) w.heap.size ⟨0, false, 0, []⟩ (.slice none 0 0) (.slice none 0 0)) := HZ2.out.other (by omega) _
  have hkk : ¬ (200 : Int) < (k : Int) + 1 := by omega
  go_wp2_with fail
  generalize w2'.setCell ⟨b, 2, none⟩ (.int .i64 ((k : Int) + 1)) = w3 at *
  refine (rfobj_any n b t (skipAt t p) (k + 1) d w3 HVO.out (by omega) hd0 HR3.out hlt ht (by omega)).mono ?_
  rintro e w4 ⟨g4, h4⟩
  have HG4 : Hid (G b w w4) := HG3.out.trans g4
  have HZ4 : Hid (Box w4 w.heap.size ⟨0, false, 0, []⟩ (.slice none 0 0) (.slice none 0 0)) := HZ3.out.grown g4 (fun e => by cases e; omega)
  have hw34 : w.heap.size < w3.heap.size := HZ3.out.lt
  clear g4
  rcases h4 with ⟨er, hh, hv, her, her2, rfl⟩ | ⟨s, k', q, v, hv, hpq, hq, hk', rfl, hR4, hst⟩
  · have HX : Hid (value (n + 1) k (rest t p) = .error er) := by
      show value _ _ _ = _
      rw [HVl.out, ← HSk.out, hv]
    clear hv
    unfold rfV
    have f0 := HZ4.out.free 0
    have f1 := HZ4.out.free 1
    have f2 := HZ4.out.free 2
    have f3 := HZ4.out.free 3
    have f4 := HZ4.out.free 4
    have f5 := HZ4.out.free 5
    have z0 := HZ4.out.c0
    have z1 := HZ4.out.c1
    have z2 := HZ4.out.c2
    have z3 := HZ4.out.c3
    have z4 := HZ4.out.c4
    have z5 := HZ4.out.c5
    go_wp2_with fail
    have e6 : Box (put6 w4 (w.heap.size) (.int .i64 (hh).k) (.bool (hh).b) (.int .i64 (hh).i) (.string ⟨(hh).s.toArray⟩) (.slice none 0 0) (.slice none 0 0)) (w.heap.size) (hh) (.slice none 0 0) (.slice none 0 0) := put6_box HZ4.out (hh) (.slice none 0 0) (.slice none 0 0)
    have g6 := put6_grown w4 (w.heap.size) (.int .i64 (hh).k) (.bool (hh).b) (.int .i64 (hh).i) (.string ⟨(hh).s.toArray⟩) (.slice none 0 0) (.slice none 0 0)
    change bodyPost _ _ _ _ _ (put6 w4 (w.heap.size) _ _ _ _ _ _)
    generalize put6 w4 (w.heap.size) (.int .i64 (hh).k) (.bool (hh).b) (.int .i64 (hh).i) (.string ⟨(hh).s.toArray⟩) (.slice none 0 0) (.slice none 0 0) = W at *
    exact bodyPost_ret (v := .tuple #[rfV (hh) (.slice none 0 0) (.slice none 0 0), .int .i64 er]) (by simp [results, Tryz.results18, go_sem, rfV, e6.c0, e6.c1, e6.c2, e6.c3, e6.c4, e6.c5]) rfl ⟨HG4.out.grown g6 (fun k e => by cases e; omega), Or.inl ⟨er, _, HX.out, her, her2, rfl⟩⟩
  · have HX : Hid (value (n + 1) k (rest t p) = .ok (Sum.inr (Sum.inr s), k', rest t q)) := by
      show value _ _ _ = _
      rw [HVl.out, ← HSk.out, hv]
    have hkk' : k < k' := value_counts _ _ _ _ _ _ HX.out
    obtain ⟨nm1, l1, rfl⟩ := rst_form hst
    obtain ⟨⟨p1, n1, c1, rfl⟩, p2, n2, c2, rfl⟩ := rst_sl hst
    have HSt : Hid (RSt (fun c => c < w.heap.size + 1) w4 (n + 1) (Sum.inr (Sum.inr s)) (rfV (headJ (n + 1) (Sum.inr (Sum.inr s))) (.slice p1 n1 c1) (.slice p2 n2 c2))) := hst.wide (fun c e => Or.inl (by omega))
    have HR4 : Hid (Rf b t q k' w4) := hR4
    clear hv hst hR4
    unfold rfV
    generalize hj0 : (Sum.inr (Sum.inr s) : J (n + 1)) = j0 at *
    have f0 := HZ4.out.free 0
    have f1 := HZ4.out.free 1
    have f2 := HZ4.out.free 2
    have f3 := HZ4.out.free 3
    have f4 := HZ4.out.free 4
    have f5 := HZ4.out.free 5
    have z0 := HZ4.out.c0
    have z1 := HZ4.out.c1
    have z2 := HZ4.out.c2
    have z3 := HZ4.out.c3
    have z4 := HZ4.out.c4
    have z5 := HZ4.out.c5
    go_wp2_with fail
    have e6 : Box (put6 w4 (w.heap.size) (.int .i64 (headJ (n + 1) j0).k) (.bool (headJ (n + 1) j0).b) (.int .i64 (headJ (n + 1) j0).i) (.string ⟨(headJ (n + 1) j0).s.toArray⟩) (.slice p1 n1 c1) (.slice p2 n2 c2)) (w.heap.size) (headJ (n + 1) j0) (.slice p1 n1 c1) (.slice p2 n2 c2) := put6_box HZ4.out (headJ (n + 1) j0) (.slice p1 n1 c1) (.slice p2 n2 c2)
    have g6 := put6_grown w4 (w.heap.size) (.int .i64 (headJ (n + 1) j0).k) (.bool (headJ (n + 1) j0).b) (.int .i64 (headJ (n + 1) j0).i) (.string ⟨(headJ (n + 1) j0).s.toArray⟩) (.slice p1 n1 c1) (.slice p2 n2 c2)
    change bodyPost _ _ _ _ _ (put6 w4 (w.heap.size) _ _ _ _ _ _)
    generalize put6 w4 (w.heap.size) (.int .i64 (headJ (n + 1) j0).k) (.bool (headJ (n + 1) j0).b) (.int .i64 (headJ (n + 1) j0).i) (.string ⟨(headJ (n + 1) j0).s.toArray⟩) (.slice p1 n1 c1) (.slice p2 n2 c2) = W at *
    exact bodyPost_ret (v := .tuple #[rfV (headJ (n + 1) j0) (.slice p1 n1 c1) (.slice p2 n2 c2), .int .i64 0]) (by simp [results, Tryz.results18, go_sem, rfV, e6.c0, e6.c1, e6.c2, e6.c3, e6.c4, e6.c5]) rfl ⟨HG4.out.grown g6 (fun k e => by cases e; omega), Or.inr ⟨j0, k', q, _, HX.out, by omega, hq, hkk', hk', rfl, HR4.out.kept g6 (fun e => by cases e; omega), (HSt.out.grown g6 (fun k e => by cases e; omega)).wide (fun c e => Or.inl (by omega))⟩⟩
set_option maxRecDepth 100000 in
set_option maxHeartbeats 8000000 in
theorem rfval_text (n b : Nat) (t : ByteArray) (p k : Nat) (d : Int) (w : World) (h : Rf b t p k w) (hp : p ≤ t.size) (ht : t.size ≤ 2000) (hk : k ≤ 200) (hdn : d + n = 10) (hd0 : 0 ≤ d) (r : Bs) (hc : skip (rest t p) = 34 :: r) (hk2 : k < 200) :
    Calls Tryz.prog 18 #[.pointer (some ⟨b, 0, none⟩), .int .i64 d] w (RValPost b t p k n w) := by
  have hbw := h.lt
  have hsl := skipAt_le t p
  have hsg := skipAt_ge t p hp
  have HSk : Hid (rest t (skipAt t p) = skip (rest t p)) := rest_skip t p hp
  obtain ⟨w0, hw0⟩ : ∃ w0, w0 = w.alloc (.cells #[.int .i64 0, .bool false, .int .i64 0, .string ⟨#[]⟩, .slice none 0 0, .slice none 0 0] 25) := ⟨_, rfl⟩
  have HW0 : Hid (w0 = w.alloc (.cells #[.int .i64 0, .bool false, .int .i64 0, .string ⟨#[]⟩, .slice none 0 0, .slice none 0 0] 25)) := hw0
  have HR0 : Hid (Rf b t p k w0) := by show Rf _ _ _ _ _; rw [hw0]; exact h.alloc _
  have HG0 : Hid (G b w w0) := by show G _ _ _; rw [hw0]; exact (G.refl b w).alloc _
  have HZ0 : Hid (Box w0 w.heap.size ⟨0, false, 0, []⟩ (.slice none 0 0) (.slice none 0 0)) := by show Box _ _ _ _ _; rw [hw0]; exact box_new w ⟨0, false, 0, []⟩ _ _
  obtain ⟨c, hcc⟩ : ∃ c : UInt8, c = 34 := ⟨_, rfl⟩
  have ho : c ∈ opens := by rw [hcc]; decide
  rw [← hcc] at hc
  have HL : Hid (lookOf (rest t (skipAt t p)) = (c.toNat : Int)) := by show lookOf _ = _; rw [HSk.out, hc]; rfl
  have HHd : Hid (hd (skip (rest t p)) = c) := by show hd _ = _; rw [hc]; rfl
  have HHas : Hid (decide (0 ≤ Lib.indexByte opensR.data.toList c) = true) := by
    show _ = true
    rw [opensR_has, List.contains_iff_mem]
    exact ho
  have HVl : Hid (value n k (rest t p) = leafAt n k (skip (rest t p))) := value_leaf (begin_0 (by rw [HHd.out]; exact ho) hk2 (Or.inr (by rw [HHd.out, hcc]; decide))) (by rw [HHd.out, hcc]; decide) (by rw [HHd.out, hcc]; decide)
  have HLe : Hid (leafE (skip (rest t p)) = textE (skip (rest t p))) := by
    show leafE _ = _
    rw [leafE, HHd.out, hcc]
    simp
  have HQ : Hid (quoted (skip (rest t p)) = signs (rest t (skipAt t p + 1))) := by
    show quoted _ = _
    rw [quoted, HHd.out, hcc, if_pos rfl, ← HSk.out, rest_tail]
  have hlt : skipAt t p < t.size := lt_of_hd (by rw [HSk.out, HHd.out, hcc]; decide)
  clear hc ho
  subst hcc
  clear hw0 h
  go_enter Tryz.func18, Tryz.ntmps18
  go_wp2_with fail
  rw [← HW0.out]
  refine (look_any b t p k w0 HR0.out hp ht).mono ?_
  rintro e w1 ⟨rfl, g1, r1⟩
  have HG1 : Hid (G b w w1) := HG0.out.trans g1
  have HR1 : Hid (Rf b t (skipAt t p) k w1) := r1
  have HZ1 : Hid (Box w1 w.heap.size ⟨0, false, 0, []⟩ (.slice none 0 0) (.slice none 0 0)) := HZ0.out.grown g1 (fun e => by cases e; omega)
  clear g1 r1
  rw [HL.out]
  have hc0 : decide (((34 : UInt8).toNat : Int) < 0) = false := by rw [decide_eq_false_iff_not]; omega
  go_wp2_with fail
  refine (chr_any 34 w1).mono ?_
  rintro e w2 ⟨rfl, b2⟩
  have HG2 : Hid (G b w w2) := HG1.out.trans ⟨b2.os, b2.tape, b2.output, b2.size, fun k hk _ => b2.block k hk⟩
  have HR2 : Hid (Rf b t (skipAt t p) k w2) := HR1.out.below b2
  have HZ2 : Hid (Box w2 w.heap.size ⟨0, false, 0, []⟩ (.slice none 0 0) (.slice none 0 0)) := HZ1.out.below b2
  clear b2
  go_wp2_with fail
  refine (Tryz.strings_Contains_one opensR 34 w2).mono ?_
  rintro e w2' ⟨rfl, rfl⟩
  rw [HHas.out]
  have m0 := HR2.out.many
  have m1 := HR2.out.free 2
  have m2 := (HR2.out.count (k + 1)).many
  have HR3 : Hid (Rf b t (skipAt t p) (k + 1) (w2'.setCell ⟨b, 2, none⟩ (.int .i64 ((k : Int) + 1)))) := HR2.out.count (k + 1)
  have HG3 : Hid (G b w (w2'.setCell ⟨b, 2, none⟩ (.int .i64 ((k : Int) + 1)))) := HG2.out.setCell 2 _
  have HZ3 : Hid (Box (w2'.setCell ⟨b, 2, none⟩ (.int .i64 ((k : Int) + 1))) w.heap.size ⟨0, false, 0, []⟩ (.slice none 0 0) (.slice none 0 0)) := HZ2.out.other (by omega) _
  have hkk : ¬ (200 : Int) < (k : Int) + 1 := by omega
  go_wp2_with fail
  generalize w2'.setCell ⟨b, 2, none⟩ (.int .i64 ((k : Int) + 1)) = w3 at *
  refine (rftext_any b t (skipAt t p) (k + 1) w3 HR3.out hlt ht).mono ?_
  rintro e w4 ⟨g4, h4⟩
  have HG4 : Hid (G b w w4) := HG3.out.trans g4
  have HZ4 : Hid (Box w4 w.heap.size ⟨0, false, 0, []⟩ (.slice none 0 0) (.slice none 0 0)) := HZ3.out.grown g4 (fun e => by cases e; omega)
  clear g4
  rcases h4 with ⟨hsg4, rfl⟩ | ⟨l, q, hq, hsg4, rfl, hR4⟩
  · have HX : Hid (value n k (rest t p) = .error 3) := by
      show value _ _ _ = _
      rw [HVl.out, leafAt, HLe.out, textE, HQ.out, hsg4]
    clear hsg4
    have f0 := HZ4.out.free 0
    have f1 := HZ4.out.free 1
    have f2 := HZ4.out.free 2
    have f3 := HZ4.out.free 3
    have f4 := HZ4.out.free 4
    have f5 := HZ4.out.free 5
    have z0 := HZ4.out.c0
    have z1 := HZ4.out.c1
    have z2 := HZ4.out.c2
    have z3 := HZ4.out.c3
    have z4 := HZ4.out.c4
    have z5 := HZ4.out.c5
    go_wp2_with fail
    have e6 : Box (put6 w4 (w.heap.size) (.int .i64 4) (.bool false) (.int .i64 0) (.string ⟨#[]⟩) (.slice none 0 0) (.slice none 0 0)) (w.heap.size) ⟨4, false, 0, []⟩ (.slice none 0 0) (.slice none 0 0) := put6_box HZ4.out ⟨4, false, 0, []⟩ (.slice none 0 0) (.slice none 0 0)
    have g6 := put6_grown w4 (w.heap.size) (.int .i64 4) (.bool false) (.int .i64 0) (.string ⟨#[]⟩) (.slice none 0 0) (.slice none 0 0)
    change bodyPost _ _ _ _ _ (put6 w4 (w.heap.size) _ _ _ _ _ _)
    generalize put6 w4 (w.heap.size) (.int .i64 4) (.bool false) (.int .i64 0) (.string ⟨#[]⟩) (.slice none 0 0) (.slice none 0 0) = W at *
    exact bodyPost_ret (v := .tuple #[rfV ⟨4, false, 0, []⟩ (.slice none 0 0) (.slice none 0 0), .int .i64 3]) (by simp [results, Tryz.results18, go_sem, rfV, e6.c0, e6.c1, e6.c2, e6.c3, e6.c4, e6.c5]) rfl ⟨HG4.out.grown g6 (fun k e => by cases e; omega), Or.inl ⟨3, _, HX.out, by decide, by decide, rfl⟩⟩
  · have HX : Hid (value n k (rest t p) = .ok (leaf n (some (Sum.inr (Sum.inr l))), k + 1, rest t q)) := by
      show value _ _ _ = _
      rw [HVl.out, leafAt, HLe.out, textE, HQ.out, hsg4]
    have hlq : skipAt t p + 1 < q := by
      have := signs_len _ _ _ hsg4
      rw [rest_len, rest_len] at this
      omega
    have HR4 : Hid (Rf b t q (k + 1) w4) := hR4
    clear hsg4 hR4
    have f0 := HZ4.out.free 0
    have f1 := HZ4.out.free 1
    have f2 := HZ4.out.free 2
    have f3 := HZ4.out.free 3
    have f4 := HZ4.out.free 4
    have f5 := HZ4.out.free 5
    have z0 := HZ4.out.c0
    have z1 := HZ4.out.c1
    have z2 := HZ4.out.c2
    have z3 := HZ4.out.c3
    have z4 := HZ4.out.c4
    have z5 := HZ4.out.c5
    go_wp2_with fail
    have e6 : Box (put6 w4 (w.heap.size) (.int .i64 4) (.bool false) (.int .i64 0) (.string ⟨(l).toArray⟩) (.slice none 0 0) (.slice none 0 0)) (w.heap.size) ⟨4, false, 0, l⟩ (.slice none 0 0) (.slice none 0 0) := put6_box HZ4.out ⟨4, false, 0, l⟩ (.slice none 0 0) (.slice none 0 0)
    have g6 := put6_grown w4 (w.heap.size) (.int .i64 4) (.bool false) (.int .i64 0) (.string ⟨(l).toArray⟩) (.slice none 0 0) (.slice none 0 0)
    change bodyPost _ _ _ _ _ (put6 w4 (w.heap.size) _ _ _ _ _ _)
    generalize put6 w4 (w.heap.size) (.int .i64 4) (.bool false) (.int .i64 0) (.string ⟨(l).toArray⟩) (.slice none 0 0) (.slice none 0 0) = W at *
    exact bodyPost_ret (v := .tuple #[rfV ⟨4, false, 0, l⟩ (.slice none 0 0) (.slice none 0 0), .int .i64 0]) (by simp [results, Tryz.results18, go_sem, rfV, e6.c0, e6.c1, e6.c2, e6.c3, e6.c4, e6.c5]) rfl ⟨HG4.out.grown g6 (fun k e => by cases e; omega), Or.inr ⟨_, k + 1, q, _, HX.out, by omega, hq, by omega, by omega, rfl, HR4.out.kept g6 (fun e => by cases e; omega), rst_leaf _ _ n (some (Sum.inr (Sum.inr l)))⟩⟩
set_option maxRecDepth 100000 in
set_option maxHeartbeats 8000000 in
theorem rfval_null (n b : Nat) (t : ByteArray) (p k : Nat) (d : Int) (w : World) (h : Rf b t p k w) (hp : p ≤ t.size) (ht : t.size ≤ 2000) (hk : k ≤ 200) (hdn : d + n = 10) (hd0 : 0 ≤ d) (r : Bs) (hc : skip (rest t p) = 110 :: r) (hk2 : k < 200) :
    Calls Tryz.prog 18 #[.pointer (some ⟨b, 0, none⟩), .int .i64 d] w (RValPost b t p k n w) := by
  have hbw := h.lt
  have hsl := skipAt_le t p
  have hsg := skipAt_ge t p hp
  have HSk : Hid (rest t (skipAt t p) = skip (rest t p)) := rest_skip t p hp
  obtain ⟨w0, hw0⟩ : ∃ w0, w0 = w.alloc (.cells #[.int .i64 0, .bool false, .int .i64 0, .string ⟨#[]⟩, .slice none 0 0, .slice none 0 0] 25) := ⟨_, rfl⟩
  have HW0 : Hid (w0 = w.alloc (.cells #[.int .i64 0, .bool false, .int .i64 0, .string ⟨#[]⟩, .slice none 0 0, .slice none 0 0] 25)) := hw0
  have HR0 : Hid (Rf b t p k w0) := by show Rf _ _ _ _ _; rw [hw0]; exact h.alloc _
  have HG0 : Hid (G b w w0) := by show G _ _ _; rw [hw0]; exact (G.refl b w).alloc _
  have HZ0 : Hid (Box w0 w.heap.size ⟨0, false, 0, []⟩ (.slice none 0 0) (.slice none 0 0)) := by show Box _ _ _ _ _; rw [hw0]; exact box_new w ⟨0, false, 0, []⟩ _ _
  obtain ⟨c, hcc⟩ : ∃ c : UInt8, c = 110 := ⟨_, rfl⟩
  have ho : c ∈ opens := by rw [hcc]; decide
  rw [← hcc] at hc
  have HL : Hid (lookOf (rest t (skipAt t p)) = (c.toNat : Int)) := by show lookOf _ = _; rw [HSk.out, hc]; rfl
  have HHd : Hid (hd (skip (rest t p)) = c) := by show hd _ = _; rw [hc]; rfl
  have HHas : Hid (decide (0 ≤ Lib.indexByte opensR.data.toList c) = true) := by
    show _ = true
    rw [opensR_has, List.contains_iff_mem]
    exact ho
  have HVl : Hid (value n k (rest t p) = leafAt n k (skip (rest t p))) := value_leaf (begin_0 (by rw [HHd.out]; exact ho) hk2 (Or.inr (by rw [HHd.out, hcc]; decide))) (by rw [HHd.out, hcc]; decide) (by rw [HHd.out, hcc]; decide)
  have HLe : Hid (leafE (skip (rest t p)) = word nullB (skip (rest t p)) none) := by
    show leafE _ = _
    rw [leafE, HHd.out, hcc]
    simp
  clear hc ho
  subst hcc
  clear hw0 h
  go_enter Tryz.func18, Tryz.ntmps18
  go_wp2_with fail
  rw [← HW0.out]
  refine (look_any b t p k w0 HR0.out hp ht).mono ?_
  rintro e w1 ⟨rfl, g1, r1⟩
  have HG1 : Hid (G b w w1) := HG0.out.trans g1
  have HR1 : Hid (Rf b t (skipAt t p) k w1) := r1
  have HZ1 : Hid (Box w1 w.heap.size ⟨0, false, 0, []⟩ (.slice none 0 0) (.slice none 0 0)) := HZ0.out.grown g1 (fun e => by cases e; omega)
  clear g1 r1
  rw [HL.out]
  have hc0 : decide (((110 : UInt8).toNat : Int) < 0) = false := by rw [decide_eq_false_iff_not]; omega
  go_wp2_with fail
  refine (chr_any 110 w1).mono ?_
  rintro e w2 ⟨rfl, b2⟩
  have HG2 : Hid (G b w w2) := HG1.out.trans ⟨b2.os, b2.tape, b2.output, b2.size, fun k hk _ => b2.block k hk⟩
  have HR2 : Hid (Rf b t (skipAt t p) k w2) := HR1.out.below b2
  have HZ2 : Hid (Box w2 w.heap.size ⟨0, false, 0, []⟩ (.slice none 0 0) (.slice none 0 0)) := HZ1.out.below b2
  clear b2
  go_wp2_with fail
  refine (Tryz.strings_Contains_one opensR 110 w2).mono ?_
  rintro e w2' ⟨rfl, rfl⟩
  rw [HHas.out]
  have m0 := HR2.out.many
  have m1 := HR2.out.free 2
  have m2 := (HR2.out.count (k + 1)).many
  have HR3 : Hid (Rf b t (skipAt t p) (k + 1) (w2'.setCell ⟨b, 2, none⟩ (.int .i64 ((k : Int) + 1)))) := HR2.out.count (k + 1)
  have HG3 : Hid (G b w (w2'.setCell ⟨b, 2, none⟩ (.int .i64 ((k : Int) + 1)))) := HG2.out.setCell 2 _
  have HZ3 : Hid (Box (w2'.setCell ⟨b, 2, none⟩ (.int .i64 ((k : Int) + 1))) w.heap.size ⟨0, false, 0, []⟩ (.slice none 0 0) (.slice none 0 0)) := HZ2.out.other (by omega) _
  have hkk : ¬ (200 : Int) < (k : Int) + 1 := by omega
  go_wp2_with fail
  generalize w2'.setCell ⟨b, 2, none⟩ (.int .i64 ((k : Int) + 1)) = w3 at *
  cases hpre : (nullB).isPrefixOf (rest t (skipAt t p)) with
  | true =>
    have hle : skipAt t p + 4 ≤ t.size := by
      have h2 := word_len hpre
      rw [rest_len] at h2
      have h3 : (nullB).length = 4 := rfl
      omega
    have HX : Hid (value n k (rest t p) = .ok (leaf n none, k + 1, rest t (skipAt t p + 4))) := by
      show value _ _ _ = _
      rw [HVl.out, leafAt, HLe.out, word, ← HSk.out, if_pos hpre]
      have : (rest t (skipAt t p)).drop (nullB).length = rest t (skipAt t p + 4) := by
        unfold rest
        rw [List.drop_drop]
        rfl
      rw [this]
    have hcall := rfword_yes b t { data := #[110, 117, 108, 108] } (skipAt t p) (k + 1) 1 false w3 HR3.out hsl ht (by decide) hpre
    unfold rfLeaf at hcall
    refine Calls.mono hcall ?_
    rintro e w4 ⟨rfl, g4, r4⟩
    have HG4 : Hid (G b w w4) := HG3.out.trans g4
    have HZ4 : Hid (Box w4 w.heap.size ⟨0, false, 0, []⟩ (.slice none 0 0) (.slice none 0 0)) := HZ3.out.grown g4 (fun e => by cases e; omega)
    have HR4 : Hid (Rf b t (skipAt t p + 4) (k + 1) w4) := r4
    clear g4 r4 hcall hpre
    have f0 := HZ4.out.free 0
    have f1 := HZ4.out.free 1
    have f2 := HZ4.out.free 2
    have f3 := HZ4.out.free 3
    have f4 := HZ4.out.free 4
    have f5 := HZ4.out.free 5
    have z0 := HZ4.out.c0
    have z1 := HZ4.out.c1
    have z2 := HZ4.out.c2
    have z3 := HZ4.out.c3
    have z4 := HZ4.out.c4
    have z5 := HZ4.out.c5
    go_wp2_with fail
    have e6 : Box (put6 w4 (w.heap.size) (.int .i64 1) (.bool false) (.int .i64 0) (.string ⟨#[]⟩) (.slice none 0 0) (.slice none 0 0)) (w.heap.size) ⟨1, false, 0, []⟩ (.slice none 0 0) (.slice none 0 0) := put6_box HZ4.out ⟨1, false, 0, []⟩ (.slice none 0 0) (.slice none 0 0)
    have g6 := put6_grown w4 (w.heap.size) (.int .i64 1) (.bool false) (.int .i64 0) (.string ⟨#[]⟩) (.slice none 0 0) (.slice none 0 0)
    change bodyPost _ _ _ _ _ (put6 w4 (w.heap.size) _ _ _ _ _ _)
    generalize put6 w4 (w.heap.size) (.int .i64 1) (.bool false) (.int .i64 0) (.string ⟨#[]⟩) (.slice none 0 0) (.slice none 0 0) = W at *
    exact bodyPost_ret (v := .tuple #[rfV ⟨1, false, 0, []⟩ (.slice none 0 0) (.slice none 0 0), .int .i64 0]) (by simp [results, Tryz.results18, go_sem, rfV, e6.c0, e6.c1, e6.c2, e6.c3, e6.c4, e6.c5]) rfl ⟨HG4.out.grown g6 (fun k e => by cases e; omega), Or.inr ⟨_, k + 1, skipAt t p + 4, _, HX.out, by omega, hle, by omega, by omega, rfl, HR4.out.kept g6 (fun e => by cases e; omega), rst_leaf _ _ n none⟩⟩
  | false =>
    have HX : Hid (value n k (rest t p) = .error 3) := by
      show value _ _ _ = _
      rw [HVl.out, leafAt, HLe.out, word, ← HSk.out, if_neg (by rw [hpre]; decide)]
    have hcall := rfword_no b t { data := #[110, 117, 108, 108] } (skipAt t p) (k + 1) 1 false w3 HR3.out hsl ht (by decide) hpre
    unfold rfLeaf at hcall
    refine Calls.mono hcall ?_
    rintro e w4 ⟨rfl, g4⟩
    have HG4 : Hid (G b w w4) := HG3.out.trans g4
    have HZ4 : Hid (Box w4 w.heap.size ⟨0, false, 0, []⟩ (.slice none 0 0) (.slice none 0 0)) := HZ3.out.grown g4 (fun e => by cases e; omega)
    clear g4 hcall hpre
    have f0 := HZ4.out.free 0
    have f1 := HZ4.out.free 1
    have f2 := HZ4.out.free 2
    have f3 := HZ4.out.free 3
    have f4 := HZ4.out.free 4
    have f5 := HZ4.out.free 5
    have z0 := HZ4.out.c0
    have z1 := HZ4.out.c1
    have z2 := HZ4.out.c2
    have z3 := HZ4.out.c3
    have z4 := HZ4.out.c4
    have z5 := HZ4.out.c5
    go_wp2_with fail
    have e6 : Box (put6 w4 (w.heap.size) (.int .i64 0) (.bool false) (.int .i64 0) (.string ⟨#[]⟩) (.slice none 0 0) (.slice none 0 0)) (w.heap.size) ⟨0, false, 0, []⟩ (.slice none 0 0) (.slice none 0 0) := put6_box HZ4.out ⟨0, false, 0, []⟩ (.slice none 0 0) (.slice none 0 0)
    have g6 := put6_grown w4 (w.heap.size) (.int .i64 0) (.bool false) (.int .i64 0) (.string ⟨#[]⟩) (.slice none 0 0) (.slice none 0 0)
    change bodyPost _ _ _ _ _ (put6 w4 (w.heap.size) _ _ _ _ _ _)
    generalize put6 w4 (w.heap.size) (.int .i64 0) (.bool false) (.int .i64 0) (.string ⟨#[]⟩) (.slice none 0 0) (.slice none 0 0) = W at *
    exact bodyPost_ret (v := .tuple #[rfV ⟨0, false, 0, []⟩ (.slice none 0 0) (.slice none 0 0), .int .i64 3]) (by simp [results, Tryz.results18, go_sem, rfV, e6.c0, e6.c1, e6.c2, e6.c3, e6.c4, e6.c5]) rfl ⟨HG4.out.grown g6 (fun k e => by cases e; omega), Or.inl ⟨3, _, HX.out, by decide, by decide, rfl⟩⟩
set_option maxRecDepth 100000 in
set_option maxHeartbeats 8000000 in
theorem rfval_true (n b : Nat) (t : ByteArray) (p k : Nat) (d : Int) (w : World) (h : Rf b t p k w) (hp : p ≤ t.size) (ht : t.size ≤ 2000) (hk : k ≤ 200) (hdn : d + n = 10) (hd0 : 0 ≤ d) (r : Bs) (hc : skip (rest t p) = 116 :: r) (hk2 : k < 200) :
    Calls Tryz.prog 18 #[.pointer (some ⟨b, 0, none⟩), .int .i64 d] w (RValPost b t p k n w) := by
  have hbw := h.lt
  have hsl := skipAt_le t p
  have hsg := skipAt_ge t p hp
  have HSk : Hid (rest t (skipAt t p) = skip (rest t p)) := rest_skip t p hp
  obtain ⟨w0, hw0⟩ : ∃ w0, w0 = w.alloc (.cells #[.int .i64 0, .bool false, .int .i64 0, .string ⟨#[]⟩, .slice none 0 0, .slice none 0 0] 25) := ⟨_, rfl⟩
  have HW0 : Hid (w0 = w.alloc (.cells #[.int .i64 0, .bool false, .int .i64 0, .string ⟨#[]⟩, .slice none 0 0, .slice none 0 0] 25)) := hw0
  have HR0 : Hid (Rf b t p k w0) := by show Rf _ _ _ _ _; rw [hw0]; exact h.alloc _
  have HG0 : Hid (G b w w0) := by show G _ _ _; rw [hw0]; exact (G.refl b w).alloc _
  have HZ0 : Hid (Box w0 w.heap.size ⟨0, false, 0, []⟩ (.slice none 0 0) (.slice none 0 0)) := by show Box _ _ _ _ _; rw [hw0]; exact box_new w ⟨0, false, 0, []⟩ _ _
  obtain ⟨c, hcc⟩ : ∃ c : UInt8, c = 116 := ⟨_, rfl⟩
  have ho : c ∈ opens := by rw [hcc]; decide
  rw [← hcc] at hc
  have HL : Hid (lookOf (rest t (skipAt t p)) = (c.toNat : Int)) := by show lookOf _ = _; rw [HSk.out, hc]; rfl
  have HHd : Hid (hd (skip (rest t p)) = c) := by show hd _ = _; rw [hc]; rfl
  have HHas : Hid (decide (0 ≤ Lib.indexByte opensR.data.toList c) = true) := by
    show _ = true
    rw [opensR_has, List.contains_iff_mem]
    exact ho
  have HVl : Hid (value n k (rest t p) = leafAt n k (skip (rest t p))) := value_leaf (begin_0 (by rw [HHd.out]; exact ho) hk2 (Or.inr (by rw [HHd.out, hcc]; decide))) (by rw [HHd.out, hcc]; decide) (by rw [HHd.out, hcc]; decide)
  have HLe : Hid (leafE (skip (rest t p)) = word trueB (skip (rest t p)) (some (Sum.inl true))) := by
    show leafE _ = _
    rw [leafE, HHd.out, hcc]
    simp
  clear hc ho
  subst hcc
  clear hw0 h
  go_enter Tryz.func18, Tryz.ntmps18
  go_wp2_with fail
  rw [← HW0.out]
  refine (look_any b t p k w0 HR0.out hp ht).mono ?_
  rintro e w1 ⟨rfl, g1, r1⟩
  have HG1 : Hid (G b w w1) := HG0.out.trans g1
  have HR1 : Hid (Rf b t (skipAt t p) k w1) := r1
  have HZ1 : Hid (Box w1 w.heap.size ⟨0, false, 0, []⟩ (.slice none 0 0) (.slice none 0 0)) := HZ0.out.grown g1 (fun e => by cases e; omega)
  clear g1 r1
  rw [HL.out]
  have hc0 : decide (((116 : UInt8).toNat : Int) < 0) = false := by rw [decide_eq_false_iff_not]; omega
  go_wp2_with fail
  refine (chr_any 116 w1).mono ?_
  rintro e w2 ⟨rfl, b2⟩
  have HG2 : Hid (G b w w2) := HG1.out.trans ⟨b2.os, b2.tape, b2.output, b2.size, fun k hk _ => b2.block k hk⟩
  have HR2 : Hid (Rf b t (skipAt t p) k w2) := HR1.out.below b2
  have HZ2 : Hid (Box w2 w.heap.size ⟨0, false, 0, []⟩ (.slice none 0 0) (.slice none 0 0)) := HZ1.out.below b2
  clear b2
  go_wp2_with fail
  refine (Tryz.strings_Contains_one opensR 116 w2).mono ?_
  rintro e w2' ⟨rfl, rfl⟩
  rw [HHas.out]
  have m0 := HR2.out.many
  have m1 := HR2.out.free 2
  have m2 := (HR2.out.count (k + 1)).many
  have HR3 : Hid (Rf b t (skipAt t p) (k + 1) (w2'.setCell ⟨b, 2, none⟩ (.int .i64 ((k : Int) + 1)))) := HR2.out.count (k + 1)
  have HG3 : Hid (G b w (w2'.setCell ⟨b, 2, none⟩ (.int .i64 ((k : Int) + 1)))) := HG2.out.setCell 2 _
  have HZ3 : Hid (Box (w2'.setCell ⟨b, 2, none⟩ (.int .i64 ((k : Int) + 1))) w.heap.size ⟨0, false, 0, []⟩ (.slice none 0 0) (.slice none 0 0)) := HZ2.out.other (by omega) _
  have hkk : ¬ (200 : Int) < (k : Int) + 1 := by omega
  go_wp2_with fail
  generalize w2'.setCell ⟨b, 2, none⟩ (.int .i64 ((k : Int) + 1)) = w3 at *
  cases hpre : (trueB).isPrefixOf (rest t (skipAt t p)) with
  | true =>
    have hle : skipAt t p + 4 ≤ t.size := by
      have h2 := word_len hpre
      rw [rest_len] at h2
      have h3 : (trueB).length = 4 := rfl
      omega
    have HX : Hid (value n k (rest t p) = .ok (leaf n (some (Sum.inl true)), k + 1, rest t (skipAt t p + 4))) := by
      show value _ _ _ = _
      rw [HVl.out, leafAt, HLe.out, word, ← HSk.out, if_pos hpre]
      have : (rest t (skipAt t p)).drop (trueB).length = rest t (skipAt t p + 4) := by
        unfold rest
        rw [List.drop_drop]
        rfl
      rw [this]
    have hcall := rfword_yes b t { data := #[116, 114, 117, 101] } (skipAt t p) (k + 1) 2 true w3 HR3.out hsl ht (by decide) hpre
    unfold rfLeaf at hcall
    refine Calls.mono hcall ?_
    rintro e w4 ⟨rfl, g4, r4⟩
    have HG4 : Hid (G b w w4) := HG3.out.trans g4
    have HZ4 : Hid (Box w4 w.heap.size ⟨0, false, 0, []⟩ (.slice none 0 0) (.slice none 0 0)) := HZ3.out.grown g4 (fun e => by cases e; omega)
    have HR4 : Hid (Rf b t (skipAt t p + 4) (k + 1) w4) := r4
    clear g4 r4 hcall hpre
    have f0 := HZ4.out.free 0
    have f1 := HZ4.out.free 1
    have f2 := HZ4.out.free 2
    have f3 := HZ4.out.free 3
    have f4 := HZ4.out.free 4
    have f5 := HZ4.out.free 5
    have z0 := HZ4.out.c0
    have z1 := HZ4.out.c1
    have z2 := HZ4.out.c2
    have z3 := HZ4.out.c3
    have z4 := HZ4.out.c4
    have z5 := HZ4.out.c5
    go_wp2_with fail
    have e6 : Box (put6 w4 (w.heap.size) (.int .i64 2) (.bool true) (.int .i64 0) (.string ⟨#[]⟩) (.slice none 0 0) (.slice none 0 0)) (w.heap.size) ⟨2, true, 0, []⟩ (.slice none 0 0) (.slice none 0 0) := put6_box HZ4.out ⟨2, true, 0, []⟩ (.slice none 0 0) (.slice none 0 0)
    have g6 := put6_grown w4 (w.heap.size) (.int .i64 2) (.bool true) (.int .i64 0) (.string ⟨#[]⟩) (.slice none 0 0) (.slice none 0 0)
    change bodyPost _ _ _ _ _ (put6 w4 (w.heap.size) _ _ _ _ _ _)
    generalize put6 w4 (w.heap.size) (.int .i64 2) (.bool true) (.int .i64 0) (.string ⟨#[]⟩) (.slice none 0 0) (.slice none 0 0) = W at *
    exact bodyPost_ret (v := .tuple #[rfV ⟨2, true, 0, []⟩ (.slice none 0 0) (.slice none 0 0), .int .i64 0]) (by simp [results, Tryz.results18, go_sem, rfV, e6.c0, e6.c1, e6.c2, e6.c3, e6.c4, e6.c5]) rfl ⟨HG4.out.grown g6 (fun k e => by cases e; omega), Or.inr ⟨_, k + 1, skipAt t p + 4, _, HX.out, by omega, hle, by omega, by omega, rfl, HR4.out.kept g6 (fun e => by cases e; omega), rst_leaf _ _ n (some (Sum.inl true))⟩⟩
  | false =>
    have HX : Hid (value n k (rest t p) = .error 3) := by
      show value _ _ _ = _
      rw [HVl.out, leafAt, HLe.out, word, ← HSk.out, if_neg (by rw [hpre]; decide)]
    have hcall := rfword_no b t { data := #[116, 114, 117, 101] } (skipAt t p) (k + 1) 2 true w3 HR3.out hsl ht (by decide) hpre
    unfold rfLeaf at hcall
    refine Calls.mono hcall ?_
    rintro e w4 ⟨rfl, g4⟩
    have HG4 : Hid (G b w w4) := HG3.out.trans g4
    have HZ4 : Hid (Box w4 w.heap.size ⟨0, false, 0, []⟩ (.slice none 0 0) (.slice none 0 0)) := HZ3.out.grown g4 (fun e => by cases e; omega)
    clear g4 hcall hpre
    have f0 := HZ4.out.free 0
    have f1 := HZ4.out.free 1
    have f2 := HZ4.out.free 2
    have f3 := HZ4.out.free 3
    have f4 := HZ4.out.free 4
    have f5 := HZ4.out.free 5
    have z0 := HZ4.out.c0
    have z1 := HZ4.out.c1
    have z2 := HZ4.out.c2
    have z3 := HZ4.out.c3
    have z4 := HZ4.out.c4
    have z5 := HZ4.out.c5
    go_wp2_with fail
    have e6 : Box (put6 w4 (w.heap.size) (.int .i64 0) (.bool false) (.int .i64 0) (.string ⟨#[]⟩) (.slice none 0 0) (.slice none 0 0)) (w.heap.size) ⟨0, false, 0, []⟩ (.slice none 0 0) (.slice none 0 0) := put6_box HZ4.out ⟨0, false, 0, []⟩ (.slice none 0 0) (.slice none 0 0)
    have g6 := put6_grown w4 (w.heap.size) (.int .i64 0) (.bool false) (.int .i64 0) (.string ⟨#[]⟩) (.slice none 0 0) (.slice none 0 0)
    change bodyPost _ _ _ _ _ (put6 w4 (w.heap.size) _ _ _ _ _ _)
    generalize put6 w4 (w.heap.size) (.int .i64 0) (.bool false) (.int .i64 0) (.string ⟨#[]⟩) (.slice none 0 0) (.slice none 0 0) = W at *
    exact bodyPost_ret (v := .tuple #[rfV ⟨0, false, 0, []⟩ (.slice none 0 0) (.slice none 0 0), .int .i64 3]) (by simp [results, Tryz.results18, go_sem, rfV, e6.c0, e6.c1, e6.c2, e6.c3, e6.c4, e6.c5]) rfl ⟨HG4.out.grown g6 (fun k e => by cases e; omega), Or.inl ⟨3, _, HX.out, by decide, by decide, rfl⟩⟩
set_option maxRecDepth 100000 in
set_option maxHeartbeats 8000000 in
theorem rfval_false (n b : Nat) (t : ByteArray) (p k : Nat) (d : Int) (w : World) (h : Rf b t p k w) (hp : p ≤ t.size) (ht : t.size ≤ 2000) (hk : k ≤ 200) (hdn : d + n = 10) (hd0 : 0 ≤ d) (r : Bs) (hc : skip (rest t p) = 102 :: r) (hk2 : k < 200) :
    Calls Tryz.prog 18 #[.pointer (some ⟨b, 0, none⟩), .int .i64 d] w (RValPost b t p k n w) := by
  have hbw := h.lt
  have hsl := skipAt_le t p
  have hsg := skipAt_ge t p hp
  have HSk : Hid (rest t (skipAt t p) = skip (rest t p)) := rest_skip t p hp
  obtain ⟨w0, hw0⟩ : ∃ w0, w0 = w.alloc (.cells #[.int .i64 0, .bool false, .int .i64 0, .string ⟨#[]⟩, .slice none 0 0, .slice none 0 0] 25) := ⟨_, rfl⟩
  have HW0 : Hid (w0 = w.alloc (.cells #[.int .i64 0, .bool false, .int .i64 0, .string ⟨#[]⟩, .slice none 0 0, .slice none 0 0] 25)) := hw0
  have HR0 : Hid (Rf b t p k w0) := by show Rf _ _ _ _ _; rw [hw0]; exact h.alloc _
  have HG0 : Hid (G b w w0) := by show G _ _ _; rw [hw0]; exact (G.refl b w).alloc _
  have HZ0 : Hid (Box w0 w.heap.size ⟨0, false, 0, []⟩ (.slice none 0 0) (.slice none 0 0)) := by show Box _ _ _ _ _; rw [hw0]; exact box_new w ⟨0, false, 0, []⟩ _ _
  obtain ⟨c, hcc⟩ : ∃ c : UInt8, c = 102 := ⟨_, rfl⟩
  have ho : c ∈ opens := by rw [hcc]; decide
  rw [← hcc] at hc
  have HL : Hid (lookOf (rest t (skipAt t p)) = (c.toNat : Int)) := by show lookOf _ = _; rw [HSk.out, hc]; rfl
  have HHd : Hid (hd (skip (rest t p)) = c) := by show hd _ = _; rw [hc]; rfl
  have HHas : Hid (decide (0 ≤ Lib.indexByte opensR.data.toList c) = true) := by
    show _ = true
    rw [opensR_has, List.contains_iff_mem]
    exact ho
  have HVl : Hid (value n k (rest t p) = leafAt n k (skip (rest t p))) := value_leaf (begin_0 (by rw [HHd.out]; exact ho) hk2 (Or.inr (by rw [HHd.out, hcc]; decide))) (by rw [HHd.out, hcc]; decide) (by rw [HHd.out, hcc]; decide)
  have HLe : Hid (leafE (skip (rest t p)) = word falseB (skip (rest t p)) (some (Sum.inl false))) := by
    show leafE _ = _
    rw [leafE, HHd.out, hcc]
    simp
  clear hc ho
  subst hcc
  clear hw0 h
  go_enter Tryz.func18, Tryz.ntmps18
  go_wp2_with fail
  rw [← HW0.out]
  refine (look_any b t p k w0 HR0.out hp ht).mono ?_
  rintro e w1 ⟨rfl, g1, r1⟩
  have HG1 : Hid (G b w w1) := HG0.out.trans g1
  have HR1 : Hid (Rf b t (skipAt t p) k w1) := r1
  have HZ1 : Hid (Box w1 w.heap.size ⟨0, false, 0, []⟩ (.slice none 0 0) (.slice none 0 0)) := HZ0.out.grown g1 (fun e => by cases e; omega)
  clear g1 r1
  rw [HL.out]
  have hc0 : decide (((102 : UInt8).toNat : Int) < 0) = false := by rw [decide_eq_false_iff_not]; omega
  go_wp2_with fail
  refine (chr_any 102 w1).mono ?_
  rintro e w2 ⟨rfl, b2⟩
  have HG2 : Hid (G b w w2) := HG1.out.trans ⟨b2.os, b2.tape, b2.output, b2.size, fun k hk _ => b2.block k hk⟩
  have HR2 : Hid (Rf b t (skipAt t p) k w2) := HR1.out.below b2
  have HZ2 : Hid (Box w2 w.heap.size ⟨0, false, 0, []⟩ (.slice none 0 0) (.slice none 0 0)) := HZ1.out.below b2
  clear b2
  go_wp2_with fail
  refine (Tryz.strings_Contains_one opensR 102 w2).mono ?_
  rintro e w2' ⟨rfl, rfl⟩
  rw [HHas.out]
  have m0 := HR2.out.many
  have m1 := HR2.out.free 2
  have m2 := (HR2.out.count (k + 1)).many
  have HR3 : Hid (Rf b t (skipAt t p) (k + 1) (w2'.setCell ⟨b, 2, none⟩ (.int .i64 ((k : Int) + 1)))) := HR2.out.count (k + 1)
  have HG3 : Hid (G b w (w2'.setCell ⟨b, 2, none⟩ (.int .i64 ((k : Int) + 1)))) := HG2.out.setCell 2 _
  have HZ3 : Hid (Box (w2'.setCell ⟨b, 2, none⟩ (.int .i64 ((k : Int) + 1))) w.heap.size ⟨0, false, 0, []⟩ (.slice none 0 0) (.slice none 0 0)) := HZ2.out.other (by omega) _
  have hkk : ¬ (200 : Int) < (k : Int) + 1 := by omega
  go_wp2_with fail
  generalize w2'.setCell ⟨b, 2, none⟩ (.int .i64 ((k : Int) + 1)) = w3 at *
  cases hpre : (falseB).isPrefixOf (rest t (skipAt t p)) with
  | true =>
    have hle : skipAt t p + 5 ≤ t.size := by
      have h2 := word_len hpre
      rw [rest_len] at h2
      have h3 : (falseB).length = 5 := rfl
      omega
    have HX : Hid (value n k (rest t p) = .ok (leaf n (some (Sum.inl false)), k + 1, rest t (skipAt t p + 5))) := by
      show value _ _ _ = _
      rw [HVl.out, leafAt, HLe.out, word, ← HSk.out, if_pos hpre]
      have : (rest t (skipAt t p)).drop (falseB).length = rest t (skipAt t p + 5) := by
        unfold rest
        rw [List.drop_drop]
        rfl
      rw [this]
    have hcall := rfword_yes b t { data := #[102, 97, 108, 115, 101] } (skipAt t p) (k + 1) 2 false w3 HR3.out hsl ht (by decide) hpre
    unfold rfLeaf at hcall
    refine Calls.mono hcall ?_
    rintro e w4 ⟨rfl, g4, r4⟩
    have HG4 : Hid (G b w w4) := HG3.out.trans g4
    have HZ4 : Hid (Box w4 w.heap.size ⟨0, false, 0, []⟩ (.slice none 0 0) (.slice none 0 0)) := HZ3.out.grown g4 (fun e => by cases e; omega)
    have HR4 : Hid (Rf b t (skipAt t p + 5) (k + 1) w4) := r4
    clear g4 r4 hcall hpre
    have f0 := HZ4.out.free 0
    have f1 := HZ4.out.free 1
    have f2 := HZ4.out.free 2
    have f3 := HZ4.out.free 3
    have f4 := HZ4.out.free 4
    have f5 := HZ4.out.free 5
    have z0 := HZ4.out.c0
    have z1 := HZ4.out.c1
    have z2 := HZ4.out.c2
    have z3 := HZ4.out.c3
    have z4 := HZ4.out.c4
    have z5 := HZ4.out.c5
    go_wp2_with fail
    have e6 : Box (put6 w4 (w.heap.size) (.int .i64 2) (.bool false) (.int .i64 0) (.string ⟨#[]⟩) (.slice none 0 0) (.slice none 0 0)) (w.heap.size) ⟨2, false, 0, []⟩ (.slice none 0 0) (.slice none 0 0) := put6_box HZ4.out ⟨2, false, 0, []⟩ (.slice none 0 0) (.slice none 0 0)
    have g6 := put6_grown w4 (w.heap.size) (.int .i64 2) (.bool false) (.int .i64 0) (.string ⟨#[]⟩) (.slice none 0 0) (.slice none 0 0)
    change bodyPost _ _ _ _ _ (put6 w4 (w.heap.size) _ _ _ _ _ _)
    generalize put6 w4 (w.heap.size) (.int .i64 2) (.bool false) (.int .i64 0) (.string ⟨#[]⟩) (.slice none 0 0) (.slice none 0 0) = W at *
    exact bodyPost_ret (v := .tuple #[rfV ⟨2, false, 0, []⟩ (.slice none 0 0) (.slice none 0 0), .int .i64 0]) (by simp [results, Tryz.results18, go_sem, rfV, e6.c0, e6.c1, e6.c2, e6.c3, e6.c4, e6.c5]) rfl ⟨HG4.out.grown g6 (fun k e => by cases e; omega), Or.inr ⟨_, k + 1, skipAt t p + 5, _, HX.out, by omega, hle, by omega, by omega, rfl, HR4.out.kept g6 (fun e => by cases e; omega), rst_leaf _ _ n (some (Sum.inl false))⟩⟩
  | false =>
    have HX : Hid (value n k (rest t p) = .error 3) := by
      show value _ _ _ = _
      rw [HVl.out, leafAt, HLe.out, word, ← HSk.out, if_neg (by rw [hpre]; decide)]
    have hcall := rfword_no b t { data := #[102, 97, 108, 115, 101] } (skipAt t p) (k + 1) 2 false w3 HR3.out hsl ht (by decide) hpre
    unfold rfLeaf at hcall
    refine Calls.mono hcall ?_
    rintro e w4 ⟨rfl, g4⟩
    have HG4 : Hid (G b w w4) := HG3.out.trans g4
    have HZ4 : Hid (Box w4 w.heap.size ⟨0, false, 0, []⟩ (.slice none 0 0) (.slice none 0 0)) := HZ3.out.grown g4 (fun e => by cases e; omega)
    clear g4 hcall hpre
    have f0 := HZ4.out.free 0
    have f1 := HZ4.out.free 1
    have f2 := HZ4.out.free 2
    have f3 := HZ4.out.free 3
    have f4 := HZ4.out.free 4
    have f5 := HZ4.out.free 5
    have z0 := HZ4.out.c0
    have z1 := HZ4.out.c1
    have z2 := HZ4.out.c2
    have z3 := HZ4.out.c3
    have z4 := HZ4.out.c4
    have z5 := HZ4.out.c5
    go_wp2_with fail
    have e6 : Box (put6 w4 (w.heap.size) (.int .i64 0) (.bool false) (.int .i64 0) (.string ⟨#[]⟩) (.slice none 0 0) (.slice none 0 0)) (w.heap.size) ⟨0, false, 0, []⟩ (.slice none 0 0) (.slice none 0 0) := put6_box HZ4.out ⟨0, false, 0, []⟩ (.slice none 0 0) (.slice none 0 0)
    have g6 := put6_grown w4 (w.heap.size) (.int .i64 0) (.bool false) (.int .i64 0) (.string ⟨#[]⟩) (.slice none 0 0) (.slice none 0 0)
    change bodyPost _ _ _ _ _ (put6 w4 (w.heap.size) _ _ _ _ _ _)
    generalize put6 w4 (w.heap.size) (.int .i64 0) (.bool false) (.int .i64 0) (.string ⟨#[]⟩) (.slice none 0 0) (.slice none 0 0) = W at *
    exact bodyPost_ret (v := .tuple #[rfV ⟨0, false, 0, []⟩ (.slice none 0 0) (.slice none 0 0), .int .i64 3]) (by simp [results, Tryz.results18, go_sem, rfV, e6.c0, e6.c1, e6.c2, e6.c3, e6.c4, e6.c5]) rfl ⟨HG4.out.grown g6 (fun k e => by cases e; omega), Or.inl ⟨3, _, HX.out, by decide, by decide, rfl⟩⟩
set_option maxRecDepth 100000 in
set_option maxHeartbeats 8000000 in
theorem rfval_num (n b : Nat) (t : ByteArray) (p k : Nat) (d : Int) (w : World) (h : Rf b t p k w) (hp : p ≤ t.size) (ht : t.size ≤ 2000) (hk : k ≤ 200) (hdn : d + n = 10) (hd0 : 0 ≤ d) (c : UInt8) (r : Bs) (hc : skip (rest t p) = c :: r) (ho : c ∈ opens) (hk2 : k < 200) (n1 : c ≠ 91) (n2 : c ≠ 123) (n3 : c ≠ 34) (n4 : c ≠ 110) (n5 : c ≠ 116) (n6 : c ≠ 102) :
    Calls Tryz.prog 18 #[.pointer (some ⟨b, 0, none⟩), .int .i64 d] w (RValPost b t p k n w) := by
  have hbw := h.lt
  have hsl := skipAt_le t p
  have hsg := skipAt_ge t p hp
  have HSk : Hid (rest t (skipAt t p) = skip (rest t p)) := rest_skip t p hp
  obtain ⟨w0, hw0⟩ : ∃ w0, w0 = w.alloc (.cells #[.int .i64 0, .bool false, .int .i64 0, .string ⟨#[]⟩, .slice none 0 0, .slice none 0 0] 25) := ⟨_, rfl⟩
  have HW0 : Hid (w0 = w.alloc (.cells #[.int .i64 0, .bool false, .int .i64 0, .string ⟨#[]⟩, .slice none 0 0, .slice none 0 0] 25)) := hw0
  have HR0 : Hid (Rf b t p k w0) := by show Rf _ _ _ _ _; rw [hw0]; exact h.alloc _
  have HG0 : Hid (G b w w0) := by show G _ _ _; rw [hw0]; exact (G.refl b w).alloc _
  have HZ0 : Hid (Box w0 w.heap.size ⟨0, false, 0, []⟩ (.slice none 0 0) (.slice none 0 0)) := by show Box _ _ _ _ _; rw [hw0]; exact box_new w ⟨0, false, 0, []⟩ _ _
  have HL : Hid (lookOf (rest t (skipAt t p)) = (c.toNat : Int)) := by show lookOf _ = _; rw [HSk.out, hc]; rfl
  have HHd : Hid (hd (skip (rest t p)) = c) := by show hd _ = _; rw [hc]; rfl
  have HHas : Hid (decide (0 ≤ Lib.indexByte opensR.data.toList c) = true) := by
    show _ = true
    rw [opensR_has, List.contains_iff_mem]
    exact ho
  have HVl : Hid (value n k (rest t p) = leafAt n k (skip (rest t p))) := value_leaf (begin_0 (by rw [HHd.out]; exact ho) hk2 (Or.inr (by rw [HHd.out]; exact ⟨n1, n2⟩))) (by rw [HHd.out]; exact n1) (by rw [HHd.out]; exact n2)
  have HLe : Hid (leafE (skip (rest t p)) = number (skip (rest t p))) := by
    show leafE _ = _
    rw [leafE, HHd.out, if_neg n4, if_neg n5, if_neg n6, if_neg n3]
  have hlt : skipAt t p < t.size := by
    have h2 := congrArg List.length (HSk.out.trans hc)
    rw [rest_len, List.length_cons] at h2
    omega
  have e1 : ((c.toNat : Int) == 91) = false := byte_ne n1
  have e2 : ((c.toNat : Int) == 123) = false := byte_ne n2
  have e3 : ((c.toNat : Int) == 34) = false := byte_ne n3
  have e4 : ((c.toNat : Int) == 110) = false := byte_ne n4
  have e5 : ((c.toNat : Int) == 116) = false := byte_ne n5
  have e6 : ((c.toNat : Int) == 102) = false := byte_ne n6
  clear hc ho n1 n2 n3 n4 n5 n6
  clear hw0 h
  go_enter Tryz.func18, Tryz.ntmps18
  go_wp2_with fail
  rw [← HW0.out]
  refine (look_any b t p k w0 HR0.out hp ht).mono ?_
  rintro e w1 ⟨rfl, g1, r1⟩
  have HG1 : Hid (G b w w1) := HG0.out.trans g1
  have HR1 : Hid (Rf b t (skipAt t p) k w1) := r1
  have HZ1 : Hid (Box w1 w.heap.size ⟨0, false, 0, []⟩ (.slice none 0 0) (.slice none 0 0)) := HZ0.out.grown g1 (fun e => by cases e; omega)
  clear g1 r1
  rw [HL.out]
  have hc0 : decide ((c.toNat : Int) < 0) = false := by rw [decide_eq_false_iff_not]; omega
  go_wp2_with fail
  refine (chr_any c w1).mono ?_
  rintro e w2 ⟨rfl, b2⟩
  have HG2 : Hid (G b w w2) := HG1.out.trans ⟨b2.os, b2.tape, b2.output, b2.size, fun k hk _ => b2.block k hk⟩
  have HR2 : Hid (Rf b t (skipAt t p) k w2) := HR1.out.below b2
  have HZ2 : Hid (Box w2 w.heap.size ⟨0, false, 0, []⟩ (.slice none 0 0) (.slice none 0 0)) := HZ1.out.below b2
  clear b2
  go_wp2_with fail
  refine (Tryz.strings_Contains_one opensR c w2).mono ?_
  rintro e w2' ⟨rfl, rfl⟩
  rw [HHas.out]
  have m0 := HR2.out.many
  have m1 := HR2.out.free 2
  have m2 := (HR2.out.count (k + 1)).many
  have HR3 : Hid (Rf b t (skipAt t p) (k + 1) (w2'.setCell ⟨b, 2, none⟩ (.int .i64 ((k : Int) + 1)))) := HR2.out.count (k + 1)
  have HG3 : Hid (G b w (w2'.setCell ⟨b, 2, none⟩ (.int .i64 ((k : Int) + 1)))) := HG2.out.setCell 2 _
  have HZ3 : Hid (Box (w2'.setCell ⟨b, 2, none⟩ (.int .i64 ((k : Int) + 1))) w.heap.size ⟨0, false, 0, []⟩ (.slice none 0 0) (.slice none 0 0)) := HZ2.out.other (by omega) _
  have hkk : ¬ (200 : Int) < (k : Int) + 1 := by omega
  go_wp2_with fail
  generalize w2'.setCell ⟨b, 2, none⟩ (.int .i64 ((k : Int) + 1)) = w3 at *
  refine (rfnum_any b t (skipAt t p) (k + 1) w3 HR3.out hlt ht).mono ?_
  rintro e w4 ⟨g4, h4⟩
  have HG4 : Hid (G b w w4) := HG3.out.trans g4
  have HZ4 : Hid (Box w4 w.heap.size ⟨0, false, 0, []⟩ (.slice none 0 0) (.slice none 0 0)) := HZ3.out.grown g4 (fun e => by cases e; omega)
  clear g4 e1 e2 e3 e4 e5 e6
  rcases h4 with ⟨er, hv, her, rfl⟩ | ⟨i, q, hq, hv, rfl, hR4⟩
  · have her2 := number_err hv
    have HX : Hid (value n k (rest t p) = .error er) := by
      show value _ _ _ = _
      rw [HVl.out, leafAt, HLe.out, ← HSk.out, hv]
    clear hv
    unfold rfLeaf
    have f0 := HZ4.out.free 0
    have f1 := HZ4.out.free 1
    have f2 := HZ4.out.free 2
    have f3 := HZ4.out.free 3
    have f4 := HZ4.out.free 4
    have f5 := HZ4.out.free 5
    have z0 := HZ4.out.c0
    have z1 := HZ4.out.c1
    have z2 := HZ4.out.c2
    have z3 := HZ4.out.c3
    have z4 := HZ4.out.c4
    have z5 := HZ4.out.c5
    go_wp2_with fail
    have e6 : Box (put6 w4 (w.heap.size) (.int .i64 0) (.bool false) (.int .i64 0) (.string ⟨#[]⟩) (.slice none 0 0) (.slice none 0 0)) (w.heap.size) ⟨0, false, 0, []⟩ (.slice none 0 0) (.slice none 0 0) := put6_box HZ4.out ⟨0, false, 0, []⟩ (.slice none 0 0) (.slice none 0 0)
    have g6 := put6_grown w4 (w.heap.size) (.int .i64 0) (.bool false) (.int .i64 0) (.string ⟨#[]⟩) (.slice none 0 0) (.slice none 0 0)
    change bodyPost _ _ _ _ _ (put6 w4 (w.heap.size) _ _ _ _ _ _)
    generalize put6 w4 (w.heap.size) (.int .i64 0) (.bool false) (.int .i64 0) (.string ⟨#[]⟩) (.slice none 0 0) (.slice none 0 0) = W at *
    exact bodyPost_ret (v := .tuple #[rfV ⟨0, false, 0, []⟩ (.slice none 0 0) (.slice none 0 0), .int .i64 er]) (by simp [results, Tryz.results18, go_sem, rfV, e6.c0, e6.c1, e6.c2, e6.c3, e6.c4, e6.c5]) rfl ⟨HG4.out.grown g6 (fun k e => by cases e; omega), Or.inl ⟨er, _, HX.out, her, her2, rfl⟩⟩
  · have hlq : skipAt t p < q := by
      have := number_len hv
      rw [rest_len, rest_len] at this
      omega
    have HX : Hid (value n k (rest t p) = .ok (leaf n (some (Sum.inr (Sum.inl i))), k + 1, rest t q)) := by
      show value _ _ _ = _
      rw [HVl.out, leafAt, HLe.out, ← HSk.out, hv]
    have HR4 : Hid (Rf b t q (k + 1) w4) := hR4
    clear hv hR4
    unfold rfLeaf
    have f0 := HZ4.out.free 0
    have f1 := HZ4.out.free 1
    have f2 := HZ4.out.free 2
    have f3 := HZ4.out.free 3
    have f4 := HZ4.out.free 4
    have f5 := HZ4.out.free 5
    have z0 := HZ4.out.c0
    have z1 := HZ4.out.c1
    have z2 := HZ4.out.c2
    have z3 := HZ4.out.c3
    have z4 := HZ4.out.c4
    have z5 := HZ4.out.c5
    go_wp2_with fail
    have e6 : Box (put6 w4 (w.heap.size) (.int .i64 3) (.bool false) (.int .i64 i) (.string ⟨#[]⟩) (.slice none 0 0) (.slice none 0 0)) (w.heap.size) ⟨3, false, i, []⟩ (.slice none 0 0) (.slice none 0 0) := put6_box HZ4.out ⟨3, false, i, []⟩ (.slice none 0 0) (.slice none 0 0)
    have g6 := put6_grown w4 (w.heap.size) (.int .i64 3) (.bool false) (.int .i64 i) (.string ⟨#[]⟩) (.slice none 0 0) (.slice none 0 0)
    change bodyPost _ _ _ _ _ (put6 w4 (w.heap.size) _ _ _ _ _ _)
    generalize put6 w4 (w.heap.size) (.int .i64 3) (.bool false) (.int .i64 i) (.string ⟨#[]⟩) (.slice none 0 0) (.slice none 0 0) = W at *
    exact bodyPost_ret (v := .tuple #[rfV ⟨3, false, i, []⟩ (.slice none 0 0) (.slice none 0 0), .int .i64 0]) (by simp [results, Tryz.results18, go_sem, rfV, e6.c0, e6.c1, e6.c2, e6.c3, e6.c4, e6.c5]) rfl ⟨HG4.out.grown g6 (fun k e => by cases e; omega), Or.inr ⟨_, k + 1, q, _, HX.out, by omega, hq, by omega, by omega, rfl, HR4.out.kept g6 (fun e => by cases e; omega), rst_leaf _ _ n (some (Sum.inr (Sum.inl i)))⟩⟩
theorem rfvalue_any : ∀ n : Nat, RValueOK n
  | n, b, t, p, k, d, w, h, hp, ht, hk, hdn, hd0 => by
    cases hc : skip (rest t p) with
    | nil => exact rfval_end n b t p k d w h hp ht hk hdn hd0 hc
    | cons c r =>
      by_cases ho : c ∈ opens
      · by_cases hk2 : 200 ≤ k
        · exact rfval_large n b t p k d w h hp ht hk hdn hd0 c r hc ho hk2
        have hk3 : k < 200 := by omega
        by_cases h1 : c = 91
        · subst h1
          cases n with
          | zero => exact rfval_deepL 0 b t p k d w h hp ht hk hdn hd0 r hc hk3 rfl
          | succ n => exact rfval_list n b t p k d w (rfvalue_any n) h hp ht hk hdn hd0 r hc hk3
        by_cases h2 : c = 123
        · subst h2
          cases n with
          | zero => exact rfval_deepO 0 b t p k d w h hp ht hk hdn hd0 r hc hk3 rfl
          | succ n => exact rfval_obj n b t p k d w (rfvalue_any n) h hp ht hk hdn hd0 r hc hk3
        by_cases h3 : c = 34
        · subst h3
          exact rfval_text n b t p k d w h hp ht hk hdn hd0 r hc hk3
        by_cases h4 : c = 110
        · subst h4
          exact rfval_null n b t p k d w h hp ht hk hdn hd0 r hc hk3
        by_cases h5 : c = 116
        · subst h5
          exact rfval_true n b t p k d w h hp ht hk hdn hd0 r hc hk3
        by_cases h6 : c = 102
        · subst h6
          exact rfval_false n b t p k d w h hp ht hk hdn hd0 r hc hk3
        exact rfval_num n b t p k d w h hp ht hk hdn hd0 c r hc ho hk3 h1 h2 h3 h4 h5 h6
      · exact rfval_bad n b t p k d w h hp ht hk hdn hd0 c r hc ho
end Go.Proofs.YtaogilpkeeigoaaGreatDoor
/- Contract over this translation of the reference's Read: what a text has, or what is wrong with it. -/
namespace Go.Proofs.YtaogilpkeeigoaaGreatDoor
open Go.RowKit
set_option linter.unusedVariables false
set_option linter.unusedSimpArgs false
def readN (n : Nat) (s : Bs) : Except Nat (J n) :=
  if 2000 < s.length then .error eLarge
  else match value n 0 s with
    | .error e => .error e
    | .ok (j, _, r) => if skip r = [] then .ok j else .error eSyntax
theorem readN_ten (s : Bs) : readN 10 s = read s := by
  unfold readN read
  split
  · rfl
  · cases value 10 0 s <;> rfl
def RReadPost (n : Nat) (r : Except Nat (J n)) (w : World) (e : Ending) (w' : World) : Prop :=
  Below w.heap.size w w' ∧ ((∃ er : Nat, r = .error er ∧ er ≠ 0 ∧ er < 100 ∧ e = .returned (.tuple #[rfV ⟨0, false, 0, []⟩ (.slice none 0 0) (.slice none 0 0), .int .i64 er])) ∨
    ∃ (j : J n) (v : Value), r = .ok j ∧ e = .returned (.tuple #[v, .int .i64 0]) ∧ RSt (fun c => c < w.heap.size) w' n j v)
theorem skip_nil {t : ByteArray} {q : Nat} (hq : q ≤ t.size) : skip (rest t q) = [] ↔ lookOf (rest t (skipAt t q)) = -1 := by
  rw [← rest_skip t q hq]
  cases rest t (skipAt t q) with
  | nil => simp [lookOf]
  | cons c r =>
    simp only [lookOf]
    constructor
    · intro h; cases h
    · intro h; omega
theorem look_ge (r : Bs) (h : lookOf r ≠ -1) : 0 ≤ lookOf r := by
  cases r with
  | nil => exact absurd rfl h
  | cons c r => simp only [lookOf]; omega
set_option maxRecDepth 100000 in
set_option maxHeartbeats 4000000 in
theorem rfread_any (n : Nat) (hn : n = 10) (t : ByteArray) (w : World) : Calls Tryz.prog 6 #[.string t] w (RReadPost n (readN n t.data.toList) w) := by
  have HN : Hid (n = 10) := hn
  clear hn
  obtain ⟨w0, hw0⟩ : ∃ w0, w0 = w.alloc (.cells #[.int .i64 0, .bool false, .int .i64 0, .string ⟨#[]⟩, .slice none 0 0, .slice none 0 0] 25) := ⟨_, rfl⟩
  have HW0 : Hid (w0 = w.alloc (.cells #[.int .i64 0, .bool false, .int .i64 0, .string ⟨#[]⟩, .slice none 0 0, .slice none 0 0] 25)) := hw0
  have HB0 : Hid (Below w.heap.size w w0) := by show Below _ _ _; rw [hw0]; exact (Below.refl _ _).alloc (Nat.le_refl _) _
  have HZ0 : Hid (Box w0 w.heap.size ⟨0, false, 0, []⟩ (.slice none 0 0) (.slice none 0 0)) := by show Box _ _ _ _ _; rw [hw0]; exact box_new w ⟨0, false, 0, []⟩ _ _
  have hs0 : w0.heap.size = w.heap.size + 1 := by rw [hw0]; simp
  have hlen : t.data.toList.length = t.size := by simp
  clear hw0
  by_cases hbig : (2000 : Int) < (t.size : Int)
  · have HX : Hid (readN n t.data.toList = .error 2) := by
      show readN _ _ = _
      unfold readN
      rw [if_pos (by rw [data_len]; omega)]
    clear hlen
    go_enter Tryz.func6, Tryz.ntmps6
    go_wp2_with fail
    rw [← HW0.out]
    exact bodyPost_ret (v := .tuple #[rfV ⟨0, false, 0, []⟩ (.slice none 0 0) (.slice none 0 0), .int .i64 2]) (by simp [results, Tryz.results6, go_sem, rfV, HZ0.out.c0, HZ0.out.c1, HZ0.out.c2, HZ0.out.c3, HZ0.out.c4, HZ0.out.c5]) rfl ⟨HB0.out, Or.inl ⟨2, HX.out, by decide, by decide, rfl⟩⟩
  have ht : t.size ≤ 2000 := by omega
  have HRd : Hid (readN n t.data.toList = match value n 0 (rest t 0) with
    | .error e => .error e
    | .ok (j, _, r) => if skip r = [] then .ok j else .error eSyntax) := by
    show readN _ _ = _
    unfold readN
    rw [if_neg (by rw [data_len]; omega), rest_zero]
  obtain ⟨w1, hw1⟩ : ∃ w1, w1 = w0.alloc (.cells #[.string t, .int .i64 0, .int .i64 0] 48) := ⟨_, rfl⟩
  have HW1 : Hid (w1 = (w.alloc (.cells #[.int .i64 0, .bool false, .int .i64 0, .string ⟨#[]⟩, .slice none 0 0, .slice none 0 0] 25)).alloc (.cells #[.string t, .int .i64 0, .int .i64 0] 48)) := by show w1 = _; rw [hw1, HW0.out]
  have HR1 : Hid (Rf (w.heap.size + 1) t 0 0 w1) := by
    show Rf _ _ _ _ _
    have := heap_alloc_new w0 (.cells #[.string t, .int .i64 0, .int .i64 0] 48)
    rw [hw1, ← hs0]
    exact this
  have HZ1 : Hid (Box w1 w.heap.size ⟨0, false, 0, []⟩ (.slice none 0 0) (.slice none 0 0)) := by show Box _ _ _ _ _; rw [hw1]; exact HZ0.out.alloc _
  have HB1 : Hid (Below w.heap.size w w1) := by show Below _ _ _; rw [hw1]; exact HB0.out.alloc (by omega) _
  have hs1 : w1.heap.size = w.heap.size + 2 := by rw [hw1]; simp; omega
  clear hw1 hlen HW0 HB0 HZ0 hs0
  go_enter Tryz.func6, Tryz.ntmps6
  go_wp2_with fail
  rw [← HW1.out]
  refine (rfvalue_any n (w.heap.size + 1) t 0 0 0 w1 HR1.out (Nat.zero_le _) ht (by omega) (by have := HN.out; omega) (by omega)).mono ?_
  rintro e w2 ⟨g2, h2⟩
  have HZ2 : Hid (Box w2 w.heap.size ⟨0, false, 0, []⟩ (.slice none 0 0) (.slice none 0 0)) := HZ1.out.grown g2 (fun e => by have := Option.some.inj e; omega)
  have HB2 : Hid (Below w.heap.size w w2) := HB1.out.grown g2 (by omega) (fun k e => by cases e; omega)
  have hs2 : w.heap.size + 2 ≤ w2.heap.size := by have := g2.size; omega
  clear g2
  rcases h2 with ⟨er, hh, hv, her, her2, rfl⟩ | ⟨j, k2, q, v, hv, hpq, hq, hkk, hk2, rfl, hR2, hst⟩
  · have HX : Hid (readN n t.data.toList = .error er) := by
      show readN _ _ = _
      rw [HRd.out, hv]
    have hbe : ((er : Int) != 0) = true := by rw [bne_iff_ne]; omega
    have hbe2 : ((er : Int) == 0) = false := by rw [beq_eq_false_iff_ne]; omega
    clear hv
    unfold rfV
    have HZ3 : Hid (∀ o, Box (w2.alloc o) w.heap.size ⟨0, false, 0, []⟩ (.slice none 0 0) (.slice none 0 0)) := fun o => HZ2.out.alloc o
    have f0 := fun o => (HZ3.out o).free 0
    have f1 := fun o => (HZ3.out o).free 1
    have f2 := fun o => (HZ3.out o).free 2
    have f3 := fun o => (HZ3.out o).free 3
    have f4 := fun o => (HZ3.out o).free 4
    have f5 := fun o => (HZ3.out o).free 5
    have z0 := fun o => (HZ3.out o).c0
    have z1 := fun o => (HZ3.out o).c1
    have z2 := fun o => (HZ3.out o).c2
    have z3 := fun o => (HZ3.out o).c3
    have z4 := fun o => (HZ3.out o).c4
    have z5 := fun o => (HZ3.out o).c5
    go_wp2_with fail
    have HZ : Hid (Box (w2.alloc (.cells #[.int .i64 hh.k, .bool hh.b, .int .i64 hh.i, .string ⟨hh.s.toArray⟩, .slice none 0 0, .slice none 0 0] 25)) w.heap.size ⟨0, false, 0, []⟩ (.slice none 0 0) (.slice none 0 0)) := HZ3.out _
    have HB3 : Hid (Below w.heap.size w (w2.alloc (.cells #[.int .i64 hh.k, .bool hh.b, .int .i64 hh.i, .string ⟨hh.s.toArray⟩, .slice none 0 0, .slice none 0 0] 25))) := HB2.out.alloc (by omega) _
    have hs3 : w.heap.size ≤ (w2.alloc (.cells #[.int .i64 hh.k, .bool hh.b, .int .i64 hh.i, .string ⟨hh.s.toArray⟩, .slice none 0 0, .slice none 0 0] 25)).heap.size := by simp; omega
    generalize w2.alloc (.cells #[.int .i64 hh.k, .bool hh.b, .int .i64 hh.i, .string ⟨hh.s.toArray⟩, .slice none 0 0, .slice none 0 0] 25) = w3 at *
    have e6 : Box (put6 w3 (w.heap.size) (.int .i64 0) (.bool false) (.int .i64 0) (.string ⟨#[]⟩) (.slice none 0 0) (.slice none 0 0)) (w.heap.size) ⟨0, false, 0, []⟩ (.slice none 0 0) (.slice none 0 0) := put6_box HZ.out ⟨0, false, 0, []⟩ (.slice none 0 0) (.slice none 0 0)
    have g6 := put6_grown w3 (w.heap.size) (.int .i64 0) (.bool false) (.int .i64 0) (.string ⟨#[]⟩) (.slice none 0 0) (.slice none 0 0)
    change bodyPost _ _ _ _ _ (put6 w3 (w.heap.size) _ _ _ _ _ _)
    generalize put6 w3 (w.heap.size) (.int .i64 0) (.bool false) (.int .i64 0) (.string ⟨#[]⟩) (.slice none 0 0) (.slice none 0 0) = W at *
    exact bodyPost_ret (v := .tuple #[rfV ⟨0, false, 0, []⟩ (.slice none 0 0) (.slice none 0 0), .int .i64 er]) (by simp [results, Tryz.results6, go_sem, rfV, e6.c0, e6.c1, e6.c2, e6.c3, e6.c4, e6.c5]) rfl ⟨HB3.out.grown g6 hs3 (fun k e => by cases e; exact Nat.le_refl _), Or.inl ⟨er, HX.out, her, her2, rfl⟩⟩
  obtain ⟨h0, nm1, l1, rfl⟩ : ∃ h nm l, v = rfV h nm l := ⟨_, rst_form hst⟩
  obtain ⟨⟨p1, n1, c1, rfl⟩, p2, n2, c2, rfl⟩ := rst_sl hst
  have HV3 : Hid (Box (w2.alloc (.cells #[.int .i64 h0.k, .bool h0.b, .int .i64 h0.i, .string ⟨h0.s.toArray⟩, .slice p1 n1 c1, .slice p2 n2 c2] 25)) w2.heap.size h0 (.slice p1 n1 c1) (.slice p2 n2 c2)) := box_new w2 _ _ _
  have HSt3 : Hid (RSt (fun c => c < w.heap.size + 2) (w2.alloc (.cells #[.int .i64 h0.k, .bool h0.b, .int .i64 h0.i, .string ⟨h0.s.toArray⟩, .slice p1 n1 c1, .slice p2 n2 c2] 25)) n j (rfV h0 (.slice p1 n1 c1) (.slice p2 n2 c2))) := (hst.wide (fun c e => Or.inl (by omega))).alloc _
  have HR3 : Hid (Rf (w.heap.size + 1) t q k2 (w2.alloc (.cells #[.int .i64 h0.k, .bool h0.b, .int .i64 h0.i, .string ⟨h0.s.toArray⟩, .slice p1 n1 c1, .slice p2 n2 c2] 25))) := hR2.alloc _
  have HZ3 : Hid (Box (w2.alloc (.cells #[.int .i64 h0.k, .bool h0.b, .int .i64 h0.i, .string ⟨h0.s.toArray⟩, .slice p1 n1 c1, .slice p2 n2 c2] 25)) w.heap.size ⟨0, false, 0, []⟩ (.slice none 0 0) (.slice none 0 0)) := HZ2.out.alloc _
  have HB3 : Hid (Below w.heap.size w (w2.alloc (.cells #[.int .i64 h0.k, .bool h0.b, .int .i64 h0.i, .string ⟨h0.s.toArray⟩, .slice p1 n1 c1, .slice p2 n2 c2] 25))) := HB2.out.alloc (by omega) _
  have hs3 : w.heap.size + 2 ≤ (w2.alloc (.cells #[.int .i64 h0.k, .bool h0.b, .int .i64 h0.i, .string ⟨h0.s.toArray⟩, .slice p1 n1 c1, .slice p2 n2 c2] 25)).heap.size := by simp; omega
  have HVal : Hid (value n 0 (rest t 0) = .ok (j, k2, rest t q)) := hv
  have hw2 : w.heap.size + 2 ≤ w2.heap.size := hs2
  clear hst hR2 hv hs2
  unfold rfV
  obtain ⟨v2, hv2⟩ : ∃ v2, v2 = w2.heap.size := ⟨_, rfl⟩
  rw [← hv2] at HV3 hw2
  go_wp2_with fail
  rw [← hv2]
  clear hv2
  generalize w2.alloc (.cells #[.int .i64 h0.k, .bool h0.b, .int .i64 h0.i, .string ⟨h0.s.toArray⟩, .slice p1 n1 c1, .slice p2 n2 c2] 25) = w3 at *
  refine (look_any (w.heap.size + 1) t q k2 w3 HR3.out hq ht).mono ?_
  rintro e w4 ⟨rfl, g4, r4⟩
  have HV4 : Hid (Box w4 v2 h0 (.slice p1 n1 c1) (.slice p2 n2 c2)) := HV3.out.grown g4 (fun e => by have := Option.some.inj e; omega)
  have HSt4 : Hid (RSt (fun c => c < w.heap.size + 2) w4 n j (rfV h0 (.slice p1 n1 c1) (.slice p2 n2 c2))) := HSt3.out.grown g4 (fun k e => by cases e; omega)
  have HZ4 : Hid (Box w4 w.heap.size ⟨0, false, 0, []⟩ (.slice none 0 0) (.slice none 0 0)) := HZ3.out.grown g4 (fun e => by have := Option.some.inj e; omega)
  have HB4 : Hid (Below w.heap.size w w4) := HB3.out.grown g4 (by omega) (fun k e => by cases e; omega)
  have hs4 : w.heap.size ≤ w4.heap.size := by have := g4.size; omega
  clear g4 r4
  by_cases hl : lookOf (rest t (skipAt t q)) = -1
  · have HX : Hid (readN n t.data.toList = .ok j) := by
      show readN _ _ = _
      rw [HRd.out, HVal.out]
      simp only []
      rw [if_pos ((skip_nil hq).2 hl)]
    rw [hl]
    clear hl
    have v0 := HV4.out.c0
    have v1 := HV4.out.c1
    have v2 := HV4.out.c2
    have v3 := HV4.out.c3
    have v4 := HV4.out.c4
    have v5 := HV4.out.c5
    have f0 := HZ4.out.free 0
    have f1 := HZ4.out.free 1
    have f2 := HZ4.out.free 2
    have f3 := HZ4.out.free 3
    have f4 := HZ4.out.free 4
    have f5 := HZ4.out.free 5
    have z0 := HZ4.out.c0
    have z1 := HZ4.out.c1
    have z2 := HZ4.out.c2
    have z3 := HZ4.out.c3
    have z4 := HZ4.out.c4
    have z5 := HZ4.out.c5
    go_wp2_with fail
    have e6 : Box (put6 w4 (w.heap.size) (.int .i64 (h0).k) (.bool (h0).b) (.int .i64 (h0).i) (.string ⟨(h0).s.toArray⟩) (.slice p1 n1 c1) (.slice p2 n2 c2)) (w.heap.size) (h0) (.slice p1 n1 c1) (.slice p2 n2 c2) := put6_box HZ4.out (h0) (.slice p1 n1 c1) (.slice p2 n2 c2)
    have g6 := put6_grown w4 (w.heap.size) (.int .i64 (h0).k) (.bool (h0).b) (.int .i64 (h0).i) (.string ⟨(h0).s.toArray⟩) (.slice p1 n1 c1) (.slice p2 n2 c2)
    change bodyPost _ _ _ _ _ (put6 w4 (w.heap.size) _ _ _ _ _ _)
    generalize put6 w4 (w.heap.size) (.int .i64 (h0).k) (.bool (h0).b) (.int .i64 (h0).i) (.string ⟨(h0).s.toArray⟩) (.slice p1 n1 c1) (.slice p2 n2 c2) = W at *
    exact bodyPost_ret (v := .tuple #[rfV (h0) (.slice p1 n1 c1) (.slice p2 n2 c2), .int .i64 0]) (by simp [results, Tryz.results6, go_sem, rfV, e6.c0, e6.c1, e6.c2, e6.c3, e6.c4, e6.c5]) rfl ⟨HB4.out.grown g6 hs4 (fun k e => by cases e; exact Nat.le_refl _), Or.inr ⟨j, _, HX.out, rfl, (HSt4.out.grown g6 (fun k e => by cases e; omega)).wide (fun c e => Or.inl (by omega))⟩⟩
  · have HX : Hid (readN n t.data.toList = .error 3) := by
      show readN _ _ = _
      rw [HRd.out, HVal.out]
      simp only []
      rw [if_neg (fun e => hl ((skip_nil hq).1 e))]
    have hg := look_ge _ hl
    clear hl
    generalize lookOf (rest t (skipAt t q)) = lk at *
    have f0 := HZ4.out.free 0
    have f1 := HZ4.out.free 1
    have f2 := HZ4.out.free 2
    have f3 := HZ4.out.free 3
    have f4 := HZ4.out.free 4
    have f5 := HZ4.out.free 5
    have z0 := HZ4.out.c0
    have z1 := HZ4.out.c1
    have z2 := HZ4.out.c2
    have z3 := HZ4.out.c3
    have z4 := HZ4.out.c4
    have z5 := HZ4.out.c5
    go_wp2_with fail
    have e6 : Box (put6 w4 (w.heap.size) (.int .i64 0) (.bool false) (.int .i64 0) (.string ⟨#[]⟩) (.slice none 0 0) (.slice none 0 0)) (w.heap.size) ⟨0, false, 0, []⟩ (.slice none 0 0) (.slice none 0 0) := put6_box HZ4.out ⟨0, false, 0, []⟩ (.slice none 0 0) (.slice none 0 0)
    have g6 := put6_grown w4 (w.heap.size) (.int .i64 0) (.bool false) (.int .i64 0) (.string ⟨#[]⟩) (.slice none 0 0) (.slice none 0 0)
    change bodyPost _ _ _ _ _ (put6 w4 (w.heap.size) _ _ _ _ _ _)
    generalize put6 w4 (w.heap.size) (.int .i64 0) (.bool false) (.int .i64 0) (.string ⟨#[]⟩) (.slice none 0 0) (.slice none 0 0) = W at *
    exact bodyPost_ret (v := .tuple #[rfV ⟨0, false, 0, []⟩ (.slice none 0 0) (.slice none 0 0), .int .i64 3]) (by simp [results, Tryz.results6, go_sem, rfV, e6.c0, e6.c1, e6.c2, e6.c3, e6.c4, e6.c5]) rfl ⟨HB4.out.grown g6 hs4 (fun k e => by cases e; exact Nat.le_refl _), Or.inl ⟨3, HX.out, by decide, by decide, rfl⟩⟩
end Go.Proofs.YtaogilpkeeigoaaGreatDoor
/- Plain facts: texts in which all of one text is replaced by another, and texts cut at a sign, sign by sign. -/
namespace Go.Proofs.YtaogilpkeeigoaaGreatDoor
set_option linter.unusedVariables false
set_option linter.unusedSimpArgs false
theorem index_cons (b : UInt8) (l sub : Bs) (h : sub.isPrefixOf (b :: l) = false) : Lib.index (b :: l) sub = if Lib.index l sub == -1 then -1 else Lib.index l sub + 1 := by
  rw [Lib.index, h]
  simp
theorem index_pre (s sub : Bs) (h : sub.isPrefixOf s = true) (hs : s ≠ []) : Lib.index s sub = ((0 : Nat) : Int) := by
  cases s with
  | nil => exact absurd rfl hs
  | cons b l =>
    rw [Lib.index, h]
    simp
theorem index_nil (sub : Bs) (h : sub ≠ []) : Lib.index [] sub = -1 := by
  cases sub with
  | nil => exact absurd rfl h
  | cons c r => simp [Lib.index]
def rep (old new s : Bs) : Bs := Lib.replaceK old new (Lib.count s old) s
theorem replaceAll_rep (s old new : Bs) (h : old ≠ new) : Lib.replaceAll s old new = rep old new s := by
  unfold Lib.replaceAll Lib.replace rep
  rw [if_neg (by simpa using h)]
  unfold Lib.replaceNum
  rw [if_pos (Or.inl (by decide))]
theorem rep_nil (old new : Bs) (h : old ≠ []) : rep old new [] = [] := by
  unfold rep
  rw [Lib.count_miss (index_nil old h)]
  rfl
theorem rep_hit (old new s : Bs) (h : old ≠ []) (hp : old.isPrefixOf s = true) : rep old new s = new ++ rep old new (s.drop old.length) := by
  have hs : s ≠ [] := by
    rintro rfl
    cases old with
    | nil => exact h rfl
    | cons c r => simp at hp
  have hi := index_pre s old hp hs
  unfold rep
  rw [Lib.count_hit (by simpa using h) hi, Nat.zero_add, Nat.add_comm, Lib.replaceK_hit _ _ _ _ 0 hi]
  simp
theorem rep_miss (old new : Bs) (b : UInt8) (l : Bs) (h : old ≠ []) (hp : old.isPrefixOf (b :: l) = false) : rep old new (b :: l) = b :: rep old new l := by
  have hx := index_cons b l old hp
  unfold rep
  by_cases hm : Lib.index l old = -1
  · rw [Lib.count_miss hm, Lib.count_miss (by rw [hx, if_pos (beq_iff_eq.2 hm)])]
    rfl
  · have hge := Lib.index_ge l old
    obtain ⟨j, hj⟩ : ∃ j : Nat, Lib.index l old = j := ⟨(Lib.index l old).toNat, by omega⟩
    have hx' : Lib.index (b :: l) old = ((j + 1 : Nat) : Int) := by rw [hx, if_neg (fun e => hm (beq_iff_eq.1 e)), hj]; omega
    have e1 : (b :: l).drop (j + 1 + old.length) = l.drop (j + old.length) := by
      rw [show j + 1 + old.length = (j + old.length) + 1 from by omega]
      rfl
    rw [Lib.count_hit (by simpa using h) hj, Lib.count_hit (by simpa using h) hx', e1, Nat.add_comm 1, Lib.replaceK_hit _ _ _ _ (j + 1) hx', Lib.replaceK_hit _ _ _ _ j hj, e1]
    simp
/-- one sign -/
theorem rep_one (c : UInt8) (new : Bs) : ∀ s : Bs, rep [c] new s = s.flatMap fun b => if b = c then new else [b]
  | [] => rep_nil _ _ (by simp)
  | b :: l => by
    by_cases h : b = c
    · subst h
      rw [rep_hit [b] new (b :: l) (by simp) (by simp), List.flatMap_cons, if_pos rfl]
      simp only [List.length_singleton, List.drop_succ_cons, List.drop_zero]
      rw [rep_one b new l]
    · rw [rep_miss [c] new b l (by simp) (by simp [List.isPrefixOf, Ne.symm h]), List.flatMap_cons, if_neg h, rep_one c new l]
      rfl
/-- a text, cut at each sign c -/
def parts (c : UInt8) : Bs → List Bs
  | [] => [[]]
  | b :: l => if b = c then [] :: parts c l else match parts c l with
    | [] => [[b]]
    | x :: r => (b :: x) :: r
theorem parts_ne (c : UInt8) : ∀ s : Bs, parts c s ≠ []
  | [] => by simp [parts]
  | b :: l => by
    rw [parts]
    split
    · simp
    · split <;> simp
theorem parts_len (c : UInt8) : ∀ s : Bs, (parts c s).length = s.count c + 1
  | [] => rfl
  | b :: l => by
    have ih := parts_len c l
    have hn := parts_ne c l
    rw [parts]
    split
    · rename_i h
      subst h
      rw [List.length_cons, ih, List.count_cons_self]
    · rename_i h
      rw [List.count_cons_of_ne h]
      cases hp : parts c l with
      | nil => exact absurd hp hn
      | cons x r =>
        rw [hp] at ih
        simpa using ih
theorem part_le_len (c : UInt8) : ∀ (s x : Bs), x ∈ parts c s → x.length ≤ s.length
  | [], x, h => by
    simp [parts] at h
    subst h
    exact Nat.le_refl _
  | b :: l, x, h => by
    have ih := part_le_len c l
    have hn := parts_ne c l
    rw [parts] at h
    split at h
    · rcases List.mem_cons.1 h with rfl | h
      · simp
      · have := ih x h
        simp only [List.length_cons]
        omega
    · cases hp : parts c l with
      | nil => exact absurd hp hn
      | cons y ys =>
        rw [hp] at h ih
        simp only [] at h
        rcases List.mem_cons.1 h with rfl | h
        · have := ih y (by simp)
          simp only [List.length_cons]
          omega
        · have := ih x (by simp [h])
          simp only [List.length_cons]
          omega
theorem split_parts (c : UInt8) : ∀ s : Bs, Lib.splitK [c] 0 (Lib.count s [c]) s = parts c s
  | [] => by
    rw [Lib.count_miss (index_nil [c] (by simp))]
    rfl
  | b :: l => by
    have ih := split_parts c l
    by_cases h : b = c
    · subst h
      have hi := index_pre (b :: l) [b] (by simp) (by simp)
      rw [Lib.count_cons_eq, Nat.add_comm, parts, if_pos rfl, ← ih]
      have hm : ¬ (Lib.index (b :: l) [b] == -1) = true := fun e => by have := beq_iff_eq.1 e; omega
      rw [Lib.splitK, if_neg hm, hi]
      simp
    · have hp : ([c] : Bs).isPrefixOf (b :: l) = false := by simp [List.isPrefixOf, Ne.symm h]
      have hx := index_cons b l [c] hp
      rw [Lib.count_cons_ne b c l h, parts, if_neg h, ← ih]
      by_cases hm : Lib.index l [c] = -1
      · rw [Lib.count_miss hm]
        rfl
      · have hge := Lib.index_ge l [c]
        obtain ⟨j, hj⟩ : ∃ j : Nat, Lib.index l [c] = j := ⟨(Lib.index l [c]).toNat, by omega⟩
        have hx' : Lib.index (b :: l) [c] = ((j + 1 : Nat) : Int) := by rw [hx, if_neg (fun e => hm (beq_iff_eq.1 e)), hj]; omega
        rw [Lib.count_hit (by simp) hj, Nat.add_comm 1]
        have m1 : ¬ (Lib.index (b :: l) [c] == -1) = true := fun e => by have := beq_iff_eq.1 e; omega
        have m2 : ¬ (Lib.index l [c] == -1) = true := fun e => by have := beq_iff_eq.1 e; omega
        rw [Lib.splitK, Lib.splitK, if_neg m1, if_neg m2, hj, hx']
        simp
/-! Pointers. -/
def esc (c : UInt8) : Bs := if c = 126 then [126, 48] else if c = 47 then [126, 49] else [c]
/-- a step as it is written -/
def written (s : Bs) : Bs := s.flatMap esc
/-- no sign stands for nothing -/
def noStray : Bs → Bool
  | [] => true
  | c :: r => if c = 126 then (match r with
    | [] => false
    | d :: r' => (d == 48 || d == 49) && noStray r')
    else noStray r
/-- a step as it is meant -/
def meantB : Bs → Bs
  | [] => []
  | c :: r => if c = 126 then (match r with
    | [] => [c]
    | d :: r' => (if d = 49 then 47 else 126) :: meantB r')
    else c :: meantB r
theorem noStray_tilde (d : UInt8) (r : Bs) : noStray (126 :: d :: r) = ((d == 48 || d == 49) && noStray r) := by rw [noStray]; simp
theorem noStray_other (c : UInt8) (r : Bs) (h : c ≠ 126) : noStray (c :: r) = noStray r := by cases r <;> simp [noStray, h]
theorem meantB_other (c : UInt8) (r : Bs) (h : c ≠ 126) : meantB (c :: r) = c :: meantB r := by cases r <;> simp [meantB, h]
theorem meantB_tilde (d : UInt8) (r : Bs) : meantB (126 :: d :: r) = (if d = 49 then 47 else 126) :: meantB r := by rw [meantB]; simp
/-- what the two replacements make of a step -/
theorem rep_meant : ∀ (k : Nat) (s : Bs), s.length ≤ k → noStray s = true → rep [126, 48] [126] (rep [126, 49] [47] s) = meantB s
  | k, [], _, _ => by rw [rep_nil _ _ (by simp), rep_nil _ _ (by simp)]; rfl
  | 0, c :: r, hk, _ => by simp at hk
  | k + 1, c :: r, hk, h => by
    by_cases hc : c = 126
    · subst hc
      cases r with
      | nil => simp [noStray] at h
      | cons d r =>
        rw [noStray_tilde] at h
        have h2 : noStray r = true := by simp at h; exact h.2
        have ih := rep_meant k r (by simp at hk; omega) h2
        rw [meantB_tilde, ← ih]
        by_cases hd : d = 49
        · subst hd
          rw [rep_hit [126, 49] [47] (126 :: 49 :: r) (by simp) (by simp)]
          simp only [List.length_cons, List.length_nil, List.drop_succ_cons, List.drop_zero, List.singleton_append]
          rw [rep_miss [126, 48] [126] 47 _ (by simp) (by simp [List.isPrefixOf]), if_pos trivial]
        · have hd0 : d = 48 := by simp [hd] at h; exact h.1
          subst hd0
          rw [rep_miss [126, 49] [47] 126 (48 :: r) (by simp) (by simp [List.isPrefixOf]), rep_miss [126, 49] [47] 48 r (by simp) (by simp [List.isPrefixOf])]
          rw [rep_hit [126, 48] [126] (126 :: 48 :: rep [126, 49] [47] r) (by simp) (by simp)]
          simp
    · rw [noStray_other c r hc] at h
      have ih := rep_meant k r (by simp at hk; omega) h
      rw [meantB_other c r hc, ← ih, rep_miss [126, 49] [47] c r (by simp) (by simp [List.isPrefixOf, Ne.symm hc]), rep_miss [126, 48] [126] c _ (by simp) (by simp [List.isPrefixOf, Ne.symm hc])]
theorem rep_written (s : Bs) : rep [47] [126, 49] (rep [126] [126, 48] s) = written s := by
  rw [rep_one, rep_one]
  unfold written
  rw [List.flatMap_assoc]
  congr 1
  funext b
  unfold esc
  by_cases h : b = 126
  · subst h; decide
  · by_cases h2 : b = 47
    · subst h2; decide
    · simp [h, h2]
/-- one for one -/
theorem written_fine : ∀ s : Bs, noStray (written s) = true ∧ meantB (written s) = s ∧ 47 ∉ written s
  | [] => ⟨rfl, rfl, by simp [written]⟩
  | c :: r => by
    obtain ⟨h1, h2, h3⟩ := written_fine r
    have e : written (c :: r) = esc c ++ written r := rfl
    rw [e]
    unfold esc
    by_cases hc : c = 126
    · subst hc
      rw [if_pos rfl]
      simp only [List.cons_append, List.nil_append]
      rw [noStray_tilde, meantB_tilde]
      refine ⟨by simp [h1], by simp [h2], by simp [h3]⟩
    · by_cases h47 : c = 47
      · subst h47
        rw [if_neg (by decide), if_pos rfl]
        simp only [List.cons_append, List.nil_append]
        rw [noStray_tilde, meantB_tilde]
        refine ⟨by simp [h1], by simp [h2], by simp [h3]⟩
      · rw [if_neg hc, if_neg h47]
        simp only [List.cons_append, List.nil_append]
        rw [noStray_other c _ hc, meantB_other c _ hc]
        exact ⟨h1, by rw [h2], by simp [h3, Ne.symm h47]⟩
theorem meant_back : ∀ (k : Nat) (s : Bs), s.length ≤ k → noStray s = true → 47 ∉ s → written (meantB s) = s
  | _, [], _, _, _ => rfl
  | 0, c :: r, hk, _, _ => by simp at hk
  | k + 1, c :: r, hk, h, hn => by
    by_cases hc : c = 126
    · subst hc
      cases r with
      | nil => simp [noStray] at h
      | cons d r =>
        rw [noStray_tilde] at h
        have h2 : noStray r = true := by simp at h; exact h.2
        have ih := meant_back k r (by simp at hk; omega) h2 (by simp at hn; exact hn.2)
        rw [meantB_tilde]
        have e : ∀ x, written (x :: meantB r) = esc x ++ written (meantB r) := fun x => rfl
        rw [e, ih]
        by_cases hd : d = 49
        · subst hd; rfl
        · have hd0 : d = 48 := by simp [hd] at h; exact h.1
          subst hd0; rfl
    · rw [noStray_other c r hc] at h
      have ih := meant_back k r (by simp at hk; omega) h (by simp at hn; exact hn.2)
      rw [meantB_other c r hc]
      have e : written (c :: meantB r) = esc c ++ written (meantB r) := rfl
      rw [e, ih]
      unfold esc
      rw [if_neg hc, if_neg (by simp at hn; exact Ne.symm hn.1)]
      rfl
abbrev eForm : Nat := 16
abbrev eNone : Nat := 7
abbrev eArg : Nat := 1
/-- what a pointer's steps are, or what is wrong with it -/
def stepsE (p : Bs) : Except Nat (List Bs) :=
  if p = [] then .ok []
  else if hd p ≠ 47 ∨ noStray p = false then .error eForm
  else if 10 < p.count 47 then .error eLarge
  else .ok ((parts 47 p.tail).map meantB)
def joinB : List Bs → Bs
  | [] => []
  | s :: r => 47 :: (written s ++ joinB r)
def joinE (l : List Bs) : Except Nat Bs := if 10 < l.length then .error eLarge else .ok (joinB l)
theorem parts_stray : ∀ (k : Nat) (s : Bs), s.length ≤ k → noStray s = true → ∀ x ∈ parts 47 s, noStray x = true ∧ 47 ∉ x
  | _, [], _, _, x, hx => by
    simp [parts] at hx
    subst hx
    exact ⟨rfl, by simp⟩
  | 0, c :: r, hk, _, _, _ => by simp at hk
  | k + 1, c :: r, hk, h, x, hx => by
    by_cases h47 : c = 47
    · subst h47
      rw [parts, if_pos rfl] at hx
      rw [noStray_other 47 r (by decide)] at h
      rcases List.mem_cons.1 hx with rfl | hx
      · exact ⟨rfl, by simp⟩
      · exact parts_stray k r (by simp at hk; omega) h x hx
    · by_cases hc : c = 126
      · subst hc
        cases r with
        | nil => simp [noStray] at h
        | cons d r =>
          rw [noStray_tilde] at h
          have h2 : noStray r = true := by simp at h; exact h.2
          have hd : d = 48 ∨ d = 49 := by simp at h; exact h.1
          have hd47 : d ≠ 47 := by rcases hd with rfl | rfl <;> decide
          have hn := parts_ne 47 r
          have ih := parts_stray k r (by simp at hk; omega) h2
          rw [parts, if_neg (by decide), parts, if_neg hd47] at hx
          cases hp : parts 47 r with
          | nil => exact absurd hp hn
          | cons y ys =>
            rw [hp] at hx ih
            simp only [] at hx
            rcases List.mem_cons.1 hx with rfl | hx
            · have hy := ih y (by simp)
              rw [noStray_tilde]
              refine ⟨by rcases hd with rfl | rfl <;> simp [hy.1], ?_⟩
              intro hm
              rcases List.mem_cons.1 hm with e | hm
              · exact absurd e (by decide)
              · rcases List.mem_cons.1 hm with e | hm
                · exact hd47 e.symm
                · exact hy.2 hm
            · exact ih x (by simp [hx])
      · rw [noStray_other c r hc] at h
        have hn := parts_ne 47 r
        have ih := parts_stray k r (by simp at hk; omega) h
        rw [parts, if_neg h47] at hx
        cases hp : parts 47 r with
        | nil => exact absurd hp hn
        | cons y ys =>
          rw [hp] at hx ih
          simp only [] at hx
          rcases List.mem_cons.1 hx with rfl | hx
          · have hy := ih y (by simp)
            rw [noStray_other c y hc]
            refine ⟨hy.1, ?_⟩
            intro hm
            rcases List.mem_cons.1 hm with e | hm
            · exact h47 e.symm
            · exact hy.2 hm
          · exact ih x (by simp [hx])
/-- the parts, with the sign ahead of each, are the text -/
def slashes : List Bs → Bs
  | [] => []
  | x :: r => 47 :: (x ++ slashes r)
theorem slashes_parts : ∀ s : Bs, slashes (parts 47 s) = 47 :: s
  | [] => rfl
  | c :: r => by
    have ih := slashes_parts r
    have hn := parts_ne 47 r
    rw [parts]
    split
    · rename_i h
      subst h
      show 47 :: ([] ++ slashes (parts 47 r)) = _
      rw [ih]
      rfl
    · cases hp : parts 47 r with
      | nil => exact absurd hp hn
      | cons y ys =>
        rw [hp] at ih
        have e : 47 :: (y ++ slashes ys) = 47 :: r := ih
        have e2 : y ++ slashes ys = r := by simpa using e
        show 47 :: (c :: y ++ slashes ys) = _
        rw [List.cons_append, e2]
theorem parts_none : ∀ x : Bs, 47 ∉ x → parts 47 x = [x]
  | [], _ => rfl
  | c :: x, h => by
    rw [parts, if_neg (by simp at h; exact Ne.symm h.1), parts_none x (by simp at h; exact h.2)]
theorem parts_cut : ∀ (x : Bs) (s : Bs), 47 ∉ x → parts 47 (x ++ 47 :: s) = x :: parts 47 s
  | [], s, _ => by
    show parts 47 (47 :: s) = _
    rw [parts, if_pos rfl]
  | c :: x, s, h => by
    show parts 47 (c :: (x ++ 47 :: s)) = _
    rw [parts, if_neg (by simp at h; exact Ne.symm h.1), parts_cut x s (by simp at h; exact h.2)]
theorem parts_slashes : ∀ (x : Bs) (l : List Bs), (∀ y ∈ x :: l, 47 ∉ y) → parts 47 (x ++ slashes l) = x :: l
  | x, [], h => by
    show parts 47 (x ++ []) = _
    rw [List.append_nil]
    exact parts_none x (h x (by simp))
  | x, y :: l, h => by
    show parts 47 (x ++ 47 :: (y ++ slashes l)) = _
    rw [parts_cut x _ (h x (by simp)), parts_slashes y l (fun z hz => h z (by simp at hz ⊢; exact Or.inr hz))]
theorem joinB_slashes (l : List Bs) : joinB l = slashes (l.map written) := by
  induction l with
  | nil => rfl
  | cons s r ih => simp [joinB, slashes, ih]
theorem noStray_app : ∀ (k : Nat) (x y : Bs), x.length ≤ k → noStray x = true → noStray (x ++ y) = noStray y
  | _, [], y, _, _ => rfl
  | 0, c :: r, y, hk, _ => by simp at hk
  | k + 1, c :: r, y, hk, h => by
    by_cases hc : c = 126
    · subst hc
      cases r with
      | nil => simp [noStray] at h
      | cons d r =>
        rw [noStray_tilde] at h
        have h2 : noStray r = true := by simp at h; exact h.2
        have h1 : (d == 48 || d == 49) = true := by simp at h ⊢; exact h.1
        show noStray (126 :: d :: (r ++ y)) = _
        rw [noStray_tilde, h1, Bool.true_and, noStray_app k r y (by simp at hk; omega) h2]
    · rw [noStray_other c r hc] at h
      show noStray (c :: (r ++ y)) = _
      rw [noStray_other c _ hc, noStray_app k r y (by simp at hk; omega) h]
theorem joinB_fine (l : List Bs) : noStray (joinB l) = true := by
  induction l with
  | nil => rfl
  | cons s r ih =>
    show noStray (47 :: (written s ++ joinB r)) = true
    rw [noStray_other 47 _ (by decide), noStray_app _ _ _ (Nat.le_refl _) (written_fine s).1, ih]
theorem joinB_count (l : List Bs) : (joinB l).count 47 = l.length := by
  induction l with
  | nil => rfl
  | cons s r ih =>
    show (47 :: (written s ++ joinB r)).count 47 = _
    rw [List.count_cons_self, List.count_append, ih, List.count_eq_zero.2 (written_fine s).2.2]
    simp
/-- steps, written and read again -/
theorem steps_join (l : List Bs) (h : l.length ≤ 10) : stepsE (joinB l) = .ok l := by
  cases l with
  | nil => rfl
  | cons s r =>
    have e : joinB (s :: r) = 47 :: (written s ++ joinB r) := rfl
    have hc := joinB_count (s :: r)
    have hf := joinB_fine (s :: r)
    unfold stepsE
    rw [if_neg (by rw [e]; simp), if_neg (by rw [hf, e]; simp [hd]), if_neg (by rw [hc]; omega)]
    have e2 : (joinB (s :: r)).tail = written s ++ slashes (r.map written) := by rw [e, ← joinB_slashes]; rfl
    rw [e2, parts_slashes (written s) (r.map written) (fun y hy => by
      rcases List.mem_cons.1 hy with rfl | hy
      · exact (written_fine s).2.2
      · obtain ⟨z, _, rfl⟩ := List.mem_map.1 hy
        exact (written_fine z).2.2)]
    have e3 : (r.map written).map meantB = r := by
      rw [List.map_map]
      exact (List.map_congr_left (g := id) (fun x _ => (written_fine x).2.1)).trans (List.map_id _)
    rw [List.map_cons, (written_fine s).2.1, e3]
/-- a pointer's steps, written, are the pointer -/
theorem join_steps {p : Bs} {l : List Bs} (h : stepsE p = .ok l) : joinB l = p ∧ l.length ≤ 10 := by
  unfold stepsE at h
  split at h
  · rename_i hp
    cases h
    exact ⟨hp.symm, by simp⟩
  · rename_i hp
    split at h
    · cases h
    · rename_i hq
      split at h
      · cases h
      · rename_i hr
        cases h
        cases p with
        | nil => exact absurd rfl hp
        | cons c p =>
          have hc : c = 47 := by
            have : ¬ hd (c :: p) ≠ 47 := fun e => hq (Or.inl e)
            simpa [hd] using this
          subst hc
          have hs : noStray p = true := by
            have : ¬ noStray (47 :: p) = false := fun e => hq (Or.inr e)
            rw [noStray_other 47 p (by decide)] at this
            simpa using this
          refine ⟨?_, ?_⟩
          · have e : (parts 47 p).map (written ∘ meantB) = parts 47 p := (List.map_congr_left (g := id) (fun x hx => by
              have := parts_stray _ p (Nat.le_refl _) hs x hx
              exact meant_back _ x (Nat.le_refl _) this.1 this.2)).trans (List.map_id _)
            rw [joinB_slashes, List.map_map, List.tail_cons, e]
            exact slashes_parts p
          · rw [List.length_map, List.tail_cons, parts_len]
            rw [List.count_cons_self] at hr
            omega
theorem steps_inj {p q : Bs} {l : List Bs} (h : stepsE p = .ok l) (g : stepsE q = .ok l) : p = q := by
  rw [← (join_steps h).1, ← (join_steps g).1]
theorem esc_pos (c : UInt8) : 1 ≤ (esc c).length := by
  unfold esc
  split
  · simp
  · split <;> simp
theorem written_ge : ∀ s : Bs, s.length ≤ (written s).length
  | [] => Nat.le_refl _
  | c :: s => by
    have := written_ge s
    have e : written (c :: s) = esc c ++ written s := rfl
    have h := esc_pos c
    rw [e, List.length_append, List.length_cons]
    omega
theorem sum_le_join (l : List Bs) : (l.map List.length).sum ≤ (joinB l).length := by
  induction l with
  | nil => simp
  | cons x l ih =>
    have := written_ge x
    simp only [joinB, List.length_cons, List.length_append, List.map_cons, List.sum_cons]
    omega
theorem steps_sum {p : Bs} {l : List Bs} (h : stepsE p = .ok l) : (l.map List.length).sum ≤ p.length := by
  have h1 := sum_le_join l
  rw [(join_steps h).1] at h1
  exact h1
theorem len_le_sum (l : List Bs) (k : Nat) (h : k < l.length) : l[k].length ≤ (l.map List.length).sum := by
  induction l generalizing k with
  | nil => simp at h
  | cons x l ih =>
    cases k with
    | zero => simp
    | succ k =>
      have := ih k (by simpa using h)
      simp only [List.getElem_cons_succ, List.map_cons, List.sum_cons]
      omega
end Go.Proofs.YtaogilpkeeigoaaGreatDoor
/- Room for what strings.ReplaceAll makes: plain facts. -/
namespace Go.Proofs.YtaogilpkeeigoaaGreatDoor
open Go.RowKit
set_option linter.unusedVariables false
set_option linter.unusedSimpArgs false
theorem rep_one_len (c : UInt8) (new : Bs) (hn : new.length ≤ 2) : ∀ s : Bs, (rep [c] new s).length ≤ 2 * s.length := by
  intro s
  rw [rep_one]
  induction s with
  | nil => simp
  | cons b s ih =>
    rw [List.flatMap_cons, List.length_append, List.length_cons]
    have : (if b = c then new else [b]).length ≤ 2 := by split <;> simp [hn]
    omega
theorem room_rep (s old new : ByteArray) (h1 : 1 ≤ old.size) (hn : new.size ≤ 2) (hs : s.size ≤ 100000000) : s.size + Lib.countB s old * new.size ≤ 140737488355328 := by
  have h := Lib.countB_le old h1 _ s (Nat.le_refl _)
  have := Nat.mul_le_mul h hn
  omega
def Room (w : World) : Prop := 0 < w.heap.size ∧ ∃ m, w.cell? ⟨0, 0, none⟩ = some (.int .i64 m)
theorem Room.below {w w' : World} (h : Room w) (hb : Below w.heap.size w w') : Room w' := by
  obtain ⟨h0, m, hm⟩ := h
  exact ⟨by have := hb.size; omega, m, by rw [hb.cell (p := ⟨0, 0, none⟩) h0]; exact hm⟩
theorem Room.of {w : World} {m : Int} (h : w.cell? ⟨0, 0, none⟩ = some (.int .i64 m)) : Room w := by
  refine ⟨?_, m, h⟩
  rcases Nat.eq_zero_or_pos w.heap.size with h0 | h0
  · simp [World.cell?, h0] at h
  · exact h0
theorem size_ofR (l : Bs) : (⟨l.toArray⟩ : ByteArray).size = l.length := by simp [ByteArray.size]
theorem ba_self (a : ByteArray) : (⟨a.data.toList.toArray⟩ : ByteArray) = a := by cases a; simp
end Go.Proofs.YtaogilpkeeigoaaGreatDoor
/- Contract over this translation of the reference's quoted. -/
namespace Go.Proofs.YtaogilpkeeigoaaGreatDoor
open Go.RowKit
set_option linter.unusedVariables false
set_option linter.unusedSimpArgs false
theorem rep4_quote (s : Bs) : 34 :: (rep [9] [92, 116] (rep [10] [92, 110] (rep [34] [92, 34] (rep [92] [92, 92] s))) ++ [34]) = quote s := by
  unfold quote
  rw [rep_one, rep_one, rep_one, rep_one]
  have h : ∀ s : Bs, (((s.flatMap fun b => if b = 92 then [92, 92] else [b]).flatMap fun b => if b = 34 then [92, 34] else [b]).flatMap fun b => if b = 10 then [92, 110] else [b]).flatMap (fun b => if b = 9 then [92, 116] else [b]) = s.flatMap quoteB := by
    intro s
    induction s with
    | nil => rfl
    | cons c s ih =>
      simp only [List.flatMap_cons, List.flatMap_append]
      rw [ih]
      congr 1
      unfold quoteB
      by_cases h92 : c = 92
      · subst h92; rfl
      by_cases h34 : c = 34
      · subst h34; rfl
      by_cases h10 : c = 10
      · subst h10; rfl
      by_cases h9 : c = 9
      · subst h9; rfl
      simp [h92, h34, h10, h9]
  rw [h]
theorem quote_len (s : Bs) : (quote s).length ≤ 16 * s.length + 2 := by
  unfold quote
  have h : ∀ s : Bs, (s.flatMap quoteB).length ≤ 16 * s.length := by
    intro s
    induction s with
    | nil => simp
    | cons c s ih =>
      rw [List.flatMap_cons, List.length_append, List.length_cons]
      have : (quoteB c).length ≤ 2 := by unfold quoteB; split <;> (try split) <;> (try split) <;> simp
      omega
  have := h s
  rw [List.length_cons, List.length_append]
  simp only [List.length_cons, List.length_nil]
  omega
set_option maxRecDepth 100000 in
set_option maxHeartbeats 2000000 in
theorem rfquoted_any (s : ByteArray) (w : World) (hs : s.size ≤ 1100000) (hR : Room w) :
    Calls Tryz.prog 25 #[.string s] w fun e w' => e = .returned (.string ⟨(quote s.data.toList).toArray⟩) ∧ Below w.heap.size w w' := by
  have HQ : Hid (34 :: (rep [9] [92, 116] (rep [10] [92, 110] (rep [34] [92, 34] (rep [92] [92, 92] s.data.toList))) ++ [34]) = quote s.data.toList) := rep4_quote _
  have HB0 : Hid (Below w.heap.size w w) := Below.refl _ _
  have HRm0 : Hid (Room w) := hR
  have HD0 : Hid (s.data.toList = s.data.toList) := rfl
  obtain ⟨h0, m0, hm0⟩ := hR
  go_enter Tryz.func25, Tryz.ntmps25
  go_wp2_with fail
  refine (Tryz.strings_ReplaceAll s ⟨#[92]⟩ ⟨#[92, 92]⟩ m0 _ (by omega) hm0 (by decide) (room_rep _ _ _ (by decide) (by decide) (by omega))).mono ?_
  rintro e w1 ⟨rfl, b1⟩
  have HB1 : Hid (Below w.heap.size w w1) := HB0.out.trans (b1.mono HB0.out.size)
  have HRm1 : Hid (Room w1) := HRm0.out.below b1
  obtain ⟨h01, m1, hm1⟩ := HRm1.out
  rw [show Lib.replaceAll s.data.toList (⟨#[92]⟩ : ByteArray).data.toList (⟨#[92, 92]⟩ : ByteArray).data.toList = rep [92] [92, 92] s.data.toList from by exact replaceAll_rep _ _ _ (by simp)]
  have hl1 : (rep [92] [92, 92] s.data.toList).length ≤ 2 * s.size := by
    have h9 := rep_one_len 92 [92, 92] (by simp) s.data.toList
    have h8 : (s.data.toList).length = s.size := by simp
    omega
  have hz1 : (⟨(rep [92] [92, 92] s.data.toList).toArray⟩ : ByteArray).size ≤ 2200000 := by rw [size_ofR]; omega
  have HD1 : Hid ((⟨(rep [92] [92, 92] s.data.toList).toArray⟩ : ByteArray).data.toList = rep [92] [92, 92] s.data.toList) := by
    show _ = _
    simp
  clear b1 hl1 hm0
  generalize hx1 : (⟨(rep [92] [92, 92] s.data.toList).toArray⟩ : ByteArray) = x1 at *
  generalize rep [92] [92, 92] s.data.toList = y1 at *
  clear hx1
  go_wp2_with fail
  refine (Tryz.strings_ReplaceAll x1 ⟨#[34]⟩ ⟨#[92, 34]⟩ m1 _ (by omega) hm1 (by decide) (room_rep _ _ _ (by decide) (by decide) (by omega))).mono ?_
  rintro e w2 ⟨rfl, b2⟩
  have HB2 : Hid (Below w.heap.size w w2) := HB1.out.trans (b2.mono HB1.out.size)
  have HRm2 : Hid (Room w2) := HRm1.out.below b2
  obtain ⟨h02, m2, hm2⟩ := HRm2.out
  rw [show Lib.replaceAll x1.data.toList (⟨#[34]⟩ : ByteArray).data.toList (⟨#[92, 34]⟩ : ByteArray).data.toList = rep [34] [92, 34] y1 from by rw [HD1.out]; exact replaceAll_rep _ _ _ (by simp)]
  have hl2 : (rep [34] [92, 34] y1).length ≤ 2 * x1.size := by
    have h9 := rep_one_len 34 [92, 34] (by simp) y1
    have h8 : (y1).length = x1.size := by rw [← HD1.out]; simp
    omega
  have hz2 : (⟨(rep [34] [92, 34] y1).toArray⟩ : ByteArray).size ≤ 4400000 := by rw [size_ofR]; omega
  have HD2 : Hid ((⟨(rep [34] [92, 34] y1).toArray⟩ : ByteArray).data.toList = rep [34] [92, 34] y1) := by
    show _ = _
    simp
  clear b2 hl2 hm1
  generalize hx2 : (⟨(rep [34] [92, 34] y1).toArray⟩ : ByteArray) = x2 at *
  generalize rep [34] [92, 34] y1 = y2 at *
  clear hx2
  go_wp2_with fail
  refine (Tryz.strings_ReplaceAll x2 ⟨#[10]⟩ ⟨#[92, 110]⟩ m2 _ (by omega) hm2 (by decide) (room_rep _ _ _ (by decide) (by decide) (by omega))).mono ?_
  rintro e w3 ⟨rfl, b3⟩
  have HB3 : Hid (Below w.heap.size w w3) := HB2.out.trans (b3.mono HB2.out.size)
  have HRm3 : Hid (Room w3) := HRm2.out.below b3
  obtain ⟨h03, m3, hm3⟩ := HRm3.out
  rw [show Lib.replaceAll x2.data.toList (⟨#[10]⟩ : ByteArray).data.toList (⟨#[92, 110]⟩ : ByteArray).data.toList = rep [10] [92, 110] y2 from by rw [HD2.out]; exact replaceAll_rep _ _ _ (by simp)]
  have hl3 : (rep [10] [92, 110] y2).length ≤ 2 * x2.size := by
    have h9 := rep_one_len 10 [92, 110] (by simp) y2
    have h8 : (y2).length = x2.size := by rw [← HD2.out]; simp
    omega
  have hz3 : (⟨(rep [10] [92, 110] y2).toArray⟩ : ByteArray).size ≤ 8800000 := by rw [size_ofR]; omega
  have HD3 : Hid ((⟨(rep [10] [92, 110] y2).toArray⟩ : ByteArray).data.toList = rep [10] [92, 110] y2) := by
    show _ = _
    simp
  clear b3 hl3 hm2
  generalize hx3 : (⟨(rep [10] [92, 110] y2).toArray⟩ : ByteArray) = x3 at *
  generalize rep [10] [92, 110] y2 = y3 at *
  clear hx3
  go_wp2_with fail
  refine (Tryz.strings_ReplaceAll x3 ⟨#[9]⟩ ⟨#[92, 116]⟩ m3 _ (by omega) hm3 (by decide) (room_rep _ _ _ (by decide) (by decide) (by omega))).mono ?_
  rintro e w4 ⟨rfl, b4⟩
  have HB4 : Hid (Below w.heap.size w w4) := HB3.out.trans (b4.mono HB3.out.size)
  have HRm4 : Hid (Room w4) := HRm3.out.below b4
  obtain ⟨h04, m4, hm4⟩ := HRm4.out
  rw [show Lib.replaceAll x3.data.toList (⟨#[9]⟩ : ByteArray).data.toList (⟨#[92, 116]⟩ : ByteArray).data.toList = rep [9] [92, 116] y3 from by rw [HD3.out]; exact replaceAll_rep _ _ _ (by simp)]
  have hl4 : (rep [9] [92, 116] y3).length ≤ 2 * x3.size := by
    have h9 := rep_one_len 9 [92, 116] (by simp) y3
    have h8 : (y3).length = x3.size := by rw [← HD3.out]; simp
    omega
  have hz4 : (⟨(rep [9] [92, 116] y3).toArray⟩ : ByteArray).size ≤ 17600000 := by rw [size_ofR]; omega
  have HD4 : Hid ((⟨(rep [9] [92, 116] y3).toArray⟩ : ByteArray).data.toList = rep [9] [92, 116] y3) := by
    show _ = _
    simp
  clear b4 hl4 hm3
  generalize hx4 : (⟨(rep [9] [92, 116] y3).toArray⟩ : ByteArray) = x4 at *
  generalize rep [9] [92, 116] y3 = y4 at *
  clear hx4
  have q1 : ¬ 9223372036854775807 < 1 + x4.size := by omega
  have q2 : ¬ 9223372036854775807 < 1 + x4.size + 1 := by omega
  have HZ : Hid ((⟨#[34]⟩ : ByteArray) ++ x4 ++ ⟨#[34]⟩ = ⟨(quote s.data.toList).toArray⟩) := by
    show _ = _
    rw [← HQ.out, ← HD4.out]
    apply ByteArray.ext
    simp [ByteArray.data_append]
  go_wp2_with fail
  go_ret
  exact ⟨by rw [← HZ.out]; rfl, HB4.out⟩
end Go.Proofs.YtaogilpkeeigoaaGreatDoor
/- Contracts over this translation: how many values there are, and how deep they lie. -/
namespace Go.Proofs.YtaogilpkeeigoaaGreatDoor
open Go.RowKit
set_option linter.unusedVariables false
set_option linter.unusedSimpArgs false
set_option maxRecDepth 100000 in
set_option maxHeartbeats 2000000 in
theorem hold_any (zb a b l c d m : Nat) (w : World) (hz : w.heap[zb]? = some (.cells #[.int .i64 a, .int .i64 b, .int .i64 l] 57 (0, 0))) (ha : a ≤ 1000000) (hb : b ≤ 1000000) (hl : l ≤ 1000000000) (hc : c ≤ 1000000) (hd' : d ≤ 1000000) (hm : m ≤ 1000000000) :
    Calls Tryz.prog 44 #[.pointer (some ⟨zb, 0, none⟩), .agg #[.int .i64 c, .int .i64 d, .int .i64 m]] w fun e w' => e = .returned (.tuple #[]) ∧ w.grownBy w' (some zb) ∧ w'.heap[zb]? = some (.cells #[.int .i64 ((a + c : Nat) : Int), .int .i64 ((max b (d + 1) : Nat) : Int), .int .i64 ((l + m : Nat) : Int)] 57 (0, 0)) := by
  have hzw := lt_of_block hz
  have hza : (w.alloc (.cells #[.int .i64 c, .int .i64 d, .int .i64 m] 57)).heap[zb]? = some (.cells #[.int .i64 a, .int .i64 b, .int .i64 l] 57 (0, 0)) := (Below.heap_alloc w _ zb hzw).trans hz
  have hxa : (w.alloc (.cells #[.int .i64 c, .int .i64 d, .int .i64 m] 57)).heap[w.heap.size]? = some (.cells #[.int .i64 c, .int .i64 d, .int .i64 m] 57 (0, 0)) := heap_alloc_new w _
  have z0 : (w.alloc (.cells #[.int .i64 c, .int .i64 d, .int .i64 m] 57)).cell? ⟨zb, 0, none⟩ = some (.int .i64 a) := by rw [cell_of_row _ _ _ _ _ _ hza]; rfl
  have z1 : (w.alloc (.cells #[.int .i64 c, .int .i64 d, .int .i64 m] 57)).cell? ⟨zb, 1, none⟩ = some (.int .i64 b) := by rw [cell_of_row _ _ _ _ _ _ hza]; rfl
  have z2 : (w.alloc (.cells #[.int .i64 c, .int .i64 d, .int .i64 m] 57)).cell? ⟨zb, 2, none⟩ = some (.int .i64 l) := by rw [cell_of_row _ _ _ _ _ _ hza]; rfl
  have x0 : (w.alloc (.cells #[.int .i64 c, .int .i64 d, .int .i64 m] 57)).cell? ⟨w.heap.size, 0, none⟩ = some (.int .i64 c) := by rw [cell_of_row _ _ _ _ _ _ hxa]; rfl
  have x1 : (w.alloc (.cells #[.int .i64 c, .int .i64 d, .int .i64 m] 57)).cell? ⟨w.heap.size, 1, none⟩ = some (.int .i64 d) := by rw [cell_of_row _ _ _ _ _ _ hxa]; rfl
  have x2 : (w.alloc (.cells #[.int .i64 c, .int .i64 d, .int .i64 m] 57)).cell? ⟨w.heap.size, 2, none⟩ = some (.int .i64 m) := by rw [cell_of_row _ _ _ _ _ _ hxa]; rfl
  have f0 : ∀ j, (w.alloc (.cells #[.int .i64 c, .int .i64 d, .int .i64 m] 57)).frozen? ⟨zb, j, none⟩ = false := fun j => frozen_of_row _ _ _ _ _ hza
  have f00 := f0 0
  have f01 := f0 1
  have f02 := f0 2
  have hne : zb ≠ w.heap.size := by omega
  clear hz hxa f0
  have HZ : Hid ((w.alloc (.cells #[.int .i64 c, .int .i64 d, .int .i64 m] 57)).heap[zb]? = some (.cells #[.int .i64 a, .int .i64 b, .int .i64 l] 57 (0, 0))) := hza
  have HGr : Hid (w.grownBy (w.alloc (.cells #[.int .i64 c, .int .i64 d, .int .i64 m] 57)) (some zb)) := World.grownBy_alloc w _ _
  clear hza
  go_enter Tryz.func44, Tryz.ntmps44
  go_wp2
  generalize w.alloc (.cells #[.int .i64 c, .int .i64 d, .int .i64 m] 57) = wa at *
  go_region
  go_wp2
  go_region
  go_wp2
  go_region
  go_wp2
  go_end0
  refine ⟨rfl, ((((show G zb w wa from HGr.out).setCell 0 _).setCell 1 _).setCell 2 _).drew.drew.drew, ?_⟩
  have h1 := heap_setCell_same wa zb 0 _ _ (.int .i64 ((a : Int) + (c : Int))) HZ.out
  have h2 := heap_setCell_same _ zb 1 _ _ (.int .i64 (max (b : Int) ((d : Int) + 1))) h1
  have h3 := heap_setCell_same _ zb 2 _ _ (.int .i64 ((l : Int) + (m : Int))) h2
  have e1 : ((a + c : Nat) : Int) = (a : Int) + (c : Int) := by omega
  have e2 : ((max b (d + 1) : Nat) : Int) = max (b : Int) ((d : Int) + 1) := by omega
  have e3 : ((l + m : Nat) : Int) = (l : Int) + (m : Int) := by omega
  rw [e1, e2, e3]
  exact h3
/-- how many bytes texts and names have -/
def lensLeaf : Leaf → Nat
  | some (Sum.inr (Sum.inr s)) => s.length
  | _ => 0
def lens : (n : Nat) → J n → Nat
  | 0, l => lensLeaf l
  | _ + 1, Sum.inl l => lensLeaf l
  | n + 1, Sum.inr (Sum.inl xs) => (xs.map (lens n)).sum
  | n + 1, Sum.inr (Sum.inr fs) => (fs.map fun f => f.1.length + lens n f.2).sum
theorem quote_geL (s : Bs) : s.length ≤ (quote s).length := by
  have h : ∀ l : Bs, l.length ≤ (l.flatMap quoteB).length := by
    intro l
    induction l with
    | nil => simp
    | cons c l ih =>
      have h1 : 1 ≤ (quoteB c).length := by
        unfold quoteB
        split
        · simp
        · split
          · simp
          · split <;> simp
      simp only [List.flatMap_cons, List.length_append, List.length_cons]
      omega
  have := h s
  simp only [quote, List.length_cons, List.length_append]
  omega
theorem lensLeaf_le (l : Leaf) : lensLeaf l ≤ (tellLeaf l).length := by
  match l with
  | none => exact Nat.zero_le _
  | some (Sum.inl b) => exact Nat.zero_le _
  | some (Sum.inr (Sum.inl i)) => exact Nat.zero_le _
  | some (Sum.inr (Sum.inr s)) => exact quote_geL s
theorem commas_sum : ∀ (l : List Bs), (l.map List.length).sum ≤ (commas l).length
  | [] => Nat.le_refl _
  | [x] => by simp [commas]
  | x :: y :: r => by
    have := commas_sum (y :: r)
    simp only [commas, List.map_cons, List.sum_cons, List.length_append, List.length_cons] at this ⊢
    omega
theorem sum_le_sum {α : Type} (f g : α → Nat) : ∀ (l : List α), (∀ x ∈ l, f x ≤ g x) → (l.map f).sum ≤ (l.map g).sum
  | [], _ => Nat.le_refl _
  | x :: l, h => by
    have h1 := sum_le_sum f g l (fun y hy => h y (by simp [hy]))
    have h2 := h x (by simp)
    simp only [List.map_cons, List.sum_cons]
    omega
/-- texts and names are no longer than what is told -/
theorem lens_le : ∀ (n : Nat) (j : J n), lens n j ≤ (tell n j).length
  | 0, l => lensLeaf_le l
  | _ + 1, Sum.inl l => lensLeaf_le l
  | n + 1, Sum.inr (Sum.inl xs) => by
    have h1 : (xs.map (lens n)).sum ≤ (xs.map (fun x => (tell n x).length)).sum := sum_le_sum _ _ xs (fun x _ => lens_le n x)
    have h2 := commas_sum (xs.map (tell n))
    have e : ((xs.map (tell n)).map List.length) = xs.map (fun x => (tell n x).length) := by rw [List.map_map]; rfl
    rw [e] at h2
    show (xs.map (lens n)).sum ≤ (91 :: (commas (xs.map (tell n)) ++ [93])).length
    simp only [List.length_cons, List.length_append]
    omega
  | n + 1, Sum.inr (Sum.inr fs) => by
    have h1 : (fs.map (fun f => f.1.length + lens n f.2)).sum ≤ (fs.map (fun f => (quote f.1 ++ 58 :: tell n f.2).length)).sum := sum_le_sum _ _ fs (fun f _ => by
      have a1 := quote_geL f.1
      have a2 := lens_le n f.2
      simp only [List.length_cons, List.length_append]
      omega)
    have h2 := commas_sum (fs.map fun f => quote f.1 ++ 58 :: tell n f.2)
    have e : ((fs.map fun f => quote f.1 ++ 58 :: tell n f.2).map List.length) = fs.map (fun f => (quote f.1 ++ 58 :: tell n f.2).length) := by rw [List.map_map]; rfl
    rw [e] at h2
    show (fs.map (fun f => f.1.length + lens n f.2)).sum ≤ (123 :: (commas (fs.map fun f => quote f.1 ++ 58 :: tell n f.2) ++ [125])).length
    simp only [List.length_cons, List.length_append]
    omega
/-- how many values, and how deep: at every value of depth n -/
def MeasureOK (n : Nat) : Prop := ∀ (av : Nat → Prop) (j : J n) (x : Value) (w : World), St av w n j x → nodes n j ≤ 100000 → depth n j ≤ 100000 → lens n j ≤ 100000000 →
  Calls Tryz.prog 22 #[x] w fun e w' => e = .returned (.agg #[.int .i64 (nodes n j), .int .i64 (depth n j), .int .i64 (lens n j)]) ∧ Below w.heap.size w w'
theorem nodes_pos : ∀ (n : Nat) (j : J n), 1 ≤ nodes n j
  | 0, _ => Nat.le_refl _
  | _ + 1, Sum.inl _ => Nat.le_refl _
  | _ + 1, Sum.inr (Sum.inl _) => Nat.le_add_right _ _
  | _ + 1, Sum.inr (Sum.inr _) => Nat.le_add_right _ _
theorem sum_ge : ∀ (l : List Nat), (∀ y ∈ l, 1 ≤ y) → l.length ≤ l.sum
  | [], _ => Nat.le_refl _
  | y :: l, h => by
    have := sum_ge l (fun z hz => h z (by simp [hz]))
    have := h y (by simp)
    simp only [List.length_cons, List.sum_cons]
    omega
theorem maxOf_snoc : ∀ (l : List Nat) (y : Nat), maxOf (l ++ [y]) = max (maxOf l) y
  | [], y => by simp [maxOf]
  | x :: l, y => by
    have := maxOf_snoc l y
    simp only [List.cons_append, maxOf, this]
    omega
theorem take_sum_le : ∀ (l : List Nat) (k : Nat), (l.take k).sum ≤ l.sum
  | [], k => by simp
  | x :: l, 0 => by simp
  | x :: l, k + 1 => by
    have := take_sum_le l k
    simp only [List.take_succ_cons, List.sum_cons]
    omega
theorem take_max_le : ∀ (l : List Nat) (k : Nat), maxOf (l.take k) ≤ maxOf l
  | [], k => by simp
  | x :: l, 0 => by simp [maxOf]
  | x :: l, k + 1 => by
    have := take_max_le l k
    simp only [List.take_succ_cons, maxOf]
    omega
set_option maxRecDepth 100000 in
set_option maxHeartbeats 1000000 in
theorem measure_leaf (l : Leaf) (w : World) :
    Calls Tryz.prog 22 #[leafV l] w fun e w' => e = .returned (.agg #[.int .i64 1, .int .i64 0, .int .i64 (lensLeaf l)]) ∧ Below w.heap.size w w' := by
  match l with
  | none =>
    obtain ⟨a1, a2, a3, a4, a5, a6⟩ := tas_Null
    unfold leafV
    go_enter Tryz.func22, Tryz.ntmps22
    go_wp2_with fail
    exact bodyPost_ret (v := .agg #[.int .i64 1, .int .i64 0, .int .i64 0]) (by simp [results, Tryz.results22, go_sem]) rfl ⟨rfl, (Below.refl _ _).alloc (Nat.le_refl _) _⟩
  | some (Sum.inl b) =>
    obtain ⟨a1, a2, a3, a4, a5, a6⟩ := tas_Bool
    unfold leafV
    go_enter Tryz.func22, Tryz.ntmps22
    go_wp2_with fail
    exact bodyPost_ret (v := .agg #[.int .i64 1, .int .i64 0, .int .i64 0]) (by simp [results, Tryz.results22, go_sem]) rfl ⟨rfl, (Below.refl _ _).alloc (Nat.le_refl _) _⟩
  | some (Sum.inr (Sum.inl i)) =>
    obtain ⟨a1, a2, a3, a4, a5, a6⟩ := tas_Number
    unfold leafV
    go_enter Tryz.func22, Tryz.ntmps22
    go_wp2_with fail
    exact bodyPost_ret (v := .agg #[.int .i64 1, .int .i64 0, .int .i64 0]) (by simp [results, Tryz.results22, go_sem]) rfl ⟨rfl, (Below.refl _ _).alloc (Nat.le_refl _) _⟩
  | some (Sum.inr (Sum.inr s)) =>
    obtain ⟨a1, a2, a3, a4, a5, a6⟩ := tas_Text
    unfold leafV
    go_enter Tryz.func22, Tryz.ntmps22
    go_wp2_with fail
    exact bodyPost_ret (v := .agg #[.int .i64 1, .int .i64 0, .int .i64 (lensLeaf (some (Sum.inr (Sum.inr s))))]) (by simp [results, Tryz.results22, go_sem, lensLeaf]) rfl ⟨rfl, (Below.refl _ _).alloc (Nat.le_refl _) _⟩
set_option maxRecDepth 100000 in
set_option maxHeartbeats 4000000 in
theorem measure_list (n : Nat) (hM : MeasureOK n) (av : Nat → Prop) (xs : List (J n)) (x : Value) (w : World) (hSt : St av w (n + 1) (Sum.inr (Sum.inl xs)) x) (hN : nodes (n + 1) (Sum.inr (Sum.inl xs)) ≤ 100000) (hD : depth (n + 1) (Sum.inr (Sum.inl xs)) ≤ 100000) (hL : lens (n + 1) (Sum.inr (Sum.inl xs)) ≤ 100000000) :
    Calls Tryz.prog 22 #[x] w fun e w' => e = .returned (.agg #[.int .i64 (nodes (n + 1) (Sum.inr (Sum.inl xs))), .int .i64 (depth (n + 1) (Sum.inr (Sum.inl xs))), .int .i64 (lens (n + 1) (Sum.inr (Sum.inl xs)))]) ∧ Below w.heap.size w w' := by
  have en : nodes (n + 1) (Sum.inr (Sum.inl xs)) = 1 + (xs.map (nodes n)).sum := rfl
  have ed : depth (n + 1) (Sum.inr (Sum.inl xs)) = 1 + maxOf (xs.map (depth n)) := rfl
  have eb : lens (n + 1) (Sum.inr (Sum.inl xs)) = (xs.map (lens n)).sum := rfl
  rw [en] at hN ⊢
  rw [ed] at hD ⊢
  rw [eb] at hL ⊢
  obtain ⟨p, g, cap, vs, rfl, hpp, hvl, hlc, hcm, hcell, hel⟩ := hSt.list
  unfold maxLen at hcm
  have hlen : xs.length ≤ 100000 := by
    have h := sum_ge (xs.map (nodes n)) (fun y hy => by
      obtain ⟨z, _, rfl⟩ := List.mem_map.1 hy
      exact nodes_pos _ _)
    rw [List.length_map] at h
    omega
  have HEl : Hid (∀ w1, Below w.heap.size w w1 → ∀ k (hk : k < xs.length), ∃ u, w1.cell? ⟨g, k, none⟩ = some u ∧ St (fun c => w.heap.size ≤ c) w1 n xs[k] u) := by
    intro w1 hb k hk
    have hu : vs[k]? = some (vs[k]'(by omega)) := List.getElem?_eq_getElem (by omega)
    refine ⟨_, by rw [hb.cell (p := ⟨g, k, none⟩) (hpp k hk).2.2]; exact hcell k _ hu, ?_⟩
    exact (((hel k xs[k] _ (List.getElem?_eq_getElem hk) hu).wide (fun c hc => Or.inr hc) : St (fun c => w.heap.size ≤ c) w n xs[k] _)).step hb.size (fun c hc _ => hb.block c hc)
  have HTk : Hid (∀ k (hk : k < xs.length), ((xs.map (nodes n)).take (k + 1)).sum = ((xs.map (nodes n)).take k).sum + nodes n xs[k] ∧ maxOf ((xs.map (depth n)).take (k + 1)) = max (maxOf ((xs.map (depth n)).take k)) (depth n xs[k]) ∧ ((xs.map (lens n)).take (k + 1)).sum = ((xs.map (lens n)).take k).sum + lens n xs[k]) := fun k hk => by
    refine ⟨?_, ?_, ?_⟩
    · rw [List.take_succ_eq_append_getElem (by simpa using hk), List.sum_append]
      simp
    · rw [List.take_succ_eq_append_getElem (by simpa using hk), maxOf_snoc]
      simp
    · rw [List.take_succ_eq_append_getElem (by simpa using hk), List.sum_append]
      simp
  have HLe : Hid (∀ k, ((xs.map (nodes n)).take k).sum ≤ (xs.map (nodes n)).sum ∧ maxOf ((xs.map (depth n)).take k) ≤ maxOf (xs.map (depth n)) ∧ ((xs.map (lens n)).take k).sum ≤ (xs.map (lens n)).sum) := fun k => ⟨take_sum_le _ k, take_max_le _ k, take_sum_le _ k⟩
  have HAll : Hid (∀ k, xs.length ≤ k → ((xs.map (nodes n)).take k).sum = (xs.map (nodes n)).sum ∧ maxOf ((xs.map (depth n)).take k) = maxOf (xs.map (depth n)) ∧ ((xs.map (lens n)).take k).sum = (xs.map (lens n)).sum) := fun k hk => by
    rw [List.take_of_length_le (by simpa using hk), List.take_of_length_le (by simpa using hk), List.take_of_length_le (by simpa using hk)]
    exact ⟨rfl, rfl, rfl⟩
  generalize xs.map (nodes n) = ns at *
  generalize xs.map (depth n) = ds at *
  generalize xs.map (lens n) = bs at *
  have HM : Hid (MeasureOK n) := hM
  obtain ⟨a1, a2, a3, a4, a5, a6⟩ := tas_List
  have HPp : Hid (∀ k, k < xs.length → p = some ⟨g, 0, none⟩) := fun k hk => (hpp k hk).1
  clear hcell hel hM en ed eb hpp
  have HZ0 : Hid (((w.alloc (.cells #[.int .i64 0, .int .i64 0, .int .i64 0] 57)).alloc (.cells #[.int .i64 1, .int .i64 1, .int .i64 0] 57)).heap[w.heap.size + 1]? = some (.cells #[.int .i64 1, .int .i64 1, .int .i64 0] 57 (0, 0))) := by
    have h0 := heap_alloc_new (w.alloc (.cells #[.int .i64 0, .int .i64 0, .int .i64 0] 57)) (.cells #[.int .i64 1, .int .i64 1, .int .i64 0] 57)
    have e0 : (w.alloc (.cells #[.int .i64 0, .int .i64 0, .int .i64 0] 57)).heap.size = w.heap.size + 1 := by simp
    rw [e0] at h0
    exact h0
  have HZr : Hid (((w.alloc (.cells #[.int .i64 0, .int .i64 0, .int .i64 0] 57)).alloc (.cells #[.int .i64 1, .int .i64 1, .int .i64 0] 57)).heap[w.heap.size]? = some (.cells #[.int .i64 0, .int .i64 0, .int .i64 0] 57 (0, 0))) := by
    show ((w.alloc (.cells #[.int .i64 0, .int .i64 0, .int .i64 0] 57)).alloc (.cells #[.int .i64 1, .int .i64 1, .int .i64 0] 57)).heap[w.heap.size]? = _
    rw [Below.heap_alloc _ _ _ (by simp)]
    exact heap_alloc_new w _
  have HB0 : Hid (Below w.heap.size w ((w.alloc (.cells #[.int .i64 0, .int .i64 0, .int .i64 0] 57)).alloc (.cells #[.int .i64 1, .int .i64 1, .int .i64 0] 57))) := ((Below.refl _ w).alloc (Nat.le_refl _) _).alloc (by simp) _
  go_enter Tryz.func22, Tryz.ntmps22
  go_wp2_with fail
  go_loopw [25] (fun i wr => ∃ k : Nat, k ≤ xs.length ∧ i = .int .i64 k ∧ wr.heap[w.heap.size + 1]? = some (.cells #[.int .i64 ((1 + (ns.take k).sum : Nat) : Int), .int .i64 ((1 + maxOf (ds.take k) : Nat) : Int), .int .i64 (((bs.take k).sum : Nat) : Int)] 57 (0, 0)) ∧ wr.heap[w.heap.size]? = some (.cells #[.int .i64 0, .int .i64 0, .int .i64 0] 57 (0, 0)) ∧ Below w.heap.size w wr) (fun i _ => xs.length - (intOf i).toNat)
  case atStart => exact ⟨0, Nat.zero_le _, rfl, HZ0.out, HZr.out, HB0.out⟩
  case round =>
    obtain ⟨k, hk, rfl, hz, hrb, hbel⟩ := hrel
    have HZ : Hid (wr.heap[w.heap.size + 1]? = some (.cells #[.int .i64 ((1 + (ns.take k).sum : Nat) : Int), .int .i64 ((1 + maxOf (ds.take k) : Nat) : Int), .int .i64 (((bs.take k).sum : Nat) : Int)] 57 (0, 0))) := hz
    have HRb : Hid (wr.heap[w.heap.size]? = some (.cells #[.int .i64 0, .int .i64 0, .int .i64 0] 57 (0, 0))) := hrb
    have HB : Hid (Below w.heap.size w wr) := hbel
    have hle := HLe.out k
    have hzw := lt_of_block hz
    clear hz hrb hbel
    by_cases hlt : k < xs.length
    · have hpe := HPp.out k hlt
      subst hpe
      obtain ⟨u, hcu, hst⟩ := HEl.out wr HB.out k hlt
      have HSt : Hid (St (fun c => w.heap.size ≤ c) wr n xs[k] u) := hst
      have hle2 := HLe.out (k + 1)
      have htk := HTk.out k hlt
      have hnk : nodes n xs[k] ≤ 100000 := by omega
      have hdk : depth n xs[k] ≤ 100000 := by omega
      have hbk : lens n xs[k] ≤ 100000000 := by omega
      have HTK : Hid ((ns.take (k + 1)).sum = (ns.take k).sum + nodes n xs[k] ∧ maxOf (ds.take (k + 1)) = max (maxOf (ds.take k)) (depth n xs[k]) ∧ (bs.take (k + 1)).sum = (bs.take k).sum + lens n xs[k]) := htk
      clear hst htk
      go_wp2_with fail
      refine (HM.out _ xs[k] u wr HSt.out hnk hdk hbk).mono ?_
      rintro e w1 ⟨rfl, b1⟩
      have hz1 : w1.heap[w.heap.size + 1]? = some (.cells #[.int .i64 ((1 + (ns.take k).sum : Nat) : Int), .int .i64 ((1 + maxOf (ds.take k) : Nat) : Int), .int .i64 (((bs.take k).sum : Nat) : Int)] 57 (0, 0)) := (b1.block _ (lt_of_block HZ.out)).trans HZ.out
      have HZ1 : Hid (w1.heap[w.heap.size + 1]? = some (.cells #[.int .i64 ((1 + (ns.take k).sum : Nat) : Int), .int .i64 ((1 + maxOf (ds.take k) : Nat) : Int), .int .i64 (((bs.take k).sum : Nat) : Int)] 57 (0, 0))) := hz1
      have HR1 : Hid (w1.heap[w.heap.size]? = some (.cells #[.int .i64 0, .int .i64 0, .int .i64 0] 57 (0, 0))) := (b1.block _ (lt_of_block HRb.out)).trans HRb.out
      have HB1 : Hid (Below w.heap.size w w1) := HB.out.trans (b1.mono HB.out.size)
      clear b1 hz1
      go_wp2_with fail
      refine (hold_any (w.heap.size + 1) (1 + (ns.take k).sum) (1 + maxOf (ds.take k)) (bs.take k).sum (nodes n xs[k]) (depth n xs[k]) (lens n xs[k]) w1 HZ1.out (by omega) (by omega) (by omega) (by omega) (by omega) (by omega)).mono ?_
      rintro e w2 ⟨rfl, g2, z2⟩
      have HZ2 : Hid (w2.heap[w.heap.size + 1]? = some (.cells #[.int .i64 ((1 + (ns.take (k + 1)).sum : Nat) : Int), .int .i64 ((1 + maxOf (ds.take (k + 1)) : Nat) : Int), .int .i64 (((bs.take (k + 1)).sum : Nat) : Int)] 57 (0, 0))) := by
        show w2.heap[w.heap.size + 1]? = _
        have e1 : 1 + (ns.take (k + 1)).sum = 1 + (ns.take k).sum + nodes n xs[k] := by rw [HTK.out.1]; omega
        have e2 : 1 + maxOf (ds.take (k + 1)) = max (1 + maxOf (ds.take k)) (depth n xs[k] + 1) := by rw [HTK.out.2.1]; omega
        rw [e1, e2, HTK.out.2.2]
        exact z2
      have HR2 : Hid (w2.heap[w.heap.size]? = some (.cells #[.int .i64 0, .int .i64 0, .int .i64 0] 57 (0, 0))) := (g2.block _ (lt_of_block HR1.out) (fun e => by simp at e)).trans HR1.out
      have HB2 : Hid (Below w.heap.size w w2) := HB1.out.grown g2 HB1.out.size (fun k e => by cases e; omega)
      clear g2 z2
      go_wp2_with fail
      go_roundw
      case rel => exact ⟨k + 1, by omega, by go_num, HZ2.out, HR2.out, HB2.out⟩
      case measure => simp [intOf]; omega
    · have hall := HAll.out k (by omega)
      have HA : Hid ((ns.take k).sum = ns.sum ∧ maxOf (ds.take k) = maxOf ds ∧ (bs.take k).sum = bs.sum) := hall
      have hz : wr.heap[w.heap.size + 1]? = some (.cells #[.int .i64 ((1 + ns.sum : Nat) : Int), .int .i64 ((1 + maxOf ds : Nat) : Int), .int .i64 ((bs.sum : Nat) : Int)] 57 (0, 0)) := by
        have := HZ.out
        rw [hall.1, hall.2.1, hall.2.2] at this
        exact this
      have z0 : wr.cell? ⟨w.heap.size + 1, 0, none⟩ = some (.int .i64 ((1 + ns.sum : Nat) : Int)) := by rw [cell_of_row _ _ _ _ _ _ hz]; rfl
      have z1 : wr.cell? ⟨w.heap.size + 1, 1, none⟩ = some (.int .i64 ((1 + maxOf ds : Nat) : Int)) := by rw [cell_of_row _ _ _ _ _ _ hz]; rfl
      have z2 : wr.cell? ⟨w.heap.size + 1, 2, none⟩ = some (.int .i64 ((bs.sum : Nat) : Int)) := by rw [cell_of_row _ _ _ _ _ _ hz]; rfl
      have r0 : wr.cell? ⟨w.heap.size, 0, none⟩ = some (.int .i64 0) := by rw [cell_of_row _ _ _ _ _ _ HRb.out]; rfl
      have r1 : wr.cell? ⟨w.heap.size, 1, none⟩ = some (.int .i64 0) := by rw [cell_of_row _ _ _ _ _ _ HRb.out]; rfl
      have r2 : wr.cell? ⟨w.heap.size, 2, none⟩ = some (.int .i64 0) := by rw [cell_of_row _ _ _ _ _ _ HRb.out]; rfl
      have f0 : wr.frozen? ⟨w.heap.size, 0, none⟩ = false := frozen_of_row _ _ _ _ _ HRb.out
      have f1 : wr.frozen? ⟨w.heap.size, 1, none⟩ = false := frozen_of_row _ _ _ _ _ HRb.out
      have f2 : wr.frozen? ⟨w.heap.size, 2, none⟩ = false := frozen_of_row _ _ _ _ _ HRb.out
      clear hall hz
      obtain ⟨A, hA⟩ : ∃ A : Int, A = ((1 + ns.sum : Nat) : Int) := ⟨_, rfl⟩
      obtain ⟨B, hB⟩ : ∃ B : Int, B = ((1 + maxOf ds : Nat) : Int) := ⟨_, rfl⟩
      obtain ⟨C, hC⟩ : ∃ C : Int, C = ((bs.sum : Nat) : Int) := ⟨_, rfl⟩
      rw [← hA] at z0
      rw [← hB] at z1
      rw [← hC] at z2
      have HAB : Hid (A = ((1 + ns.sum : Nat) : Int) ∧ B = ((1 + maxOf ds : Nat) : Int) ∧ C = ((bs.sum : Nat) : Int)) := ⟨hA, hB, hC⟩
      clear hA hB hC
      go_wp2_with fail
      exact bodyPost_ret (v := .agg #[.int .i64 A, .int .i64 B, .int .i64 C]) (by simp [results, Tryz.results22, go_sem, r0, r1, r2]) rfl ⟨by rw [HAB.out.1, HAB.out.2.1, HAB.out.2.2], ((HB.out.setCell (Nat.le_refl _) _).setCell (Nat.le_refl _) _).setCell (Nat.le_refl _) _⟩
set_option maxRecDepth 100000 in
set_option maxHeartbeats 4000000 in
theorem measure_object (n : Nat) (hM : MeasureOK n) (av : Nat → Prop) (fs : List (Bs × J n)) (x : Value) (w : World) (hSt : St av w (n + 1) (Sum.inr (Sum.inr fs)) x) (hN : nodes (n + 1) (Sum.inr (Sum.inr fs)) ≤ 100000) (hD : depth (n + 1) (Sum.inr (Sum.inr fs)) ≤ 100000) (hL : lens (n + 1) (Sum.inr (Sum.inr fs)) ≤ 100000000) :
    Calls Tryz.prog 22 #[x] w fun e w' => e = .returned (.agg #[.int .i64 (nodes (n + 1) (Sum.inr (Sum.inr fs))), .int .i64 (depth (n + 1) (Sum.inr (Sum.inr fs))), .int .i64 (lens (n + 1) (Sum.inr (Sum.inr fs)))]) ∧ Below w.heap.size w w' := by
  have en : nodes (n + 1) (Sum.inr (Sum.inr fs)) = 1 + (fs.map (fun f => nodes n f.2)).sum := rfl
  have ed : depth (n + 1) (Sum.inr (Sum.inr fs)) = 1 + maxOf (fs.map (fun f => depth n f.2)) := rfl
  have eb : lens (n + 1) (Sum.inr (Sum.inr fs)) = (fs.map (fun f => f.1.length + lens n f.2)).sum := rfl
  rw [en] at hN ⊢
  rw [ed] at hD ⊢
  rw [eb] at hL ⊢
  obtain ⟨p, g, cap, vs, rfl, hpp, hvl, hlc, hcm, hcell, hel⟩ := hSt.obj
  unfold maxLen at hcm
  have hlen : fs.length ≤ 100000 := by
    have h := sum_ge (fs.map (fun f => nodes n f.2)) (fun y hy => by
      obtain ⟨z, _, rfl⟩ := List.mem_map.1 hy
      exact nodes_pos _ _)
    rw [List.length_map] at h
    omega
  have HEl : Hid (∀ w1, Below w.heap.size w w1 → ∀ k (hk : k < fs.length), ∃ u, w1.cell? ⟨g, k * 2, none⟩ = some (.string ⟨fs[k].1.toArray⟩) ∧ w1.cell? ⟨g, k * 2 + 1, none⟩ = some u ∧ St (fun c => w.heap.size ≤ c) w1 n fs[k].2 u) := by
    intro w1 hb k hk
    have hu : vs[k]? = some (vs[k]'(by omega)) := List.getElem?_eq_getElem (by omega)
    have hf : fs[k]? = some fs[k] := List.getElem?_eq_getElem hk
    have hc := hcell k _ _ hf hu
    refine ⟨_, by rw [hb.cell (p := ⟨g, k * 2, none⟩) (hpp k hk).2.2]; exact hc.1, by rw [hb.cell (p := ⟨g, k * 2 + 1, none⟩) (hpp k hk).2.2]; exact hc.2, ?_⟩
    exact (((hel k fs[k] _ hf hu).wide (fun c hc => Or.inr hc) : St (fun c => w.heap.size ≤ c) w n fs[k].2 _)).step hb.size (fun c hc _ => hb.block c hc)
  have HTk : Hid (∀ k (hk : k < fs.length), ((fs.map (fun f => nodes n f.2)).take (k + 1)).sum = ((fs.map (fun f => nodes n f.2)).take k).sum + nodes n fs[k].2 ∧ maxOf ((fs.map (fun f => depth n f.2)).take (k + 1)) = max (maxOf ((fs.map (fun f => depth n f.2)).take k)) (depth n fs[k].2) ∧ ((fs.map (fun f => f.1.length + lens n f.2)).take (k + 1)).sum = ((fs.map (fun f => f.1.length + lens n f.2)).take k).sum + (fs[k].1.length + lens n fs[k].2)) := fun k hk => by
    refine ⟨?_, ?_, ?_⟩
    · rw [List.take_succ_eq_append_getElem (by simpa using hk), List.sum_append]
      simp
    · rw [List.take_succ_eq_append_getElem (by simpa using hk), maxOf_snoc]
      simp
    · rw [List.take_succ_eq_append_getElem (by simpa using hk), List.sum_append]
      simp
  have HLe : Hid (∀ k, ((fs.map (fun f => nodes n f.2)).take k).sum ≤ (fs.map (fun f => nodes n f.2)).sum ∧ maxOf ((fs.map (fun f => depth n f.2)).take k) ≤ maxOf (fs.map (fun f => depth n f.2)) ∧ ((fs.map (fun f => f.1.length + lens n f.2)).take k).sum ≤ (fs.map (fun f => f.1.length + lens n f.2)).sum) := fun k => ⟨take_sum_le _ k, take_max_le _ k, take_sum_le _ k⟩
  have HAll : Hid (∀ k, fs.length ≤ k → ((fs.map (fun f => nodes n f.2)).take k).sum = (fs.map (fun f => nodes n f.2)).sum ∧ maxOf ((fs.map (fun f => depth n f.2)).take k) = maxOf (fs.map (fun f => depth n f.2)) ∧ ((fs.map (fun f => f.1.length + lens n f.2)).take k).sum = (fs.map (fun f => f.1.length + lens n f.2)).sum) := fun k hk => by
    rw [List.take_of_length_le (by simpa using hk), List.take_of_length_le (by simpa using hk), List.take_of_length_le (by simpa using hk)]
    exact ⟨rfl, rfl, rfl⟩
  generalize fs.map (fun f => nodes n f.2) = ns at *
  generalize fs.map (fun f => depth n f.2) = ds at *
  generalize fs.map (fun f => f.1.length + lens n f.2) = bs at *
  have HM : Hid (MeasureOK n) := hM
  obtain ⟨a1, a2, a3, a4, a5, a6⟩ := tas_Object
  have HPp : Hid (∀ k, k < fs.length → p = some ⟨g, 0, none⟩) := fun k hk => (hpp k hk).1
  clear hcell hel hM en ed eb hpp
  have HZ0 : Hid (((w.alloc (.cells #[.int .i64 0, .int .i64 0, .int .i64 0] 57)).alloc (.cells #[.int .i64 1, .int .i64 1, .int .i64 0] 57)).heap[w.heap.size + 1]? = some (.cells #[.int .i64 1, .int .i64 1, .int .i64 0] 57 (0, 0))) := by
    have h0 := heap_alloc_new (w.alloc (.cells #[.int .i64 0, .int .i64 0, .int .i64 0] 57)) (.cells #[.int .i64 1, .int .i64 1, .int .i64 0] 57)
    have e0 : (w.alloc (.cells #[.int .i64 0, .int .i64 0, .int .i64 0] 57)).heap.size = w.heap.size + 1 := by simp
    rw [e0] at h0
    exact h0
  have HZr : Hid (((w.alloc (.cells #[.int .i64 0, .int .i64 0, .int .i64 0] 57)).alloc (.cells #[.int .i64 1, .int .i64 1, .int .i64 0] 57)).heap[w.heap.size]? = some (.cells #[.int .i64 0, .int .i64 0, .int .i64 0] 57 (0, 0))) := by
    show ((w.alloc (.cells #[.int .i64 0, .int .i64 0, .int .i64 0] 57)).alloc (.cells #[.int .i64 1, .int .i64 1, .int .i64 0] 57)).heap[w.heap.size]? = _
    rw [Below.heap_alloc _ _ _ (by simp)]
    exact heap_alloc_new w _
  have HB0 : Hid (Below w.heap.size w ((w.alloc (.cells #[.int .i64 0, .int .i64 0, .int .i64 0] 57)).alloc (.cells #[.int .i64 1, .int .i64 1, .int .i64 0] 57))) := ((Below.refl _ w).alloc (Nat.le_refl _) _).alloc (by simp) _
  go_enter Tryz.func22, Tryz.ntmps22
  go_wp2_with fail
  go_loopw [40] (fun i wr => ∃ k : Nat, k ≤ fs.length ∧ i = .int .i64 k ∧ wr.heap[w.heap.size + 1]? = some (.cells #[.int .i64 ((1 + (ns.take k).sum : Nat) : Int), .int .i64 ((1 + maxOf (ds.take k) : Nat) : Int), .int .i64 (((bs.take k).sum : Nat) : Int)] 57 (0, 0)) ∧ wr.heap[w.heap.size]? = some (.cells #[.int .i64 0, .int .i64 0, .int .i64 0] 57 (0, 0)) ∧ Below w.heap.size w wr) (fun i _ => fs.length - (intOf i).toNat)
  case atStart => exact ⟨0, Nat.zero_le _, rfl, HZ0.out, HZr.out, HB0.out⟩
  case round =>
    obtain ⟨k, hk, rfl, hz, hrb, hbel⟩ := hrel
    have HZ : Hid (wr.heap[w.heap.size + 1]? = some (.cells #[.int .i64 ((1 + (ns.take k).sum : Nat) : Int), .int .i64 ((1 + maxOf (ds.take k) : Nat) : Int), .int .i64 (((bs.take k).sum : Nat) : Int)] 57 (0, 0))) := hz
    have HRb : Hid (wr.heap[w.heap.size]? = some (.cells #[.int .i64 0, .int .i64 0, .int .i64 0] 57 (0, 0))) := hrb
    have HB : Hid (Below w.heap.size w wr) := hbel
    have hle := HLe.out k
    have hzw := lt_of_block hz
    clear hz hrb hbel
    by_cases hlt : k < fs.length
    · have hpe := HPp.out k hlt
      subst hpe
      obtain ⟨u, hcn, hcu, hst⟩ := HEl.out wr HB.out k hlt
      obtain ⟨T, y, rfl⟩ := st_iface hst
      have hle2 := HLe.out (k + 1)
      have htk := HTk.out k hlt
      have hnk : nodes n fs[k].2 ≤ 100000 := by omega
      have hdk : depth n fs[k].2 ≤ 100000 := by omega
      have hbk : lens n fs[k].2 ≤ 100000000 := by omega
      have hnl2 : fs[k].1.length ≤ 100000000 := by omega
      have HTK : Hid ((ns.take (k + 1)).sum = (ns.take k).sum + nodes n fs[k].2 ∧ maxOf (ds.take (k + 1)) = max (maxOf (ds.take k)) (depth n fs[k].2) ∧ (bs.take (k + 1)).sum = (bs.take k).sum + (fs[k].1.length + lens n fs[k].2)) := htk
      have HSt : Hid (St (fun c => w.heap.size ≤ c) wr n fs[k].2 (.iface T y)) := hst
      clear hst htk
      have hnm : (⟨fs[k].1.toArray⟩ : ByteArray).size = fs[k].1.length := by simp [ByteArray.size]
      generalize (⟨fs[k].1.toArray⟩ : ByteArray) = nm at *
      generalize fs[k].1.length = nl at *
      generalize fs[k].2 = el at *
      have hsw := HB.out.size
      have z2A : wr.cell? ⟨w.heap.size + 1, 2, none⟩ = some (.int .i64 (((bs.take k).sum : Nat) : Int)) := by rw [cell_of_row _ _ _ _ _ _ HZ.out]; rfl
      have f2A : wr.frozen? ⟨w.heap.size + 1, 2, none⟩ = false := frozen_of_row _ _ _ _ _ HZ.out
      have hbk2 : (bs.take k).sum ≤ 100000000 := by omega
      go_wp2_with fail
      have HZb := heap_setCell_same wr (w.heap.size + 1) 2 _ _ (.int .i64 (((bs.take k).sum : Int) + (nl : Int))) HZ.out
      have gS := grownBy_setCell wr (w.heap.size + 1) 2 (.int .i64 (((bs.take k).sum : Int) + (nl : Int)))
      have HZb := (Below.heap_alloc (wr.setCell ⟨w.heap.size + 1, 2, none⟩ (.int .i64 (((bs.take k).sum : Int) + (nl : Int)))) (.cells #[.string nm, .iface T y] 87) _ (by rw [heap_setCell_size]; exact hzw)).trans HZb
      have HStB := (HSt.out.grown gS (fun k e => by cases e; omega)).grown (World.grownBy_alloc _ (.cells #[.string nm, .iface T y] 87) none) (fun k e => by cases e)
      have HRB := (Below.heap_alloc (wr.setCell ⟨w.heap.size + 1, 2, none⟩ (.int .i64 (((bs.take k).sum : Int) + (nl : Int)))) (.cells #[.string nm, .iface T y] 87) w.heap.size (by rw [heap_setCell_size]; omega)).trans ((gS.block _ (lt_of_block HRb.out) (fun e => by have := Option.some.inj e; omega)).trans HRb.out)
      have HBB := (HB.out.grown gS HB.out.size (fun k e => by cases e; omega)).alloc (by rw [heap_setCell_size]; exact hsw) (.cells #[.string nm, .iface T y] 87)
      generalize (wr.setCell ⟨w.heap.size + 1, 2, none⟩ (.int .i64 (((bs.take k).sum : Int) + (nl : Int)))).alloc (.cells #[.string nm, .iface T y] 87) = wa at *
      have HZA : Hid (wa.heap[w.heap.size + 1]? = some (.cells #[.int .i64 ((1 + (ns.take k).sum : Nat) : Int), .int .i64 ((1 + maxOf (ds.take k) : Nat) : Int), .int .i64 (((bs.take k).sum + nl : Nat) : Int)] 57 (0, 0))) := by
        show wa.heap[w.heap.size + 1]? = _
        have e9 : (((bs.take k).sum + nl : Nat) : Int) = ((bs.take k).sum : Int) + (nl : Int) := by omega
        rw [e9]
        exact HZb
      have HRA : Hid (wa.heap[w.heap.size]? = some (.cells #[.int .i64 0, .int .i64 0, .int .i64 0] 57 (0, 0))) := HRB
      have HBA : Hid (Below w.heap.size w wa) := HBB
      have HStA : Hid (St (fun c => w.heap.size ≤ c) wa n el (.iface T y)) := HStB
      clear HZb HRB HBB HStB gS z2A f2A
      refine (HM.out _ el (.iface T y) wa HStA.out hnk hdk hbk).mono ?_
      rintro e w1 ⟨rfl, b1⟩
      have hz1 : w1.heap[w.heap.size + 1]? = some (.cells #[.int .i64 ((1 + (ns.take k).sum : Nat) : Int), .int .i64 ((1 + maxOf (ds.take k) : Nat) : Int), .int .i64 (((bs.take k).sum + nl : Nat) : Int)] 57 (0, 0)) := (b1.block _ (lt_of_block HZA.out)).trans HZA.out
      have HZ1 : Hid (w1.heap[w.heap.size + 1]? = some (.cells #[.int .i64 ((1 + (ns.take k).sum : Nat) : Int), .int .i64 ((1 + maxOf (ds.take k) : Nat) : Int), .int .i64 (((bs.take k).sum + nl : Nat) : Int)] 57 (0, 0))) := hz1
      have HR1 : Hid (w1.heap[w.heap.size]? = some (.cells #[.int .i64 0, .int .i64 0, .int .i64 0] 57 (0, 0))) := (b1.block _ (lt_of_block HRA.out)).trans HRA.out
      have HB1 : Hid (Below w.heap.size w w1) := HBA.out.trans (b1.mono HBA.out.size)
      clear b1 hz1
      go_wp2_with fail
      refine (hold_any (w.heap.size + 1) (1 + (ns.take k).sum) (1 + maxOf (ds.take k)) ((bs.take k).sum + nl) (nodes n el) (depth n el) (lens n el) w1 HZ1.out (by omega) (by omega) (by omega) (by omega) (by omega) (by omega)).mono ?_
      rintro e w2 ⟨rfl, g2, z2⟩
      have HZ2 : Hid (w2.heap[w.heap.size + 1]? = some (.cells #[.int .i64 ((1 + (ns.take (k + 1)).sum : Nat) : Int), .int .i64 ((1 + maxOf (ds.take (k + 1)) : Nat) : Int), .int .i64 (((bs.take (k + 1)).sum : Nat) : Int)] 57 (0, 0))) := by
        show w2.heap[w.heap.size + 1]? = _
        have e1 : 1 + (ns.take (k + 1)).sum = 1 + (ns.take k).sum + nodes n el := by rw [HTK.out.1]; omega
        have e2 : 1 + maxOf (ds.take (k + 1)) = max (1 + maxOf (ds.take k)) (depth n el + 1) := by rw [HTK.out.2.1]; omega
        have e3 : (bs.take (k + 1)).sum = (bs.take k).sum + nl + lens n el := by rw [HTK.out.2.2]; omega
        rw [e1, e2, e3]
        exact z2
      have HR2 : Hid (w2.heap[w.heap.size]? = some (.cells #[.int .i64 0, .int .i64 0, .int .i64 0] 57 (0, 0))) := (g2.block _ (lt_of_block HR1.out) (fun e => by simp at e)).trans HR1.out
      have HB2 : Hid (Below w.heap.size w w2) := HB1.out.grown g2 HB1.out.size (fun k e => by cases e; omega)
      clear g2 z2
      go_wp2_with fail
      go_roundw
      case rel => exact ⟨k + 1, by omega, by go_num, HZ2.out, HR2.out, HB2.out⟩
      case measure => simp [intOf]; omega
    · have hall := HAll.out k (by omega)
      have HA : Hid ((ns.take k).sum = ns.sum ∧ maxOf (ds.take k) = maxOf ds ∧ (bs.take k).sum = bs.sum) := hall
      have hz : wr.heap[w.heap.size + 1]? = some (.cells #[.int .i64 ((1 + ns.sum : Nat) : Int), .int .i64 ((1 + maxOf ds : Nat) : Int), .int .i64 ((bs.sum : Nat) : Int)] 57 (0, 0)) := by
        have := HZ.out
        rw [hall.1, hall.2.1, hall.2.2] at this
        exact this
      have z0 : wr.cell? ⟨w.heap.size + 1, 0, none⟩ = some (.int .i64 ((1 + ns.sum : Nat) : Int)) := by rw [cell_of_row _ _ _ _ _ _ hz]; rfl
      have z1 : wr.cell? ⟨w.heap.size + 1, 1, none⟩ = some (.int .i64 ((1 + maxOf ds : Nat) : Int)) := by rw [cell_of_row _ _ _ _ _ _ hz]; rfl
      have z2 : wr.cell? ⟨w.heap.size + 1, 2, none⟩ = some (.int .i64 ((bs.sum : Nat) : Int)) := by rw [cell_of_row _ _ _ _ _ _ hz]; rfl
      have r0 : wr.cell? ⟨w.heap.size, 0, none⟩ = some (.int .i64 0) := by rw [cell_of_row _ _ _ _ _ _ HRb.out]; rfl
      have r1 : wr.cell? ⟨w.heap.size, 1, none⟩ = some (.int .i64 0) := by rw [cell_of_row _ _ _ _ _ _ HRb.out]; rfl
      have r2 : wr.cell? ⟨w.heap.size, 2, none⟩ = some (.int .i64 0) := by rw [cell_of_row _ _ _ _ _ _ HRb.out]; rfl
      have f0 : wr.frozen? ⟨w.heap.size, 0, none⟩ = false := frozen_of_row _ _ _ _ _ HRb.out
      have f1 : wr.frozen? ⟨w.heap.size, 1, none⟩ = false := frozen_of_row _ _ _ _ _ HRb.out
      have f2 : wr.frozen? ⟨w.heap.size, 2, none⟩ = false := frozen_of_row _ _ _ _ _ HRb.out
      clear hall hz
      obtain ⟨A, hA⟩ : ∃ A : Int, A = ((1 + ns.sum : Nat) : Int) := ⟨_, rfl⟩
      obtain ⟨B, hB⟩ : ∃ B : Int, B = ((1 + maxOf ds : Nat) : Int) := ⟨_, rfl⟩
      obtain ⟨C, hC⟩ : ∃ C : Int, C = ((bs.sum : Nat) : Int) := ⟨_, rfl⟩
      rw [← hA] at z0
      rw [← hB] at z1
      rw [← hC] at z2
      have HAB : Hid (A = ((1 + ns.sum : Nat) : Int) ∧ B = ((1 + maxOf ds : Nat) : Int) ∧ C = ((bs.sum : Nat) : Int)) := ⟨hA, hB, hC⟩
      clear hA hB hC
      go_wp2_with fail
      exact bodyPost_ret (v := .agg #[.int .i64 A, .int .i64 B, .int .i64 C]) (by simp [results, Tryz.results22, go_sem, r0, r1, r2]) rfl ⟨by rw [HAB.out.1, HAB.out.2.1, HAB.out.2.2], ((HB.out.setCell (Nat.le_refl _) _).setCell (Nat.le_refl _) _).setCell (Nat.le_refl _) _⟩
theorem measure_ok : ∀ n, MeasureOK n
  | 0 => fun av j x w hSt hN hD hL => by
    have e : x = leafV j := hSt
    subst e
    exact measure_leaf j w
  | n + 1 => fun av j x w hSt hN hD hL => by
    have hM := measure_ok n
    match j, hSt, hN, hD, hL with
    | Sum.inl l, hSt, hN, hD, hL =>
      have e : x = leafV l := hSt
      subst e
      exact measure_leaf l w
    | Sum.inr (Sum.inl xs), hSt, hN, hD, hL => exact measure_list n hM av xs x w hSt hN hD hL
    | Sum.inr (Sum.inr fs), hSt, hN, hD, hL => exact measure_object n hM av fs x w hSt hN hD hL
end Go.Proofs.YtaogilpkeeigoaaGreatDoor
/- Contracts over this translation of what tells a value, at texts. -/
namespace Go.Proofs.YtaogilpkeeigoaaGreatDoor
open Go.RowKit
set_option linter.unusedVariables false
set_option linter.unusedSimpArgs false
abbrev textV (s : ByteArray) : Value := .iface 61 (.string s)
set_option maxRecDepth 100000 in
set_option maxHeartbeats 1000000 in
theorem write_text (B : Nat) (s : ByteArray) (v : Value) (l : Bs) (w : World) (hO : Own B w v l) (hB : B ≤ w.heap.size) (hlim : l.length + (quote s.data.toList).length ≤ 1000000000) (hs : s.size ≤ 100000000) :
    Calls Tryz.prog 66 #[v, textV s] w fun e w' => ∃ v', e = .returned v' ∧ Own B w' v' (l ++ quote s.data.toList) ∧ Below B w w' := by
  have HO : Hid (Own B w v l) := hO
  clear hO
  obtain ⟨a1, a2, a3, a4, a5, a6⟩ := tas_Text
  go_enter Tryz.func66, Tryz.ntmps66
  go_wp2_with fail
  refine (writeQuoted_any B s v l _ HO.out hB hlim hs).mono ?_
  rintro e w1 ⟨v', rfl, hO, hb⟩
  have HO1 : Hid (Own B w1 v' (l ++ quote s.data.toList)) := hO
  have HB1 : Hid (Below B w w1) := hb.below
  clear hO hb
  go_wp2_with fail
  go_ret
  exact ⟨v', rfl, HO1.out, HB1.out⟩
set_option maxRecDepth 100000 in
set_option maxHeartbeats 1000000 in
theorem text_text (s : ByteArray) (w : World) (hs : s.size ≤ 100000000) (hlim : (quote s.data.toList).length ≤ 1000000000) :
    Calls Tryz.prog 45 #[textV s] w fun e w' => e = .returned (.string ⟨(quote s.data.toList).toArray⟩) ∧ Below w.heap.size w w' := by
  go_enter Tryz.func45, Tryz.ntmps45
  go_wp2_with fail
  refine (write_text w.heap.size s _ [] _ (Own.nil _ _) (Nat.le_refl _) (by simpa using hlim) hs).mono ?_
  rintro e w1 ⟨v', rfl, hO, hb⟩
  have hcv := conv_own hO
  have HB1 : Hid (Below w.heap.size w w1) := hb
  clear hO hb
  go_wp2_with fail
  go_ret
  exact ⟨rfl, HB1.out⟩
set_option maxRecDepth 100000 in
set_option maxHeartbeats 1000000 in
theorem measure_text (s : ByteArray) (w : World) :
    Calls Tryz.prog 22 #[textV s] w fun e w' => e = .returned (.agg #[.int .i64 1, .int .i64 0, .int .i64 s.size]) ∧ Below w.heap.size w w' := by
  obtain ⟨a1, a2, a3, a4, a5, a6⟩ := tas_Text
  go_enter Tryz.func22, Tryz.ntmps22
  go_wp2_with fail
  exact bodyPost_ret (v := .agg #[.int .i64 1, .int .i64 0, .int .i64 s.size]) (by simp [results, Tryz.results22, go_sem]) rfl ⟨rfl, (Below.refl _ _).alloc (Nat.le_refl _) _⟩
set_option maxRecDepth 100000 in
set_option maxHeartbeats 1000000 in
theorem kindOf_text (s : ByteArray) (w : World) :
    Calls Tryz.prog 21 #[textV s] w fun e w' => e = .returned (.int .i64 4) ∧ w' = w := by
  obtain ⟨a1, a2, a3, a4, a5, a6⟩ := tas_Text
  go_enter Tryz.func21, Tryz.ntmps21
  go_wp2_with fail
  go_ret
  exact ⟨rfl, rfl⟩
/-- a document, if it is not too long -/
def toldE (q : Bs) : Array Value := if 2000 < q.length then #[.string ByteArray.empty, .int .i64 2] else #[.string ⟨q.toArray⟩, .int .i64 0]
theorem size_toArray (l : Bs) : (⟨l.toArray⟩ : ByteArray).size = l.length := by simp [ByteArray.size]
set_option maxRecDepth 100000 in
set_option maxHeartbeats 1000000 in
theorem tell_text (s : ByteArray) (w : World) (hs : s.size ≤ 100000000) (hlim : (quote s.data.toList).length ≤ 1000000000) :
    Calls Tryz.prog 24 #[textV s] w fun e w' => e = .returned (.tuple (toldE (quote s.data.toList))) ∧ Below w.heap.size w w' := by
  go_enter Tryz.func24, Tryz.ntmps24
  go_wp2_with fail
  refine (measure_text s _).mono ?_
  rintro e w1 ⟨rfl, hb⟩
  have HB1 : Hid (Below w.heap.size w w1) := hb
  clear hb
  have HSl : Hid (s.data.toList.length = s.size) := by show _ = _; cases s; simp [ByteArray.size]
  have HQl : Hid (s.data.toList.length ≤ (quote s.data.toList).length) := quote_geL _
  by_cases hbb : (2000 : Int) < (s.size : Int)
  · go_wp2_with fail
    go_ret2
    refine ⟨?_, HB1.out.alloc HB1.out.size _⟩
    rw [toldE, if_pos (by have := HSl.out; have := HQl.out; omega)]
    rfl
  go_wp2_with fail
  refine (text_text s _ hs hlim).mono ?_
  rintro e w2 ⟨rfl, hb⟩
  have HB2 : Hid (Below w.heap.size w w2) := (HB1.out.alloc HB1.out.size _).trans (hb.mono (by have := HB1.out.size; simp; omega))
  clear hb
  have HZ : Hid ((⟨(quote s.data.toList).toArray⟩ : ByteArray).size = (quote s.data.toList).length) := size_toArray _
  generalize hq : (⟨(quote s.data.toList).toArray⟩ : ByteArray) = q at *
  have HQ : Hid ((⟨(quote s.data.toList).toArray⟩ : ByteArray) = q) := hq
  clear hq
  by_cases hgt : (2000 : Int) < (q.size : Int)
  · go_wp2_with fail
    go_ret2
    refine ⟨?_, HB2.out⟩
    rw [toldE, if_pos (by have := HZ.out; omega)]
    rfl
  · go_wp2_with fail
    go_ret2
    refine ⟨?_, HB2.out⟩
    rw [toldE, if_neg (by have := HZ.out; omega), HQ.out]
    rfl
end Go.Proofs.YtaogilpkeeigoaaGreatDoor
/- Contract of json.Quote over this translation, at every text. -/
namespace Go.Proofs.YtaogilpkeeigoaaGreatDoor
open Go.RowKit
set_option linter.unusedVariables false
set_option linter.unusedSimpArgs false
def quoteE (s : Bs) : Array Value :=
  if s.all meant then (if 2000 < s.length then #[.string ByteArray.empty, .int .i64 2] else if 2000 < (quote s).length then #[.string ByteArray.empty, .int .i64 2] else #[.string ⟨(quote s).toArray⟩, .int .i64 0])
  else #[.string ByteArray.empty, .int .i64 16]
theorem quoteB_two (c : UInt8) : (quoteB c).length ≤ 2 := by
  unfold quoteB
  split
  · simp
  · split
    · simp
    · split <;> simp
theorem quote_len2 : ∀ s : Bs, (s.flatMap quoteB).length ≤ 2 * s.length
  | [] => by simp
  | c :: s => by
    have := quote_len2 s
    have h := quoteB_two c
    simp only [List.flatMap_cons, List.length_append, List.length_cons]
    omega
theorem quote_lenQ (s : Bs) : (quote s).length ≤ 2 * s.length + 2 := by
  have := quote_len2 s
  simp only [quote, List.length_cons, List.length_append, List.length_nil]
  omega
theorem meant_of {c : UInt8} (h : plain c = true) : meant c = true := by simp [meant, h]
theorem not_meant {c : UInt8} (h : plain c = false) (h1 : c ≠ 10) (h2 : c ≠ 9) : meant c = false := by simp [meant, h, h1, h2]
theorem all_bad {s : ByteArray} {k : Nat} (hk : k < s.size) (h : meant s[k] = false) : s.data.toList.all meant = false := by
  rw [List.all_eq_false]
  refine ⟨s[k], ?_, by simp [h]⟩
  have h' : k < s.data.toList.length := by simpa using hk
  exact List.getElem_mem h'
theorem all_good {s : ByteArray} (h : ∀ k (hk : k < s.size), meant s[k] = true) : s.data.toList.all meant = true := by
  rw [List.all_eq_true]
  intro c hc
  obtain ⟨k, hk, rfl⟩ := List.getElem_of_mem hc
  exact h k (by simpa using hk)
set_option maxRecDepth 100000 in
set_option maxHeartbeats 1000000 in
theorem quote_any (s : ByteArray) (w : World) (hs : s.size ≤ maxLen) :
    Calls Tryz.prog 10 #[.string s] w fun e w' => e = .returned (.tuple (quoteE s.data.toList)) ∧ Below w.heap.size w w' := by
  unfold maxLen at hs
  go_enter Tryz.func10, Tryz.ntmps10
  go_wp2_with fail
  go_loopw [4] (fun i wr => ∃ k : Nat, k ≤ s.size ∧ i = .int .i64 k ∧ (∀ j (hj : j < s.size), j < k → meant s[j] = true) ∧ Below w.heap.size w wr) (fun i _ => s.size - (intOf i).toNat)
  case atStart => exact ⟨0, Nat.zero_le _, rfl, fun j hj h => absurd h (Nat.not_lt_zero _), Below.refl _ _⟩
  case round =>
    obtain ⟨k, hk, rfl, hall, hbel⟩ := hrel
    have HW : Hid (Below w.heap.size w wr) := hbel
    clear hbel
    have HA : Hid (∀ j (hj : j < s.size), j < k → meant s[j] = true) := hall
    clear hall
    by_cases hlt : k < s.size
    · cases hpl : plain s[k] with
      | true =>
        have HP : Hid (plain s[k] = true) := hpl
        go_wp2_with fail
        refine (isPlain_any _ _).mono ?_
        rintro e w1 ⟨rfl, rfl⟩
        go_wp2_with fail
        go_roundw
        case rel => exact ⟨k + 1, by omega, by go_num, (fun j hj h => by
          rcases Nat.lt_succ_iff_lt_or_eq.mp h with h | rfl
          · exact HA.out j hj h
          · exact meant_of HP.out), HW.out⟩
        case measure => simp [intOf]; omega
      | false =>
        have HP : Hid (plain s[k] = false) := hpl
        by_cases h10 : s[k] = 10
        · have H10 : Hid (s[k] = 10) := h10
          have hb : ((s[k].toNat : Int) != 10) = false := by rw [h10]; rfl
          clear h10
          go_wp2_with fail
          refine (isPlain_any _ _).mono ?_
          rintro e w1 ⟨rfl, rfl⟩
          go_wp2_with fail
          go_roundw
          case rel => exact ⟨k + 1, by omega, by go_num, (fun j hj h => by
            rcases Nat.lt_succ_iff_lt_or_eq.mp h with h | rfl
            · exact HA.out j hj h
            · rw [H10.out]; decide), HW.out⟩
          case measure => simp [intOf]; omega
        have H10 : Hid (s[k] ≠ 10) := h10
        have hb10 : ((s[k].toNat : Int) != 10) = true := bool_ne (d := 10) h10
        clear h10
        by_cases h9 : s[k] = 9
        · have H9 : Hid (s[k] = 9) := h9
          have hb : ((s[k].toNat : Int) != 9) = false := by rw [h9]; rfl
          clear h9
          go_wp2_with fail
          refine (isPlain_any _ _).mono ?_
          rintro e w1 ⟨rfl, rfl⟩
          go_wp2_with fail
          go_roundw
          case rel => exact ⟨k + 1, by omega, by go_num, (fun j hj h => by
            rcases Nat.lt_succ_iff_lt_or_eq.mp h with h | rfl
            · exact HA.out j hj h
            · rw [H9.out]; decide), HW.out⟩
          case measure => simp [intOf]; omega
        have H9 : Hid (s[k] ≠ 9) := h9
        have hb9 : ((s[k].toNat : Int) != 9) = true := bool_ne (d := 9) h9
        clear h9
        go_wp2_with fail
        refine (isPlain_any _ _).mono ?_
        rintro e w1 ⟨rfl, rfl⟩
        go_wp2_with fail
        go_ret2
        refine ⟨?_, HW.out⟩
        rw [quoteE, all_bad hlt (not_meant HP.out H10.out H9.out)]
        rfl
    · have HG : Hid (s.data.toList.all meant = true) := all_good (fun j hj => HA.out j hj (by omega))
      by_cases hbig : (2000 : Int) < (s.size : Int)
      · go_wp2_with fail
        go_ret2
        refine ⟨?_, HW.out⟩
        rw [quoteE, HG.out, if_pos rfl, if_pos (by simp; omega)]
        rfl
      · have HQL := quote_lenQ s.data.toList
        have hsl : s.data.toList.length = s.size := by simp
        go_wp2_with fail
        refine (tell_text s _ (by omega) (by omega)).mono ?_
        rintro e w1 ⟨rfl, hb⟩
        have HB : Hid (Below w.heap.size w w1) := HW.out.trans (hb.mono HW.out.size)
        clear hb
        have HE : Hid (quoteE s.data.toList = toldE (quote s.data.toList)) := by
          show quoteE s.data.toList = _
          rw [quoteE, HG.out, if_pos rfl, if_neg (by omega)]
          rfl
        by_cases hgt : 2000 < (quote s.data.toList).length
        · have HE2 : Hid (toldE (quote s.data.toList) = #[.string ByteArray.empty, .int .i64 2]) := by
            show toldE _ = _
            rw [toldE, if_pos hgt]
          rw [HE2.out]
          go_wp2_with fail
          go_ret2
          exact ⟨by rw [HE.out, HE2.out]; rfl, HB.out⟩
        · have HE2 : Hid (toldE (quote s.data.toList) = #[.string ⟨(quote s.data.toList).toArray⟩, .int .i64 0]) := by
            show toldE _ = _
            rw [toldE, if_neg hgt]
          rw [HE2.out]
          go_wp2_with fail
          go_ret2
          exact ⟨by rw [HE.out, HE2.out]; rfl, HB.out⟩
end Go.Proofs.YtaogilpkeeigoaaGreatDoor
/- Contract over this translation of the reference's JsonQuote, at every text that is not too long for its library. -/
namespace Go.Proofs.YtaogilpkeeigoaaGreatDoor
open Go.RowKit
set_option linter.unusedVariables false
set_option linter.unusedSimpArgs false
theorem quoteE_bad {s : Bs} (h : s.all meant = false) : quoteE s = #[.string ByteArray.empty, .int .i64 16] := by simp [quoteE, h]
theorem quoteE_long {s : Bs} (h : s.all meant = true) (hl : 2000 < (quote s).length) : quoteE s = #[.string ByteArray.empty, .int .i64 2] := by
  simp [quoteE, h, hl]
theorem quoteE_good {s : Bs} (h : s.all meant = true) (hl : ¬ 2000 < (quote s).length) : quoteE s = #[.string ⟨(quote s).toArray⟩, .int .i64 0] := by
  have := quote_ge s
  have h2 : ¬ 2000 < s.length := by omega
  simp [quoteE, h, hl, h2]
theorem meant_mid {c : UInt8} (h1 : ¬ (126 : Int) < (c.toNat : Int)) (h2 : ¬ (c.toNat : Int) < 32) : meant c = true := meant_of ((plain_iff c).2 ⟨by omega, by omega⟩)
theorem meant_high {c : UInt8} (h1 : (126 : Int) < (c.toNat : Int)) : meant c = false := by
  refine not_meant ?_ ?_ ?_
  · cases h : plain c with
    | false => rfl
    | true => have := (plain_iff c).1 h; omega
  · rintro rfl; revert h1; decide
  · rintro rfl; revert h1; decide
theorem meant_low {c : UInt8} (h1 : (c.toNat : Int) < 32) (h9 : c ≠ 9) (h10 : c ≠ 10) : meant c = false := by
  refine not_meant ?_ h10 h9
  cases h : plain c with
  | false => rfl
  | true => have := (plain_iff c).1 h; omega
set_option maxRecDepth 100000 in
set_option maxHeartbeats 2000000 in
theorem rfjquote_any (s : ByteArray) (w : World) (hs : s.size ≤ 1100000) (hR : Room w) :
    Calls Tryz.prog 11 #[.string s] w fun e w' => e = .returned (.tuple (quoteE s.data.toList)) ∧ Below w.heap.size w w' := by
  have HRm : Hid (Room w) := hR
  clear hR
  go_enter Tryz.func11, Tryz.ntmps11
  go_wp2_with fail
  go_loopw [8] (fun i wr => ∃ k : Nat, k ≤ s.size ∧ i = .int .i64 k ∧ (∀ j (hj : j < s.size), j < k → meant s[j] = true) ∧ Below w.heap.size w wr) (fun i _ => s.size - (intOf i).toNat)
  case atStart => exact ⟨0, Nat.zero_le _, rfl, fun j hj h => absurd h (Nat.not_lt_zero _), Below.refl _ _⟩
  case round =>
    obtain ⟨k, hk, rfl, hall, hbel⟩ := hrel
    have HW : Hid (Below w.heap.size w wr) := hbel
    clear hbel
    have HA : Hid (∀ j (hj : j < s.size), j < k → meant s[j] = true) := hall
    clear hall
    by_cases hlt : k < s.size
    · by_cases h126 : (126 : Int) < (s[k].toNat : Int)
      · have HBad : Hid (quoteE s.data.toList = #[.string ByteArray.empty, .int .i64 16]) := quoteE_bad (all_bad hlt (meant_high h126))
        go_wp2_with fail
        go_ret2
        exact ⟨by rw [HBad.out]; rfl, HW.out⟩
      · by_cases h32 : (s[k].toNat : Int) < 32
        · by_cases h9 : s[k] = 9
          · have HG : Hid (meant s[k] = true) := by show _ = true; rw [h9]; decide
            have hb : ((s[k].toNat : Int) != 9) = false := by rw [h9]; rfl
            have hb2 : ((s[k].toNat : Int) != 10) = true := by rw [h9]; rfl
            clear h9
            go_wp2_with fail
            go_roundw
            case rel => exact ⟨k + 1, by omega, by go_num, (fun j hj h => by
              rcases Nat.lt_succ_iff_lt_or_eq.mp h with h | rfl
              · exact HA.out j hj h
              · exact HG.out), HW.out⟩
            case measure => simp [intOf]; omega
          · have hb9 : ((s[k].toNat : Int) != 9) = true := bool_ne (d := 9) h9
            by_cases h10 : s[k] = 10
            · have HG : Hid (meant s[k] = true) := by show _ = true; rw [h10]; decide
              have hb : ((s[k].toNat : Int) != 10) = false := by rw [h10]; rfl
              clear h10 h9
              go_wp2_with fail
              go_roundw
              case rel => exact ⟨k + 1, by omega, by go_num, (fun j hj h => by
                rcases Nat.lt_succ_iff_lt_or_eq.mp h with h | rfl
                · exact HA.out j hj h
                · exact HG.out), HW.out⟩
              case measure => simp [intOf]; omega
            · have hb10 : ((s[k].toNat : Int) != 10) = true := bool_ne (d := 10) h10
              have HBad : Hid (quoteE s.data.toList = #[.string ByteArray.empty, .int .i64 16]) := quoteE_bad (all_bad hlt (meant_low h32 h9 h10))
              clear h9 h10
              go_wp2_with fail
              go_ret2
              exact ⟨by rw [HBad.out]; rfl, HW.out⟩
        · have HG : Hid (meant s[k] = true) := meant_mid h126 h32
          go_wp2_with fail
          go_roundw
          case rel => exact ⟨k + 1, by omega, by go_num, (fun j hj h => by
            rcases Nat.lt_succ_iff_lt_or_eq.mp h with h | rfl
            · exact HA.out j hj h
            · exact HG.out), HW.out⟩
          case measure => simp [intOf]; omega
    · have HAll : Hid (s.data.toList.all meant = true) := all_good (fun j hj => HA.out j hj (by omega))
      have hR2 : Hid (Room wr) := HRm.out.below HW.out
      have HQ : Hid (Calls Tryz.prog 25 #[.string s] wr fun e w' => e = .returned (.string ⟨(quote s.data.toList).toArray⟩) ∧ Below wr.heap.size wr w') := rfquoted_any s wr hs hR2.out
      have HSz : Hid ((⟨(quote s.data.toList).toArray⟩ : ByteArray).size = (quote s.data.toList).length) := size_ofR _
      have hql := quote_len s.data.toList
      have hqs : s.data.toList.length = s.size := by simp
      have HLong : Hid (2000 < (quote s.data.toList).length → quoteE s.data.toList = #[.string ByteArray.empty, .int .i64 2]) := quoteE_long HAll.out
      have HGood : Hid (¬ 2000 < (quote s.data.toList).length → quoteE s.data.toList = #[.string ⟨(quote s.data.toList).toArray⟩, .int .i64 0]) := quoteE_good HAll.out
      go_wp2_with fail
      refine Calls.mono HQ.out ?_
      rintro e w1 ⟨rfl, b1⟩
      have HB1 : Hid (Below w.heap.size w w1) := HW.out.trans (b1.mono HW.out.size)
      have hz : (⟨(quote s.data.toList).toArray⟩ : ByteArray).size ≤ 100000000 := by rw [HSz.out]; omega
      clear b1 hql hqs
      by_cases hl : 2000 < (quote s.data.toList).length
      · have HX := HLong.out hl
        have HX : Hid (quoteE s.data.toList = #[.string ByteArray.empty, .int .i64 2]) := HX
        rw [← HSz.out] at hl
        clear HLong HGood HQ
        generalize (⟨(quote s.data.toList).toArray⟩ : ByteArray) = q at *
        go_wp2_with fail
        go_ret2
        exact ⟨by rw [HX.out]; rfl, HB1.out⟩
      · have HX := HGood.out hl
        have HX : Hid (quoteE s.data.toList = #[.string ⟨(quote s.data.toList).toArray⟩, .int .i64 0]) := HX
        rw [← HSz.out] at hl
        clear HLong HGood HQ
        generalize (⟨(quote s.data.toList).toArray⟩ : ByteArray) = q at *
        go_wp2_with fail
        go_ret2
        exact ⟨by rw [HX.out]; rfl, HB1.out⟩
end Go.Proofs.YtaogilpkeeigoaaGreatDoor
/- Contracts over this translation of json.Kind at every text, and of the reference's Rest. -/
namespace Go.Proofs.YtaogilpkeeigoaaGreatDoor
open Go.RowKit
set_option linter.unusedVariables false
set_option linter.unusedSimpArgs false
set_option maxRecDepth 100000 in
set_option maxHeartbeats 1000000 in
theorem kindOf_leaf (l : Leaf) (w : World) :
    Calls Tryz.prog 21 #[leafV l] w fun e w' => e = .returned (.int .i64 (kindLeaf l)) ∧ w' = w := by
  match l with
  | none =>
    obtain ⟨a1, a2, a3, a4, a5, a6⟩ := tas_Null
    unfold leafV
    go_enter Tryz.func21, Tryz.ntmps21
    go_wp2_with fail
    go_ret
    exact ⟨rfl, rfl⟩
  | some (Sum.inl b) =>
    obtain ⟨a1, a2, a3, a4, a5, a6⟩ := tas_Bool
    unfold leafV
    go_enter Tryz.func21, Tryz.ntmps21
    go_wp2_with fail
    go_ret
    exact ⟨rfl, rfl⟩
  | some (Sum.inr (Sum.inl i)) =>
    obtain ⟨a1, a2, a3, a4, a5, a6⟩ := tas_Number
    unfold leafV
    go_enter Tryz.func21, Tryz.ntmps21
    go_wp2_with fail
    go_ret
    exact ⟨rfl, rfl⟩
  | some (Sum.inr (Sum.inr s)) =>
    obtain ⟨a1, a2, a3, a4, a5, a6⟩ := tas_Text
    unfold leafV
    go_enter Tryz.func21, Tryz.ntmps21
    go_wp2_with fail
    go_ret
    exact ⟨rfl, rfl⟩
set_option maxRecDepth 100000 in
set_option maxHeartbeats 1000000 in
theorem kindOf_list (x : Value) (w : World) :
    Calls Tryz.prog 21 #[.iface 82 x] w fun e w' => e = .returned (.int .i64 5) ∧ w' = w := by
  obtain ⟨a1, a2, a3, a4, a5, a6⟩ := tas_List
  go_enter Tryz.func21, Tryz.ntmps21
  go_wp2_with fail
  go_ret
  exact ⟨rfl, rfl⟩
set_option maxRecDepth 100000 in
set_option maxHeartbeats 1000000 in
theorem kindOf_object (x : Value) (w : World) :
    Calls Tryz.prog 21 #[.iface 84 x] w fun e w' => e = .returned (.int .i64 6) ∧ w' = w := by
  obtain ⟨a1, a2, a3, a4, a5, a6⟩ := tas_Object
  go_enter Tryz.func21, Tryz.ntmps21
  go_wp2_with fail
  go_ret
  exact ⟨rfl, rfl⟩
theorem kindOf_any : ∀ (n : Nat) (av : Nat → Prop) (j : J n) (x : Value) (w : World), St av w n j x → Calls Tryz.prog 21 #[x] w fun e w' => e = .returned (.int .i64 (kindJ n j)) ∧ w' = w
  | 0, av, j, x, w, h => by
    have e : x = leafV j := h
    subst e
    exact kindOf_leaf j w
  | n + 1, av, Sum.inl l, x, w, h => by
    have e : x = leafV l := h
    subst e
    exact kindOf_leaf l w
  | n + 1, av, Sum.inr (Sum.inl xs), x, w, h => by
    obtain ⟨p, g, cap, vs, rfl, _⟩ := h.list
    exact kindOf_list _ w
  | n + 1, av, Sum.inr (Sum.inr fs), x, w, h => by
    obtain ⟨p, g, cap, vs, rfl, _⟩ := h.obj
    exact kindOf_object _ w
def kindE (s : Bs) : Array Value :=
  match read s with
  | .error e => #[.int .i64 0, .int .i64 e]
  | .ok j => #[.int .i64 (kindJ 10 j), .int .i64 0]
set_option maxRecDepth 100000 in
set_option maxHeartbeats 2000000 in
theorem kind_any (t : ByteArray) (w : World) (hs : t.size ≤ maxLen) :
    Calls Tryz.prog 7 #[.string t] w fun e w' => e = .returned (.tuple (kindE t.data.toList)) ∧ Below w.heap.size w w' := by
  go_enter Tryz.func7, Tryz.ntmps7
  go_wp2_with fail
  refine (read_any t _ hs).mono ?_
  rintro e w1 ⟨b1, h1⟩
  have HB1 : Hid (Below w.heap.size w w1) := b1
  clear b1
  rcases h1 with ⟨er, hr, her, her2, rfl⟩ | ⟨j, v, hr, rfl, hone, hst⟩
  · have HE : Hid (kindE t.data.toList = #[.int .i64 0, .int .i64 er]) := by
      show kindE t.data.toList = _
      rw [kindE, hr]
    have hbe : ((er : Int) != 0) = true := by rw [bne_iff_ne]; omega
    clear hr
    go_wp2_with fail
    go_ret2
    exact ⟨by rw [HE.out]; rfl, HB1.out⟩
  · have HE : Hid (kindE t.data.toList = #[.int .i64 (kindJ 10 j), .int .i64 0]) := by
      show kindE t.data.toList = _
      rw [kindE, hr]
    have hx := kindOf_any 10 _ j v w1 hst
    have HX : Hid (Calls Tryz.prog 21 #[v] w1 fun e w' => e = .returned (.int .i64 (kindJ 10 j)) ∧ w' = w1) := hx
    clear hr hst hx
    go_wp2_with fail
    refine Calls.mono HX.out ?_
    rintro e w2 ⟨rfl, rfl⟩
    go_wp2_with fail
    go_ret2
    exact ⟨by rw [HE.out]; rfl, HB1.out⟩
end Go.Proofs.YtaogilpkeeigoaaGreatDoor
/- Contracts over this translation of json.Size, at every text. -/
namespace Go.Proofs.YtaogilpkeeigoaaGreatDoor
open Go.RowKit
set_option linter.unusedVariables false
set_option linter.unusedSimpArgs false
/-- what Size answers -/
def sizeE (s : Bs) : Array Value :=
  match read s with
  | .error e => #[.int .i64 0, .int .i64 0, .int .i64 e]
  | .ok j => #[.int .i64 (nodes 10 j), .int .i64 (depth 10 j), .int .i64 0]
set_option maxRecDepth 100000 in
set_option maxHeartbeats 2000000 in
theorem size_any (t : ByteArray) (w : World) (hs : t.size ≤ maxLen) :
    Calls Tryz.prog 8 #[.string t] w fun e w' => e = .returned (.tuple (sizeE t.data.toList)) ∧ Below w.heap.size w w' := by
  go_enter Tryz.func8, Tryz.ntmps8
  go_wp2_with fail
  refine (read_any t _ hs).mono ?_
  rintro e w1 ⟨b1, h1⟩
  have HB1 : Hid (Below w.heap.size w w1) := b1
  clear b1
  rcases h1 with ⟨er, hr, her, her2, rfl⟩ | ⟨j, v, hr, rfl, hone, hst⟩
  · have HE : Hid (sizeE t.data.toList = #[.int .i64 0, .int .i64 0, .int .i64 er]) := by
      show sizeE t.data.toList = _
      rw [sizeE, hr]
    have hbe : ((er : Int) != 0) = true := by rw [bne_iff_ne]; omega
    clear hr
    go_wp2_with fail
    exact bodyPost_ret (v := .tuple #[.int .i64 0, .int .i64 0, .int .i64 er]) (by simp [results, Tryz.results8, go_sem]) rfl ⟨by rw [HE.out], HB1.out⟩
  · have HE : Hid (sizeE t.data.toList = #[.int .i64 (nodes 10 j), .int .i64 (depth 10 j), .int .i64 0]) := by
      show sizeE t.data.toList = _
      rw [sizeE, hr]
    have hz := read_size hr
    have hx := measure_ok 10 _ j v w1 hst (by omega) (by omega) (Nat.le_trans (lens_le 10 j) (by have := read_short hr; omega))
    have HX : Hid (Calls Tryz.prog 22 #[v] w1 fun e w' => e = .returned (.agg #[.int .i64 (nodes 10 j), .int .i64 (depth 10 j), .int .i64 (lens 10 j)]) ∧ Below w1.heap.size w1 w') := hx
    clear hr hst hx
    go_wp2_with fail
    refine Calls.mono HX.out ?_
    rintro e w2 ⟨rfl, b2⟩
    have HB2 : Hid (Below w.heap.size w w2) := HB1.out.trans (b2.mono HB1.out.size)
    clear b2
    have hxa : (w2.alloc (.cells #[.int .i64 (nodes 10 j), .int .i64 (depth 10 j), .int .i64 (lens 10 j)] 57)).heap[w2.heap.size]? = some (.cells #[.int .i64 (nodes 10 j), .int .i64 (depth 10 j), .int .i64 (lens 10 j)] 57 (0, 0)) := heap_alloc_new w2 _
    have x0 : (w2.alloc (.cells #[.int .i64 (nodes 10 j), .int .i64 (depth 10 j), .int .i64 (lens 10 j)] 57)).cell? ⟨w2.heap.size, 0, none⟩ = some (.int .i64 (nodes 10 j)) := by rw [cell_of_row _ _ _ _ _ _ hxa]; rfl
    have x1 : (w2.alloc (.cells #[.int .i64 (nodes 10 j), .int .i64 (depth 10 j), .int .i64 (lens 10 j)] 57)).cell? ⟨w2.heap.size, 1, none⟩ = some (.int .i64 (depth 10 j)) := by rw [cell_of_row _ _ _ _ _ _ hxa]; rfl
    have HBa : Hid (Below w.heap.size w (w2.alloc (.cells #[.int .i64 (nodes 10 j), .int .i64 (depth 10 j), .int .i64 (lens 10 j)] 57))) := HB2.out.alloc HB2.out.size _
    clear hxa
    go_wp2_with fail
    generalize w2.alloc (.cells #[.int .i64 (nodes 10 j), .int .i64 (depth 10 j), .int .i64 (lens 10 j)] 57) = wa at *
    go_region
    go_wp2_with fail
    exact bodyPost_ret (v := .tuple #[.int .i64 (nodes 10 j), .int .i64 (depth 10 j), .int .i64 0]) (by simp [results, Tryz.results8, go_sem]) rfl ⟨by rw [HE.out], HBa.out.drew⟩
end Go.Proofs.YtaogilpkeeigoaaGreatDoor
/- Contracts over this translation of json.Equal and Same, at every text. -/
namespace Go.Proofs.YtaogilpkeeigoaaGreatDoor
open Go.RowKit
set_option linter.unusedVariables false
set_option linter.unusedSimpArgs false
/-- two values, one document -/
def sameE (a b : Bs) : Array Value :=
  match read a with
  | .error e => #[.bool false, .int .i64 e]
  | .ok j => match read b with
    | .error e => #[.bool false, .int .i64 e]
    | .ok i => #[.bool (tell 10 j == tell 10 i), .int .i64 0]
set_option maxRecDepth 100000 in
set_option maxHeartbeats 2000000 in
theorem equal_any (j i : J 10) (av av' : Nat → Prop) (x y : Value) (w : World) (hx : St av w 10 j x) (hy : St av' w 10 i y) (gj : Fit 10 j) (gi : Fit 10 i) (hT : Tab w.heap.size w) (lj : (tell 10 j).length ≤ 100000000) (li : (tell 10 i).length ≤ 100000000) :
    Calls Tryz.prog 26 #[x, y] w fun e w' => e = .returned (.bool (tell 10 j == tell 10 i)) ∧ Below w.heap.size w w' := by
  have h1 := text_any 10 av j x w hx gj hT lj
  have HY : Hid (∀ w1, Below w.heap.size w w1 → Calls Tryz.prog 45 #[y] w1 fun e w' => e = .returned (.string ⟨(tell 10 i).toArray⟩) ∧ Below w1.heap.size w1 w') := fun w1 hb =>
    text_any 10 (fun c => w.heap.size ≤ c) i y w1 ((hy.wide (fun c hc => Or.inr hc)).step hb.size (fun c hc _ => hb.block c hc)) gi ((hT.below hb).mono hb.size) li
  have HX : Hid (Calls Tryz.prog 45 #[x] w fun e w' => e = .returned (.string ⟨(tell 10 j).toArray⟩) ∧ Below w.heap.size w w') := h1
  clear h1 hx hy gj gi hT lj li
  have HEq : Hid (((⟨(tell 10 j).toArray⟩ : ByteArray).toList == (⟨(tell 10 i).toArray⟩ : ByteArray).toList) = (tell 10 j == tell 10 i)) := by
    show _ = _
    rw [ByteArray.toList_eq, ByteArray.toList_eq]
  generalize (⟨(tell 10 j).toArray⟩ : ByteArray) = tj at *
  generalize (⟨(tell 10 i).toArray⟩ : ByteArray) = ti at *
  generalize (tell 10 j == tell 10 i) = eq at *
  go_enter Tryz.func26, Tryz.ntmps26
  go_wp2_with fail
  refine Calls.mono HX.out ?_
  rintro e w1 ⟨rfl, b1⟩
  have HB1 : Hid (Below w.heap.size w w1) := b1
  clear b1
  go_wp2_with fail
  refine Calls.mono (HY.out w1 HB1.out) ?_
  rintro e w2 ⟨rfl, b2⟩
  have HB2 : Hid (Below w.heap.size w w2) := HB1.out.trans (b2.mono HB1.out.size)
  clear b2
  go_wp2_with fail
  go_ret
  exact ⟨by rw [← HEq.out]; rfl, HB2.out⟩
set_option maxRecDepth 100000 in
set_option maxHeartbeats 2000000 in
theorem same_any (a b : ByteArray) (w : World) (ha : a.size ≤ maxLen) (hb : b.size ≤ maxLen) (hT : Tab w.heap.size w) :
    Calls Tryz.prog 12 #[.string a, .string b] w fun e w' => e = .returned (.tuple (sameE a.data.toList b.data.toList)) ∧ Below w.heap.size w w' := by
  have HT : Hid (Tab w.heap.size w) := hT
  clear hT
  go_enter Tryz.func12, Tryz.ntmps12
  go_wp2_with fail
  refine (read_any a w ha).mono ?_
  rintro e w1 ⟨b1, h1⟩
  have HB1 : Hid (Below w.heap.size w w1) := b1
  clear b1
  rcases h1 with ⟨er, hr, her, her2, rfl⟩ | ⟨j, v, hr, rfl, hone, hst⟩
  · have HE : Hid (sameE a.data.toList b.data.toList = #[.bool false, .int .i64 er]) := by
      show sameE _ _ = _
      rw [sameE, hr]
    have hbe : ((er : Int) != 0) = true := by rw [bne_iff_ne]; omega
    clear hr
    go_wp2_with fail
    go_ret2
    exact ⟨by rw [HE.out]; rfl, HB1.out⟩
  · have HR : Hid (read a.data.toList = .ok j) := hr
    have HSt : Hid (St (fun c => c < w.heap.size) w1 10 j v) := hst
    clear hr hst
    go_wp2_with fail
    refine (read_any b w1 hb).mono ?_
    rintro e w2 ⟨b2, h2⟩
    have HB2 : Hid (Below w1.heap.size w1 w2) := b2
    have HB02 : Hid (Below w.heap.size w w2) := HB1.out.trans (b2.mono HB1.out.size)
    clear b2
    rcases h2 with ⟨er, hr, her, her2, rfl⟩ | ⟨i, u, hr, rfl, hone2, hst2⟩
    · have HE : Hid (sameE a.data.toList b.data.toList = #[.bool false, .int .i64 er]) := by
        show sameE _ _ = _
        rw [sameE, HR.out]
        simp only [hr]
      have hbe : ((er : Int) != 0) = true := by rw [bne_iff_ne]; omega
      clear hr
      go_wp2_with fail
      go_ret2
      exact ⟨by rw [HE.out]; rfl, HB02.out⟩
    · have HE : Hid (sameE a.data.toList b.data.toList = #[.bool (tell 10 j == tell 10 i), .int .i64 0]) := by
        show sameE _ _ = _
        rw [sameE, HR.out]
        simp only [hr]
      have s1 := read_short HR.out
      have s2 := read_short hr
      have hv2 : St (fun c => w1.heap.size ≤ c) w2 10 j v := ((HSt.out.wide (fun c hc => Or.inr hc)).step HB2.out.size (fun c hc _ => HB2.out.block c hc))
      have hq := equal_any j i _ _ v u w2 hv2 hst2 (fit_of_good _ _ (read_good HR.out)) (fit_of_good _ _ (read_good hr)) ((HT.out.below HB02.out).mono HB02.out.size) (by omega) (by omega)
      have HQ : Hid (Calls Tryz.prog 26 #[v, u] w2 fun e w' => e = .returned (.bool (tell 10 j == tell 10 i)) ∧ Below w2.heap.size w2 w') := hq
      clear hr hst2 hq hv2 s1 s2
      generalize (tell 10 j == tell 10 i) = eq at *
      go_wp2_with fail
      refine Calls.mono HQ.out ?_
      rintro e w3 ⟨rfl, b3⟩
      have HB3 : Hid (Below w.heap.size w w3) := HB02.out.trans (b3.mono HB02.out.size)
      clear b3
      go_wp2_with fail
      go_ret2
      exact ⟨by rw [HE.out]; rfl, HB3.out⟩
end Go.Proofs.YtaogilpkeeigoaaGreatDoor
/- The law JsonSays over this translation: it answers true at every two texts that are not too long for its library, and leaves old memory alone. -/
namespace Go.Proofs.YtaogilpkeeigoaaGreatDoor
open Go.RowKit
set_option linter.unusedVariables false
set_option linter.unusedSimpArgs false
theorem headJ_kind : ∀ (n : Nat) (j : J n), (headJ n j).k = kindJ n j
  | 0, l => by rcases l with _ | b | i | s <;> rfl
  | _ + 1, Sum.inl l => by rcases l with _ | b | i | s <;> rfl
  | _ + 1, Sum.inr (Sum.inl _) => rfl
  | _ + 1, Sum.inr (Sum.inr _) => rfl
theorem quoteE_form (s : Bs) : ∃ (x : ByteArray) (k : Int), quoteE s = #[.string x, .int .i64 k] := by
  unfold quoteE
  split
  · split
    · exact ⟨_, _, rfl⟩
    · split <;> exact ⟨_, _, rfl⟩
  · exact ⟨_, _, rfl⟩
/-- what the reference's Read answers, as the walk wants it -/
def RdPost (s : Bs) (w : World) (e : Ending) (w' : World) : Prop :=
  Below w.heap.size w w' ∧ ((∃ er : Nat, read s = .error er ∧ er ≠ 0 ∧ er < 100 ∧ e = .returned (.tuple #[rfV ⟨0, false, 0, []⟩ (.slice none 0 0) (.slice none 0 0), .int .i64 er])) ∨
    ∃ (j : J 10) (h : Hd) (p1 p2 : Option Addr) (k1 c1 k2 c2 : Nat), read s = .ok j ∧ e = .returned (.tuple #[rfV h (.slice p1 k1 c1) (.slice p2 k2 c2), .int .i64 0]) ∧ h.k = kindJ 10 j ∧ RSt (fun c => c < w.heap.size) w' 10 j (rfV h (.slice p1 k1 c1) (.slice p2 k2 c2)))
theorem rdpost_any (t : ByteArray) (w : World) : Calls Tryz.prog 6 #[.string t] w (RdPost t.data.toList w) := by
  refine (rfread_any 10 rfl t w).mono ?_
  rintro e w1 ⟨b1, h1⟩
  refine ⟨b1, ?_⟩
  rw [readN_ten] at h1
  rcases h1 with h1 | ⟨j, v, hr, he, hst⟩
  · exact Or.inl h1
  · obtain ⟨nm, l, hv⟩ := rst_form hst
    subst hv
    obtain ⟨⟨p1, k1, c1, rfl⟩, p2, k2, c2, rfl⟩ := rst_sl hst
    exact Or.inr ⟨j, _, p1, p2, k1, c1, k2, c2, hr, he, headJ_kind 10 j, hst⟩
theorem ro_any {s : Bs} {w : World} {e : Ending} {w' : World} (h : RdPost s w e w') : Below w.heap.size w w' ∧ ∃ (h : Hd) (p1 p2 : Option Addr) (k1 c1 k2 c2 : Nat) (er : Int), e = .returned (.tuple #[rfV h (.slice p1 k1 c1) (.slice p2 k2 c2), .int .i64 er]) := by
  obtain ⟨b, ⟨er, _, _, _, he⟩ | ⟨j, h, p1, p2, k1, c1, k2, c2, _, he, _⟩⟩ := h
  · exact ⟨b, _, _, _, _, _, _, _, _, he⟩
  · exact ⟨b, _, _, _, _, _, _, _, _, he⟩
set_option maxRecDepth 100000 in
set_option maxHeartbeats 2000000 in
theorem says_bad (a b : ByteArray) (w : World) (ha : a.size ≤ 1048576) (hb : b.size ≤ 1048576) (hT : Tab w.heap.size w) (hR : Room w) (er : Nat) (hr : read a.data.toList = .error er) :
    Calls Tryz.prog 3 #[.string a, .string b] w fun e w' => e = .returned (.bool true) ∧ Below w.heap.size w w' := by
  have HR1 : Hid (Calls Tryz.prog 6 #[.string a] w (RdPost a.data.toList w)) := rdpost_any a w
  have HR2 : Hid (∀ w1, Calls Tryz.prog 6 #[.string b] w1 (RdPost b.data.toList w1)) := fun w1 => rdpost_any b w1
  obtain ⟨qx, qk, hq⟩ := quoteE_form a.data.toList
  have HK : Hid (∀ w1, Calls Tryz.prog 7 #[.string a] w1 fun e w' => e = .returned (.tuple (kindE a.data.toList)) ∧ Below w1.heap.size w1 w') := fun w1 => kind_any a w1 (by unfold maxLen; omega)
  have HS : Hid (∀ w1, Calls Tryz.prog 8 #[.string a] w1 fun e w' => e = .returned (.tuple (sizeE a.data.toList)) ∧ Below w1.heap.size w1 w') := fun w1 => size_any a w1 (by unfold maxLen; omega)
  have HQ : Hid (∀ w1, Calls Tryz.prog 10 #[.string a] w1 fun e w' => e = .returned (.tuple #[.string qx, .int .i64 qk]) ∧ Below w1.heap.size w1 w') := fun w1 => by
    have h9 := quote_any a w1 (by unfold maxLen; omega)
    rw [hq] at h9
    exact h9
  have HJ : Hid (∀ w1, Below w.heap.size w w1 → Calls Tryz.prog 11 #[.string a] w1 fun e w' => e = .returned (.tuple #[.string qx, .int .i64 qk]) ∧ Below w1.heap.size w1 w') := fun w1 b => by
    have h9 := rfjquote_any a w1 (by omega) (hR.below b)
    rw [hq] at h9
    exact h9
  have HM : Hid (∀ w1, Below w.heap.size w w1 → Calls Tryz.prog 12 #[.string a, .string b] w1 fun e w' => e = .returned (.tuple (sameE a.data.toList b.data.toList)) ∧ Below w1.heap.size w1 w') := fun w1 b9 => same_any a b w1 (by unfold maxLen; omega) (by unfold maxLen; omega) ((hT.below b9).mono b9.size)
  have hk : kindE a.data.toList = #[.int .i64 0, .int .i64 er] := by rw [kindE, hr]
  have hz : sizeE a.data.toList = #[.int .i64 0, .int .i64 0, .int .i64 er] := by rw [sizeE, hr]
  have hm : sameE a.data.toList b.data.toList = #[.bool false, .int .i64 er] := by rw [sameE, hr]
  rw [hk] at HK
  rw [hz] at HS
  rw [hm] at HM
  clear hk hz hm hq hT hR
  go_enter Tryz.func3, Tryz.ntmps3
  go_wp2_with fail
  refine Calls.mono HR1.out ?_
  rintro e w1 h1
  obtain ⟨b1, ⟨er', hr', her, her2, rfl⟩ | ⟨j, h, p1, p2, k1, c1, k2, c2, hr', rfl, hhk, hst⟩⟩ := h1
  case inr => rw [hr] at hr'; cases hr'
  rw [hr] at hr'
  obtain rfl : er = er' := Except.error.inj hr'
  have hbe : ((er : Int) != 0) = true := by rw [bne_iff_ne]; omega
  have hbe2 : ((er : Int) == 0) = false := by rw [beq_eq_false_iff_ne]; omega
  have HZs : Hid (∀ w1, Calls Tryz.prog 9 #[rfV ⟨0, false, 0, []⟩ (.slice none 0 0) (.slice none 0 0)] w1 fun e w' => e = .returned (.tuple #[.int .i64 ((1 : Nat) : Int), .int .i64 ((0 : Nat) : Int)]) ∧ Below w1.heap.size w1 w') := fun w1 => rfsize_none w1 _ (by decide) (by decide)
  clear hr hr' her her2
  have HA1 : Hid (Below w.heap.size w (w1.alloc (.cells #[.int .i64 0, .bool false, .int .i64 0, .string ⟨#[]⟩, .slice none 0 0, .slice none 0 0] 25))) := b1.alloc b1.size _
  have HX1 : Hid (Box (w1.alloc (.cells #[.int .i64 0, .bool false, .int .i64 0, .string ⟨#[]⟩, .slice none 0 0, .slice none 0 0] 25)) w1.heap.size ⟨0, false, 0, []⟩ (.slice none 0 0) (.slice none 0 0)) := box_new w1 ⟨0, false, 0, []⟩ _ _
  have HC1 : Hid (Below w1.heap.size w1 (w1.alloc (.cells #[.int .i64 0, .bool false, .int .i64 0, .string ⟨#[]⟩, .slice none 0 0, .slice none 0 0] 25))) := (Below.refl _ _).alloc (Nat.le_refl _) _
  clear b1
  unfold rfV
  go_wp2_with fail
  refine Calls.mono (HR2.out _) ?_
  rintro e w2 h2
  obtain ⟨b2, g, q1, q2, m1, d1, m2, d2, fe, rfl⟩ := ro_any h2
  clear h2
  have HA2 : Hid (Below w.heap.size w w2) := HA1.out.trans (b2.mono HA1.out.size)
  have HC2 : Hid (Below w1.heap.size w1 w2) := HC1.out.trans (b2.mono HC1.out.size)
  have HX2 : Hid (Box w2 w1.heap.size ⟨0, false, 0, []⟩ (.slice none 0 0) (.slice none 0 0)) := HX1.out.below b2
  have HB3 : Hid (Below w.heap.size w (w2.alloc (.cells #[.int .i64 g.k, .bool g.b, .int .i64 g.i, .string ⟨g.s.toArray⟩, (.slice q1 m1 d1), (.slice q2 m2 d2)] 25))) := HA2.out.alloc HA2.out.size _
  have HC3 : Hid (Below w1.heap.size w1 (w2.alloc (.cells #[.int .i64 g.k, .bool g.b, .int .i64 g.i, .string ⟨g.s.toArray⟩, (.slice q1 m1 d1), (.slice q2 m2 d2)] 25))) := HC2.out.alloc HC2.out.size _
  have HX3 : Hid (Box (w2.alloc (.cells #[.int .i64 g.k, .bool g.b, .int .i64 g.i, .string ⟨g.s.toArray⟩, (.slice q1 m1 d1), (.slice q2 m2 d2)] 25)) w1.heap.size ⟨0, false, 0, []⟩ (.slice none 0 0) (.slice none 0 0)) := HX2.out.alloc _
  have HY3 : Hid (Box (w2.alloc (.cells #[.int .i64 g.k, .bool g.b, .int .i64 g.i, .string ⟨g.s.toArray⟩, (.slice q1 m1 d1), (.slice q2 m2 d2)] 25)) w2.heap.size g (.slice q1 m1 d1) (.slice q2 m2 d2)) := box_new w2 g _ _
  clear b2 HX1 HX2 HC1
  unfold rfV
  go_wp2_with fail
  obtain ⟨w3, hw3⟩ : ∃ w3, w3 = (w2.alloc (.cells #[.int .i64 g.k, .bool g.b, .int .i64 g.i, .string ⟨g.s.toArray⟩, (.slice q1 m1 d1), (.slice q2 m2 d2)] 25)) := ⟨_, rfl⟩
  rw [← hw3] at HB3 HC3 HX3 HY3 ⊢
  clear hw3
  refine Calls.mono (HK.out _) ?_
  rintro e w4 ⟨rfl, b4⟩
  have HB4 : Hid (Below w.heap.size w w4) := HB3.out.trans (b4.mono HB3.out.size)
  have HC4 : Hid (Below w1.heap.size w1 w4) := HC3.out.trans (b4.mono HC3.out.size)
  have HX4 : Hid (Box w4 w1.heap.size ⟨0, false, 0, []⟩ (.slice none 0 0) (.slice none 0 0)) := HX3.out.below b4
  have HY4 : Hid (Box w4 w2.heap.size g (.slice q1 m1 d1) (.slice q2 m2 d2)) := HY3.out.below b4
  clear b4
  go_wp2_with fail
  refine Calls.mono (HS.out _) ?_
  rintro e w5 ⟨rfl, b5⟩
  have HB5 : Hid (Below w.heap.size w w5) := HB4.out.trans (b5.mono HB4.out.size)
  have HC5 : Hid (Below w1.heap.size w1 w5) := HC4.out.trans (b5.mono HC4.out.size)
  have HX5 : Hid (Box w5 w1.heap.size ⟨0, false, 0, []⟩ (.slice none 0 0) (.slice none 0 0)) := HX4.out.below b5
  have HY5 : Hid (Box w5 w2.heap.size g (.slice q1 m1 d1) (.slice q2 m2 d2)) := HY4.out.below b5
  clear b5
  have x50 := HX5.out.c0
  have x51 := HX5.out.c1
  have x52 := HX5.out.c2
  have x53 := HX5.out.c3
  have x54 := HX5.out.c4
  have x55 := HX5.out.c5
  go_wp2_with fail
  refine Calls.mono (HZs.out _) ?_
  rintro e w6 ⟨rfl, b6⟩
  have HB6 : Hid (Below w.heap.size w w6) := HB5.out.trans (b6.mono HB5.out.size)
  have HC6 : Hid (Below w1.heap.size w1 w6) := HC5.out.trans (b6.mono HC5.out.size)
  have HX6 : Hid (Box w6 w1.heap.size ⟨0, false, 0, []⟩ (.slice none 0 0) (.slice none 0 0)) := HX5.out.below b6
  have HY6 : Hid (Box w6 w2.heap.size g (.slice q1 m1 d1) (.slice q2 m2 d2)) := HY5.out.below b6
  clear b6
  clear x50 x51 x52 x53 x54 x55
  go_wp2_with fail
  refine Calls.mono (HQ.out _) ?_
  rintro e w7 ⟨rfl, b7⟩
  have HB7 : Hid (Below w.heap.size w w7) := HB6.out.trans (b7.mono HB6.out.size)
  have HC7 : Hid (Below w1.heap.size w1 w7) := HC6.out.trans (b7.mono HC6.out.size)
  have HX7 : Hid (Box w7 w1.heap.size ⟨0, false, 0, []⟩ (.slice none 0 0) (.slice none 0 0)) := HX6.out.below b7
  have HY7 : Hid (Box w7 w2.heap.size g (.slice q1 m1 d1) (.slice q2 m2 d2)) := HY6.out.below b7
  clear b7
  go_wp2_with fail
  refine Calls.mono (HJ.out _ HB7.out) ?_
  rintro e w8 ⟨rfl, b8⟩
  have HB8 : Hid (Below w.heap.size w w8) := HB7.out.trans (b8.mono HB7.out.size)
  have HC8 : Hid (Below w1.heap.size w1 w8) := HC7.out.trans (b8.mono HC7.out.size)
  have HX8 : Hid (Box w8 w1.heap.size ⟨0, false, 0, []⟩ (.slice none 0 0) (.slice none 0 0)) := HX7.out.below b8
  have HY8 : Hid (Box w8 w2.heap.size g (.slice q1 m1 d1) (.slice q2 m2 d2)) := HY7.out.below b8
  clear b8
  go_wp2_with fail
  refine Calls.mono (HM.out _ HB8.out) ?_
  rintro e w9 ⟨rfl, b9⟩
  have HB9 : Hid (Below w.heap.size w w9) := HB8.out.trans (b9.mono HB8.out.size)
  have HC9 : Hid (Below w1.heap.size w1 w9) := HC8.out.trans (b9.mono HC8.out.size)
  have HX9 : Hid (Box w9 w1.heap.size ⟨0, false, 0, []⟩ (.slice none 0 0) (.slice none 0 0)) := HX8.out.below b9
  have HY9 : Hid (Box w9 w2.heap.size g (.slice q1 m1 d1) (.slice q2 m2 d2)) := HY8.out.below b9
  clear b9
  have x90 := HX9.out.c0
  have x91 := HX9.out.c1
  have x92 := HX9.out.c2
  have x93 := HX9.out.c3
  have x94 := HX9.out.c4
  have x95 := HX9.out.c5
  go_wp2_with fail
  go_ret
  exact ⟨by simp, HB9.out⟩
set_option maxRecDepth 100000 in
set_option maxHeartbeats 2000000 in
theorem says_half (a b : ByteArray) (w : World) (ha : a.size ≤ 1048576) (hb : b.size ≤ 1048576) (hT : Tab w.heap.size w) (hR : Room w) (j : J 10) (hr : read a.data.toList = .ok j) (er : Nat) (hr2 : read b.data.toList = .error er) :
    Calls Tryz.prog 3 #[.string a, .string b] w fun e w' => e = .returned (.bool true) ∧ Below w.heap.size w w' := by
  have HR1 : Hid (Calls Tryz.prog 6 #[.string a] w (RdPost a.data.toList w)) := rdpost_any a w
  have HR2 : Hid (∀ w1, Calls Tryz.prog 6 #[.string b] w1 (RdPost b.data.toList w1)) := fun w1 => rdpost_any b w1
  obtain ⟨qx, qk, hq⟩ := quoteE_form a.data.toList
  have HK : Hid (∀ w1, Calls Tryz.prog 7 #[.string a] w1 fun e w' => e = .returned (.tuple (kindE a.data.toList)) ∧ Below w1.heap.size w1 w') := fun w1 => kind_any a w1 (by unfold maxLen; omega)
  have HS : Hid (∀ w1, Calls Tryz.prog 8 #[.string a] w1 fun e w' => e = .returned (.tuple (sizeE a.data.toList)) ∧ Below w1.heap.size w1 w') := fun w1 => size_any a w1 (by unfold maxLen; omega)
  have HQ : Hid (∀ w1, Calls Tryz.prog 10 #[.string a] w1 fun e w' => e = .returned (.tuple #[.string qx, .int .i64 qk]) ∧ Below w1.heap.size w1 w') := fun w1 => by
    have h9 := quote_any a w1 (by unfold maxLen; omega)
    rw [hq] at h9
    exact h9
  have HJ : Hid (∀ w1, Below w.heap.size w w1 → Calls Tryz.prog 11 #[.string a] w1 fun e w' => e = .returned (.tuple #[.string qx, .int .i64 qk]) ∧ Below w1.heap.size w1 w') := fun w1 b => by
    have h9 := rfjquote_any a w1 (by omega) (hR.below b)
    rw [hq] at h9
    exact h9
  have HM : Hid (∀ w1, Below w.heap.size w w1 → Calls Tryz.prog 12 #[.string a, .string b] w1 fun e w' => e = .returned (.tuple (sameE a.data.toList b.data.toList)) ∧ Below w1.heap.size w1 w') := fun w1 b9 => same_any a b w1 (by unfold maxLen; omega) (by unfold maxLen; omega) ((hT.below b9).mono b9.size)
  have hk : kindE a.data.toList = #[.int .i64 (kindJ 10 j), .int .i64 0] := by rw [kindE, hr]
  have hz : sizeE a.data.toList = #[.int .i64 (nodes 10 j), .int .i64 (depth 10 j), .int .i64 0] := by rw [sizeE, hr]
  have hm : sameE a.data.toList b.data.toList = #[.bool false, .int .i64 er] := by rw [sameE, hr]; simp only [hr2]
  rw [hk] at HK
  rw [hz] at HS
  rw [hm] at HM
  clear hk hz hm hq hT hR
  go_enter Tryz.func3, Tryz.ntmps3
  go_wp2_with fail
  refine Calls.mono HR1.out ?_
  rintro e w1 h1
  obtain ⟨b1, ⟨er', hr', her, her2, rfl⟩ | ⟨j', h, p1, p2, k1, c1, k2, c2, hr', rfl, hhk, hst⟩⟩ := h1
  case inl => rw [hr] at hr'; cases hr'
  rw [hr] at hr'
  obtain rfl : j = j' := Except.ok.inj hr'
  have hsz := read_size hr
  have HZs : Hid (∀ w2, Below w1.heap.size w1 w2 → Calls Tryz.prog 9 #[rfV h (.slice p1 k1 c1) (.slice p2 k2 c2)] w2 fun e w' => e = .returned (.tuple #[.int .i64 (nodes 10 j), .int .i64 (depth 10 j)]) ∧ Below w2.heap.size w2 w') := fun w2 b9 => rfsize_ok 10 _ j _ w2 (hst.below b9) (by omega) (by omega)
  rw [← hhk] at HK
  generalize nodes 10 j = nn at *
  generalize depth 10 j = dd at *
  clear hr hr' hhk hst
  have HA1 : Hid (Below w.heap.size w (w1.alloc (.cells #[.int .i64 h.k, .bool h.b, .int .i64 h.i, .string ⟨h.s.toArray⟩, (.slice p1 k1 c1), (.slice p2 k2 c2)] 25))) := b1.alloc b1.size _
  have HX1 : Hid (Box (w1.alloc (.cells #[.int .i64 h.k, .bool h.b, .int .i64 h.i, .string ⟨h.s.toArray⟩, (.slice p1 k1 c1), (.slice p2 k2 c2)] 25)) w1.heap.size h (.slice p1 k1 c1) (.slice p2 k2 c2)) := box_new w1 h _ _
  have HC1 : Hid (Below w1.heap.size w1 (w1.alloc (.cells #[.int .i64 h.k, .bool h.b, .int .i64 h.i, .string ⟨h.s.toArray⟩, (.slice p1 k1 c1), (.slice p2 k2 c2)] 25))) := (Below.refl _ _).alloc (Nat.le_refl _) _
  clear b1
  unfold rfV
  go_wp2_with fail
  refine Calls.mono (HR2.out _) ?_
  rintro e w2 h2
  obtain ⟨b2, ⟨er', hr', her, her2, rfl⟩ | ⟨i', g, q1, q2, m1, d1, m2, d2, hr', rfl, hgk, hsu⟩⟩ := h2
  case inr => rw [hr2] at hr'; cases hr'
  rw [hr2] at hr'
  obtain rfl : er = er' := Except.error.inj hr'
  have hbe2 : ((er : Int) == 0) = false := by rw [beq_eq_false_iff_ne]; omega
  clear hr2 hr' her her2
  have HA2 : Hid (Below w.heap.size w w2) := HA1.out.trans (b2.mono HA1.out.size)
  have HC2 : Hid (Below w1.heap.size w1 w2) := HC1.out.trans (b2.mono HC1.out.size)
  have HX2 : Hid (Box w2 w1.heap.size h (.slice p1 k1 c1) (.slice p2 k2 c2)) := HX1.out.below b2
  have HB3 : Hid (Below w.heap.size w (w2.alloc (.cells #[.int .i64 0, .bool false, .int .i64 0, .string ⟨#[]⟩, .slice none 0 0, .slice none 0 0] 25))) := HA2.out.alloc HA2.out.size _
  have HC3 : Hid (Below w1.heap.size w1 (w2.alloc (.cells #[.int .i64 0, .bool false, .int .i64 0, .string ⟨#[]⟩, .slice none 0 0, .slice none 0 0] 25))) := HC2.out.alloc HC2.out.size _
  have HX3 : Hid (Box (w2.alloc (.cells #[.int .i64 0, .bool false, .int .i64 0, .string ⟨#[]⟩, .slice none 0 0, .slice none 0 0] 25)) w1.heap.size h (.slice p1 k1 c1) (.slice p2 k2 c2)) := HX2.out.alloc _
  have HY3 : Hid (Box (w2.alloc (.cells #[.int .i64 0, .bool false, .int .i64 0, .string ⟨#[]⟩, .slice none 0 0, .slice none 0 0] 25)) w2.heap.size ⟨0, false, 0, []⟩ (.slice none 0 0) (.slice none 0 0)) := box_new w2 ⟨0, false, 0, []⟩ _ _
  clear b2 HX1 HX2 HC1
  unfold rfV
  go_wp2_with fail
  obtain ⟨w3, hw3⟩ : ∃ w3, w3 = (w2.alloc (.cells #[.int .i64 0, .bool false, .int .i64 0, .string ⟨#[]⟩, .slice none 0 0, .slice none 0 0] 25)) := ⟨_, rfl⟩
  rw [← hw3] at HB3 HC3 HX3 HY3 ⊢
  clear hw3
  refine Calls.mono (HK.out _) ?_
  rintro e w4 ⟨rfl, b4⟩
  have HB4 : Hid (Below w.heap.size w w4) := HB3.out.trans (b4.mono HB3.out.size)
  have HC4 : Hid (Below w1.heap.size w1 w4) := HC3.out.trans (b4.mono HC3.out.size)
  have HX4 : Hid (Box w4 w1.heap.size h (.slice p1 k1 c1) (.slice p2 k2 c2)) := HX3.out.below b4
  have HY4 : Hid (Box w4 w2.heap.size ⟨0, false, 0, []⟩ (.slice none 0 0) (.slice none 0 0)) := HY3.out.below b4
  clear b4
  go_wp2_with fail
  refine Calls.mono (HS.out _) ?_
  rintro e w5 ⟨rfl, b5⟩
  have HB5 : Hid (Below w.heap.size w w5) := HB4.out.trans (b5.mono HB4.out.size)
  have HC5 : Hid (Below w1.heap.size w1 w5) := HC4.out.trans (b5.mono HC4.out.size)
  have HX5 : Hid (Box w5 w1.heap.size h (.slice p1 k1 c1) (.slice p2 k2 c2)) := HX4.out.below b5
  have HY5 : Hid (Box w5 w2.heap.size ⟨0, false, 0, []⟩ (.slice none 0 0) (.slice none 0 0)) := HY4.out.below b5
  clear b5
  have x50 := HX5.out.c0
  have x51 := HX5.out.c1
  have x52 := HX5.out.c2
  have x53 := HX5.out.c3
  have x54 := HX5.out.c4
  have x55 := HX5.out.c5
  go_wp2_with fail
  refine Calls.mono (HZs.out _ HC5.out) ?_
  rintro e w6 ⟨rfl, b6⟩
  have HB6 : Hid (Below w.heap.size w w6) := HB5.out.trans (b6.mono HB5.out.size)
  have HC6 : Hid (Below w1.heap.size w1 w6) := HC5.out.trans (b6.mono HC5.out.size)
  have HX6 : Hid (Box w6 w1.heap.size h (.slice p1 k1 c1) (.slice p2 k2 c2)) := HX5.out.below b6
  have HY6 : Hid (Box w6 w2.heap.size ⟨0, false, 0, []⟩ (.slice none 0 0) (.slice none 0 0)) := HY5.out.below b6
  clear b6
  clear x50 x51 x52 x53 x54 x55
  go_wp2_with fail
  refine Calls.mono (HQ.out _) ?_
  rintro e w7 ⟨rfl, b7⟩
  have HB7 : Hid (Below w.heap.size w w7) := HB6.out.trans (b7.mono HB6.out.size)
  have HC7 : Hid (Below w1.heap.size w1 w7) := HC6.out.trans (b7.mono HC6.out.size)
  have HX7 : Hid (Box w7 w1.heap.size h (.slice p1 k1 c1) (.slice p2 k2 c2)) := HX6.out.below b7
  have HY7 : Hid (Box w7 w2.heap.size ⟨0, false, 0, []⟩ (.slice none 0 0) (.slice none 0 0)) := HY6.out.below b7
  clear b7
  go_wp2_with fail
  refine Calls.mono (HJ.out _ HB7.out) ?_
  rintro e w8 ⟨rfl, b8⟩
  have HB8 : Hid (Below w.heap.size w w8) := HB7.out.trans (b8.mono HB7.out.size)
  have HC8 : Hid (Below w1.heap.size w1 w8) := HC7.out.trans (b8.mono HC7.out.size)
  have HX8 : Hid (Box w8 w1.heap.size h (.slice p1 k1 c1) (.slice p2 k2 c2)) := HX7.out.below b8
  have HY8 : Hid (Box w8 w2.heap.size ⟨0, false, 0, []⟩ (.slice none 0 0) (.slice none 0 0)) := HY7.out.below b8
  clear b8
  go_wp2_with fail
  refine Calls.mono (HM.out _ HB8.out) ?_
  rintro e w9 ⟨rfl, b9⟩
  have HB9 : Hid (Below w.heap.size w w9) := HB8.out.trans (b9.mono HB8.out.size)
  have HC9 : Hid (Below w1.heap.size w1 w9) := HC8.out.trans (b9.mono HC8.out.size)
  have HX9 : Hid (Box w9 w1.heap.size h (.slice p1 k1 c1) (.slice p2 k2 c2)) := HX8.out.below b9
  have HY9 : Hid (Box w9 w2.heap.size ⟨0, false, 0, []⟩ (.slice none 0 0) (.slice none 0 0)) := HY8.out.below b9
  clear b9
  have x90 := HX9.out.c0
  have x91 := HX9.out.c1
  have x92 := HX9.out.c2
  have x93 := HX9.out.c3
  have x94 := HX9.out.c4
  have x95 := HX9.out.c5
  go_wp2_with fail
  go_ret
  exact ⟨by simp, HB9.out⟩
set_option maxRecDepth 100000 in
set_option maxHeartbeats 2000000 in
theorem says_good (a b : ByteArray) (w : World) (ha : a.size ≤ 1048576) (hb : b.size ≤ 1048576) (hT : Tab w.heap.size w) (hR : Room w) (j : J 10) (hr : read a.data.toList = .ok j) (i : J 10) (hr2 : read b.data.toList = .ok i) :
    Calls Tryz.prog 3 #[.string a, .string b] w fun e w' => e = .returned (.bool true) ∧ Below w.heap.size w w' := by
  have HR1 : Hid (Calls Tryz.prog 6 #[.string a] w (RdPost a.data.toList w)) := rdpost_any a w
  have HR2 : Hid (∀ w1, Calls Tryz.prog 6 #[.string b] w1 (RdPost b.data.toList w1)) := fun w1 => rdpost_any b w1
  obtain ⟨qx, qk, hq⟩ := quoteE_form a.data.toList
  have HK : Hid (∀ w1, Calls Tryz.prog 7 #[.string a] w1 fun e w' => e = .returned (.tuple (kindE a.data.toList)) ∧ Below w1.heap.size w1 w') := fun w1 => kind_any a w1 (by unfold maxLen; omega)
  have HS : Hid (∀ w1, Calls Tryz.prog 8 #[.string a] w1 fun e w' => e = .returned (.tuple (sizeE a.data.toList)) ∧ Below w1.heap.size w1 w') := fun w1 => size_any a w1 (by unfold maxLen; omega)
  have HQ : Hid (∀ w1, Calls Tryz.prog 10 #[.string a] w1 fun e w' => e = .returned (.tuple #[.string qx, .int .i64 qk]) ∧ Below w1.heap.size w1 w') := fun w1 => by
    have h9 := quote_any a w1 (by unfold maxLen; omega)
    rw [hq] at h9
    exact h9
  have HJ : Hid (∀ w1, Below w.heap.size w w1 → Calls Tryz.prog 11 #[.string a] w1 fun e w' => e = .returned (.tuple #[.string qx, .int .i64 qk]) ∧ Below w1.heap.size w1 w') := fun w1 b => by
    have h9 := rfjquote_any a w1 (by omega) (hR.below b)
    rw [hq] at h9
    exact h9
  have HM : Hid (∀ w1, Below w.heap.size w w1 → Calls Tryz.prog 12 #[.string a, .string b] w1 fun e w' => e = .returned (.tuple (sameE a.data.toList b.data.toList)) ∧ Below w1.heap.size w1 w') := fun w1 b9 => same_any a b w1 (by unfold maxLen; omega) (by unfold maxLen; omega) ((hT.below b9).mono b9.size)
  have hk : kindE a.data.toList = #[.int .i64 (kindJ 10 j), .int .i64 0] := by rw [kindE, hr]
  have hz : sizeE a.data.toList = #[.int .i64 (nodes 10 j), .int .i64 (depth 10 j), .int .i64 0] := by rw [sizeE, hr]
  have hm : sameE a.data.toList b.data.toList = #[.bool (sameR 10 j i), .int .i64 0] := by rw [sameE, hr]; simp only [hr2]; rw [same_told hr hr2]
  rw [hk] at HK
  rw [hz] at HS
  rw [hm] at HM
  clear hk hz hm hq hT hR
  go_enter Tryz.func3, Tryz.ntmps3
  go_wp2_with fail
  refine Calls.mono HR1.out ?_
  rintro e w1 h1
  obtain ⟨b1, ⟨er', hr', her, her2, rfl⟩ | ⟨j', h, p1, p2, k1, c1, k2, c2, hr', rfl, hhk, hst⟩⟩ := h1
  case inl => rw [hr] at hr'; cases hr'
  rw [hr] at hr'
  obtain rfl : j = j' := Except.ok.inj hr'
  have hsz := read_size hr
  have HZs : Hid (∀ w2, Below w1.heap.size w1 w2 → Calls Tryz.prog 9 #[rfV h (.slice p1 k1 c1) (.slice p2 k2 c2)] w2 fun e w' => e = .returned (.tuple #[.int .i64 (nodes 10 j), .int .i64 (depth 10 j)]) ∧ Below w2.heap.size w2 w') := fun w2 b9 => rfsize_ok 10 _ j _ w2 (hst.below b9) (by omega) (by omega)
  have HSm : Hid (∀ (av : Nat → Prop) (u : Value) (w2 : World), RSt av w2 10 i u → Below w1.heap.size w1 w2 → Calls Tryz.prog 13 #[rfV h (.slice p1 k1 c1) (.slice p2 k2 c2), u] w2 fun e w' => e = .returned (.bool (sameR 10 j i)) ∧ Below w2.heap.size w2 w') := fun av u w2 hu b9 => rfsame_ok 10 _ _ j i _ u w2 (hst.below b9) hu
  generalize sameR 10 j i = sm at *
  rw [← hhk] at HK
  generalize nodes 10 j = nn at *
  generalize depth 10 j = dd at *
  clear hr hr' hhk hst
  have HA1 : Hid (Below w.heap.size w (w1.alloc (.cells #[.int .i64 h.k, .bool h.b, .int .i64 h.i, .string ⟨h.s.toArray⟩, (.slice p1 k1 c1), (.slice p2 k2 c2)] 25))) := b1.alloc b1.size _
  have HX1 : Hid (Box (w1.alloc (.cells #[.int .i64 h.k, .bool h.b, .int .i64 h.i, .string ⟨h.s.toArray⟩, (.slice p1 k1 c1), (.slice p2 k2 c2)] 25)) w1.heap.size h (.slice p1 k1 c1) (.slice p2 k2 c2)) := box_new w1 h _ _
  have HC1 : Hid (Below w1.heap.size w1 (w1.alloc (.cells #[.int .i64 h.k, .bool h.b, .int .i64 h.i, .string ⟨h.s.toArray⟩, (.slice p1 k1 c1), (.slice p2 k2 c2)] 25))) := (Below.refl _ _).alloc (Nat.le_refl _) _
  clear b1
  unfold rfV
  go_wp2_with fail
  refine Calls.mono (HR2.out _) ?_
  rintro e w2 h2
  obtain ⟨b2, ⟨er', hr', her, her2, rfl⟩ | ⟨i', g, q1, q2, m1, d1, m2, d2, hr', rfl, hgk, hsu⟩⟩ := h2
  case inl => rw [hr2] at hr'; cases hr'
  rw [hr2] at hr'
  obtain rfl : i = i' := Except.ok.inj hr'
  have HSu : Hid (RSt _ w2 10 i (rfV g (.slice q1 m1 d1) (.slice q2 m2 d2))) := hsu
  clear hr2 hr' hgk hsu
  have HA2 : Hid (Below w.heap.size w w2) := HA1.out.trans (b2.mono HA1.out.size)
  have HC2 : Hid (Below w1.heap.size w1 w2) := HC1.out.trans (b2.mono HC1.out.size)
  have HX2 : Hid (Box w2 w1.heap.size h (.slice p1 k1 c1) (.slice p2 k2 c2)) := HX1.out.below b2
  have HB3 : Hid (Below w.heap.size w (w2.alloc (.cells #[.int .i64 g.k, .bool g.b, .int .i64 g.i, .string ⟨g.s.toArray⟩, (.slice q1 m1 d1), (.slice q2 m2 d2)] 25))) := HA2.out.alloc HA2.out.size _
  have HC3 : Hid (Below w1.heap.size w1 (w2.alloc (.cells #[.int .i64 g.k, .bool g.b, .int .i64 g.i, .string ⟨g.s.toArray⟩, (.slice q1 m1 d1), (.slice q2 m2 d2)] 25))) := HC2.out.alloc HC2.out.size _
  have HX3 : Hid (Box (w2.alloc (.cells #[.int .i64 g.k, .bool g.b, .int .i64 g.i, .string ⟨g.s.toArray⟩, (.slice q1 m1 d1), (.slice q2 m2 d2)] 25)) w1.heap.size h (.slice p1 k1 c1) (.slice p2 k2 c2)) := HX2.out.alloc _
  have HY3 : Hid (Box (w2.alloc (.cells #[.int .i64 g.k, .bool g.b, .int .i64 g.i, .string ⟨g.s.toArray⟩, (.slice q1 m1 d1), (.slice q2 m2 d2)] 25)) w2.heap.size g (.slice q1 m1 d1) (.slice q2 m2 d2)) := box_new w2 g _ _
  have HU3 : Hid (Below w2.heap.size w2 (w2.alloc (.cells #[.int .i64 g.k, .bool g.b, .int .i64 g.i, .string ⟨g.s.toArray⟩, (.slice q1 m1 d1), (.slice q2 m2 d2)] 25))) := (Below.refl _ _).alloc (Nat.le_refl _) _
  clear b2 HX1 HX2 HC1
  unfold rfV
  go_wp2_with fail
  obtain ⟨w3, hw3⟩ : ∃ w3, w3 = (w2.alloc (.cells #[.int .i64 g.k, .bool g.b, .int .i64 g.i, .string ⟨g.s.toArray⟩, (.slice q1 m1 d1), (.slice q2 m2 d2)] 25)) := ⟨_, rfl⟩
  rw [← hw3] at HB3 HC3 HX3 HY3 HU3 ⊢
  clear hw3
  refine Calls.mono (HK.out _) ?_
  rintro e w4 ⟨rfl, b4⟩
  have HB4 : Hid (Below w.heap.size w w4) := HB3.out.trans (b4.mono HB3.out.size)
  have HC4 : Hid (Below w1.heap.size w1 w4) := HC3.out.trans (b4.mono HC3.out.size)
  have HU4 : Hid (Below w2.heap.size w2 w4) := HU3.out.trans (b4.mono HU3.out.size)
  have HX4 : Hid (Box w4 w1.heap.size h (.slice p1 k1 c1) (.slice p2 k2 c2)) := HX3.out.below b4
  have HY4 : Hid (Box w4 w2.heap.size g (.slice q1 m1 d1) (.slice q2 m2 d2)) := HY3.out.below b4
  clear b4
  go_wp2_with fail
  refine Calls.mono (HS.out _) ?_
  rintro e w5 ⟨rfl, b5⟩
  have HB5 : Hid (Below w.heap.size w w5) := HB4.out.trans (b5.mono HB4.out.size)
  have HC5 : Hid (Below w1.heap.size w1 w5) := HC4.out.trans (b5.mono HC4.out.size)
  have HU5 : Hid (Below w2.heap.size w2 w5) := HU4.out.trans (b5.mono HU4.out.size)
  have HX5 : Hid (Box w5 w1.heap.size h (.slice p1 k1 c1) (.slice p2 k2 c2)) := HX4.out.below b5
  have HY5 : Hid (Box w5 w2.heap.size g (.slice q1 m1 d1) (.slice q2 m2 d2)) := HY4.out.below b5
  clear b5
  have x50 := HX5.out.c0
  have x51 := HX5.out.c1
  have x52 := HX5.out.c2
  have x53 := HX5.out.c3
  have x54 := HX5.out.c4
  have x55 := HX5.out.c5
  go_wp2_with fail
  refine Calls.mono (HZs.out _ HC5.out) ?_
  rintro e w6 ⟨rfl, b6⟩
  have HB6 : Hid (Below w.heap.size w w6) := HB5.out.trans (b6.mono HB5.out.size)
  have HC6 : Hid (Below w1.heap.size w1 w6) := HC5.out.trans (b6.mono HC5.out.size)
  have HU6 : Hid (Below w2.heap.size w2 w6) := HU5.out.trans (b6.mono HU5.out.size)
  have HX6 : Hid (Box w6 w1.heap.size h (.slice p1 k1 c1) (.slice p2 k2 c2)) := HX5.out.below b6
  have HY6 : Hid (Box w6 w2.heap.size g (.slice q1 m1 d1) (.slice q2 m2 d2)) := HY5.out.below b6
  clear b6
  clear x50 x51 x52 x53 x54 x55
  go_wp2_with fail
  refine Calls.mono (HQ.out _) ?_
  rintro e w7 ⟨rfl, b7⟩
  have HB7 : Hid (Below w.heap.size w w7) := HB6.out.trans (b7.mono HB6.out.size)
  have HC7 : Hid (Below w1.heap.size w1 w7) := HC6.out.trans (b7.mono HC6.out.size)
  have HU7 : Hid (Below w2.heap.size w2 w7) := HU6.out.trans (b7.mono HU6.out.size)
  have HX7 : Hid (Box w7 w1.heap.size h (.slice p1 k1 c1) (.slice p2 k2 c2)) := HX6.out.below b7
  have HY7 : Hid (Box w7 w2.heap.size g (.slice q1 m1 d1) (.slice q2 m2 d2)) := HY6.out.below b7
  clear b7
  go_wp2_with fail
  refine Calls.mono (HJ.out _ HB7.out) ?_
  rintro e w8 ⟨rfl, b8⟩
  have HB8 : Hid (Below w.heap.size w w8) := HB7.out.trans (b8.mono HB7.out.size)
  have HC8 : Hid (Below w1.heap.size w1 w8) := HC7.out.trans (b8.mono HC7.out.size)
  have HU8 : Hid (Below w2.heap.size w2 w8) := HU7.out.trans (b8.mono HU7.out.size)
  have HX8 : Hid (Box w8 w1.heap.size h (.slice p1 k1 c1) (.slice p2 k2 c2)) := HX7.out.below b8
  have HY8 : Hid (Box w8 w2.heap.size g (.slice q1 m1 d1) (.slice q2 m2 d2)) := HY7.out.below b8
  clear b8
  go_wp2_with fail
  refine Calls.mono (HM.out _ HB8.out) ?_
  rintro e w9 ⟨rfl, b9⟩
  have HB9 : Hid (Below w.heap.size w w9) := HB8.out.trans (b9.mono HB8.out.size)
  have HC9 : Hid (Below w1.heap.size w1 w9) := HC8.out.trans (b9.mono HC8.out.size)
  have HU9 : Hid (Below w2.heap.size w2 w9) := HU8.out.trans (b9.mono HU8.out.size)
  have HX9 : Hid (Box w9 w1.heap.size h (.slice p1 k1 c1) (.slice p2 k2 c2)) := HX8.out.below b9
  have HY9 : Hid (Box w9 w2.heap.size g (.slice q1 m1 d1) (.slice q2 m2 d2)) := HY8.out.below b9
  clear b9
  have x90 := HX9.out.c0
  have x91 := HX9.out.c1
  have x92 := HX9.out.c2
  have x93 := HX9.out.c3
  have x94 := HX9.out.c4
  have x95 := HX9.out.c5
  have y90 := HY9.out.c0
  have y91 := HY9.out.c1
  have y92 := HY9.out.c2
  have y93 := HY9.out.c3
  have y94 := HY9.out.c4
  have y95 := HY9.out.c5
  go_wp2_with fail
  refine Calls.mono (HSm.out _ _ _ (HSu.out.below HU9.out) HC9.out) ?_
  rintro e wz ⟨rfl, bz⟩
  have HBz : Hid (Below w.heap.size w wz) := HB9.out.trans (bz.mono HB9.out.size)
  clear bz
  go_wp2_with fail
  go_ret
  exact ⟨by simp, HBz.out⟩
theorem says_walk (a b : ByteArray) (w : World) (ha : a.size ≤ 1048576) (hb : b.size ≤ 1048576) (hT : Tab w.heap.size w) (hR : Room w) :
    Calls Tryz.prog 3 #[.string a, .string b] w fun e w' => e = .returned (.bool true) ∧ Below w.heap.size w w' := by
  cases h1 : read a.data.toList with
  | error er => exact says_bad a b w ha hb hT hR er h1
  | ok j =>
    cases h2 : read b.data.toList with
    | error er => exact says_half a b w ha hb hT hR j h1 er h2
    | ok i => exact says_good a b w ha hb hT hR j h1 i h2
end Go.Proofs.YtaogilpkeeigoaaGreatDoor
/- The table of powers of ten out of what is laid; the laws' own canon at every text. -/
namespace Go.Proofs.YtaogilpkeeigoaaGreatDoor
open Go.RowKit
set_option linter.unusedVariables false
set_option linter.unusedSimpArgs false
/-- the table stands third on the list -/
theorem tabIs_of_third {P : Program} {W : World} {name : String} {k : IntKind} {zs : List Int} {x y : String × DataW Unit} {rest : List (String × DataW Unit)} {g : Nat} {t e : TypeId} {n : Nat}
    (hg : P.globalNamed name = some g) (hty : (P.globals[g]?).map (·.type) = some t) (ht : P.underlying t = some (.array n e)) (he : P.underlying e = some (.int k)) (hce : P.cellsOf e = 1) (hct : P.cellsOf t = n)
    (h : laidMet P (x :: y :: (name, Lib.tabData k zs) :: rest) W) : Lib.TabIs P W name k zs := by
  obtain ⟨ps, ⟨_, _, _, _, _, _, _, _, _, _, ⟨_, _, _, _, _, _, _, _, _, _, ⟨g', t', cs, fuel, p, q, hg', ht', hvar, hd, _, _⟩, _⟩, _⟩, _⟩ := h
  obtain rfl := Option.some.inj (hg.symm.trans hg')
  obtain rfl := Option.some.inj (hty.symm.trans ht')
  unfold Lib.TabIs
  rw [hvar, ← Lib.cells_of_tab ht he hce hct hd]
theorem tab_of_laid {x y : String × DataW Unit} {rest : List (String × DataW Unit)} {W : World} (hn : ((x :: y :: ("internal/strconv.uint64pow10", Lib.tabData .u64 Lib.pow10Tab) :: rest).all fun x => x.2.handleName?.isNone) = true)
    (h : laidMetH Tryz.prog (x :: y :: ("internal/strconv.uint64pow10", Lib.tabData .u64 Lib.pow10Tab) :: rest) W) : Tab W.heap.size W := by
  rw [Go.MakeChecks.laidMetH_plain _ _ _ hn] at h
  exact Lib.tabBelow_of_tabIs (tabIs_of_third (P := Tryz.prog) (g := 5) (t := 195) (e := 167) (n := 20) (by kernel_rfl) (by kernel_rfl) Tryz.underlying195 Tryz.underlying167 (by kernel_rfl) (by kernel_rfl) h)
theorem keepCanon_any (t : ByteArray) (w : World) (hs : t.size ≤ maxLen) (hT : Tab w.heap.size w) :
    Calls Tryz.prog 16 #[.string t] w fun e w' => (match read t.data.toList with
      | .error _ => e = .returned (.tuple #[.string ByteArray.empty, .bool false])
      | .ok j => e = .returned (.tuple #[.string ⟨(tell 10 j).toArray⟩, .bool true])) ∧ Below w.heap.size w w' := by
  have hC := canon_any t w hs hT
  cases hr : read t.data.toList with
  | error er =>
    have HC : Hid (Calls Tryz.prog 32 #[.string t] w fun e w' => e = .returned (.tuple #[.string ByteArray.empty, .int .i64 er]) ∧ Below w.heap.size w w') := by
      refine hC.mono ?_
      rintro e w1 ⟨rfl, b1⟩
      exact ⟨by rw [canonE, hr], b1⟩
    have her : er ≠ 0 := read_err hr
    have hbe : ((er : Int) == 0) = false := by rw [beq_eq_false_iff_ne]; omega
    clear hC hr hT
    go_enter Tryz.func16, Tryz.ntmps16
    go_wp2_with fail
    refine Calls.mono HC.out ?_
    rintro e w1 ⟨rfl, b1⟩
    have HB1 : Hid (Below w.heap.size w w1) := b1
    clear b1
    go_wp2_with fail
    go_ret2
    exact ⟨rfl, HB1.out⟩
  | ok j =>
    have HC : Hid (Calls Tryz.prog 32 #[.string t] w fun e w' => e = .returned (.tuple #[.string ⟨(tell 10 j).toArray⟩, .int .i64 0]) ∧ Below w.heap.size w w') := by
      refine hC.mono ?_
      rintro e w1 ⟨rfl, b1⟩
      exact ⟨by rw [canonE, hr], b1⟩
    clear hC hr hT
    simp only []
    generalize (⟨(tell 10 j).toArray⟩ : ByteArray) = tx at *
    go_enter Tryz.func16, Tryz.ntmps16
    go_wp2_with fail
    refine Calls.mono HC.out ?_
    rintro e w1 ⟨rfl, b1⟩
    have HB1 : Hid (Below w.heap.size w w1) := b1
    clear b1
    go_wp2_with fail
    go_ret2
    exact ⟨rfl, HB1.out⟩
end Go.Proofs.YtaogilpkeeigoaaGreatDoor
