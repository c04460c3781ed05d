/- Contract over this translation of the reference's reader: values, however deep. -/
import Derived.Test.YtaogilpkeeigoaaGreatDoorRfList
import Derived.Test.YtaogilpkeeigoaaGreatDoorRfText
import Derived.Test.YtaogilpkeeigoaaGreatDoorRfNum
import Derived.Test.YtaogilpkeeigoaaGreatDoorRfWord
import Derived.Test.YtaogilpkeeigoaaGreatDoorRdValue
import Derived.Test.YtaogilpkeeigoaaGreatDoorShelf
namespace Go.Proofs.YtaogilpkeeigoaaGreatDoor
open Go.RowKit
set_option linter.unusedVariables false
set_option linter.unusedSimpArgs false
theorem number_err {r : Bs} {er : Nat} (h : number r = .error er) : er < 100 := by
  unfold number at h
  simp only [] at h
  generalize (if (hd r == 45) = true then r.tail else r) = r1 at h
  split at h
  · cases h; decide
  · split at h
    · cases h; decide
    · split at h
      · cases h; decide
      · cases h
theorem number_len {r r' : Bs} {l : Leaf} (h : number r = .ok (l, r')) : r'.length < r.length := by
  unfold number at h
  simp only [] at h
  have hle : (if (hd r == 45) = true then r.tail else r).length ≤ r.length := by
    split
    · simp
    · exact Nat.le_refl _
  generalize (if (hd r == 45) = true then r.tail else r) = r1 at h hle
  split at h
  · cases h
  · rename_i hds
    split at h
    · cases h
    · split at h
      · cases h
      · have h1 : ∀ x : Bs, x.takeWhile isDigit ≠ [] → (x.dropWhile isDigit).length < x.length := fun x hx => by
          have h2 := congrArg List.length (List.takeWhile_append_dropWhile (p := isDigit) (l := x))
          rw [List.length_append] at h2
          have h3 : (x.takeWhile isDigit).length ≠ 0 := fun e => hx (List.length_eq_zero_iff.1 e)
          omega
        have h4 := h1 _ hds
        cases h
        exact Nat.lt_of_lt_of_le h4 hle
def opensR : ByteArray := ⟨#[91, 123, 34, 45, 116, 102, 110, 48, 49, 50, 51, 52, 53, 54, 55, 56, 57]⟩
theorem opensR_all : ∀ n : Fin 256, decide (0 ≤ Lib.indexByte opensR.data.toList (UInt8.ofNat n.val)) = opens.contains (UInt8.ofNat n.val) := by decide +kernel
theorem opensR_has (c : UInt8) : decide (0 ≤ Lib.indexByte opensR.data.toList c) = opens.contains c := by
  have h := opensR_all ⟨c.toNat, c.toNat_lt⟩
  simpa using h
theorem word_len {w r : Bs} (h : w.isPrefixOf r = true) : w.length ≤ r.length := (List.isPrefixOf_iff_prefix.1 h).length_le
theorem bigM (n b : Nat) (hn : n ≤ 200) : (decide ((n : Int) > 200)) = false := by rw [decide_eq_false_iff_not]; omega
set_option maxRecDepth 100000 in
set_option maxHeartbeats 8000000 in
theorem rfval_end (n b : Nat) (t : ByteArray) (p k : Nat) (d : Int) (w : World) (h : Rf b t p k w) (hp : p ≤ t.size) (ht : t.size ≤ 2000) (hk : k ≤ 200) (hdn : d + n = 10) (hd0 : 0 ≤ d) (hc : skip (rest t p) = []) :
    Calls Tryz.prog 18 #[.pointer (some ⟨b, 0, none⟩), .int .i64 d] w (RValPost b t p k n w) := by
  have hbw := h.lt
  have hsl := skipAt_le t p
  have hsg := skipAt_ge t p hp
  have HSk : Hid (rest t (skipAt t p) = skip (rest t p)) := rest_skip t p hp
  obtain ⟨w0, hw0⟩ : ∃ w0, w0 = w.alloc (.cells #[.int .i64 0, .bool false, .int .i64 0, .string ⟨#[]⟩, .slice none 0 0, .slice none 0 0] 25) := ⟨_, rfl⟩
  have HW0 : Hid (w0 = w.alloc (.cells #[.int .i64 0, .bool false, .int .i64 0, .string ⟨#[]⟩, .slice none 0 0, .slice none 0 0] 25)) := hw0
  have HR0 : Hid (Rf b t p k w0) := by show Rf _ _ _ _ _; rw [hw0]; exact h.alloc _
  have HG0 : Hid (G b w w0) := by show G _ _ _; rw [hw0]; exact (G.refl b w).alloc _
  have HZ0 : Hid (Box w0 w.heap.size ⟨0, false, 0, []⟩ (.slice none 0 0) (.slice none 0 0)) := by show Box _ _ _ _ _; rw [hw0]; exact box_new w ⟨0, false, 0, []⟩ _ _
  have HX : Hid (value n k (rest t p) = .error 3) := by
    show value _ _ _ = _
    have e : beginE n k (skip (rest t p)) = 3 := by
      unfold beginE
      rw [hc, if_pos (by decide)]
    rw [value_err (by rw [e]; decide), e]
  have HL : Hid (lookOf (rest t (skipAt t p)) = -1) := by show lookOf _ = _; rw [HSk.out, hc]; rfl
  clear hc
  clear hw0 h
  go_enter Tryz.func18, Tryz.ntmps18
  go_wp2_with fail
  rw [← HW0.out]
  refine (look_any b t p k w0 HR0.out hp ht).mono ?_
  rintro e w1 ⟨rfl, g1, r1⟩
  have HG1 : Hid (G b w w1) := HG0.out.trans g1
  have HR1 : Hid (Rf b t (skipAt t p) k w1) := r1
  have HZ1 : Hid (Box w1 w.heap.size ⟨0, false, 0, []⟩ (.slice none 0 0) (.slice none 0 0)) := HZ0.out.grown g1 (fun e => by cases e; omega)
  clear g1 r1
  rw [HL.out]
  have f0 := HZ1.out.free 0
  have f1 := HZ1.out.free 1
  have f2 := HZ1.out.free 2
  have f3 := HZ1.out.free 3
  have f4 := HZ1.out.free 4
  have f5 := HZ1.out.free 5
  have z0 := HZ1.out.c0
  have z1 := HZ1.out.c1
  have z2 := HZ1.out.c2
  have z3 := HZ1.out.c3
  have z4 := HZ1.out.c4
  have z5 := HZ1.out.c5
  go_wp2_with fail
  have e6 : Box (put6 w1 (w.heap.size) (.int .i64 0) (.bool false) (.int .i64 0) (.string ⟨#[]⟩) (.slice none 0 0) (.slice none 0 0)) (w.heap.size) ⟨0, false, 0, []⟩ (.slice none 0 0) (.slice none 0 0) := put6_box HZ1.out ⟨0, false, 0, []⟩ (.slice none 0 0) (.slice none 0 0)
  have g6 := put6_grown w1 (w.heap.size) (.int .i64 0) (.bool false) (.int .i64 0) (.string ⟨#[]⟩) (.slice none 0 0) (.slice none 0 0)
  change bodyPost _ _ _ _ _ (put6 w1 (w.heap.size) _ _ _ _ _ _)
  generalize put6 w1 (w.heap.size) (.int .i64 0) (.bool false) (.int .i64 0) (.string ⟨#[]⟩) (.slice none 0 0) (.slice none 0 0) = W at *
  exact bodyPost_ret (v := .tuple #[rfV ⟨0, false, 0, []⟩ (.slice none 0 0) (.slice none 0 0), .int .i64 3]) (by simp [results, Tryz.results18, go_sem, rfV, e6.c0, e6.c1, e6.c2, e6.c3, e6.c4, e6.c5]) rfl ⟨HG1.out.grown g6 (fun k e => by cases e; omega), Or.inl ⟨3, _, HX.out, by decide, by decide, rfl⟩⟩
set_option maxRecDepth 100000 in
set_option maxHeartbeats 8000000 in
theorem rfval_bad (n b : Nat) (t : ByteArray) (p k : Nat) (d : Int) (w : World) (h : Rf b t p k w) (hp : p ≤ t.size) (ht : t.size ≤ 2000) (hk : k ≤ 200) (hdn : d + n = 10) (hd0 : 0 ≤ d) (c : UInt8) (r : Bs) (hc : skip (rest t p) = c :: r) (ho : ¬ c ∈ opens) :
    Calls Tryz.prog 18 #[.pointer (some ⟨b, 0, none⟩), .int .i64 d] w (RValPost b t p k n w) := by
  have hbw := h.lt
  have hsl := skipAt_le t p
  have hsg := skipAt_ge t p hp
  have HSk : Hid (rest t (skipAt t p) = skip (rest t p)) := rest_skip t p hp
  obtain ⟨w0, hw0⟩ : ∃ w0, w0 = w.alloc (.cells #[.int .i64 0, .bool false, .int .i64 0, .string ⟨#[]⟩, .slice none 0 0, .slice none 0 0] 25) := ⟨_, rfl⟩
  have HW0 : Hid (w0 = w.alloc (.cells #[.int .i64 0, .bool false, .int .i64 0, .string ⟨#[]⟩, .slice none 0 0, .slice none 0 0] 25)) := hw0
  have HR0 : Hid (Rf b t p k w0) := by show Rf _ _ _ _ _; rw [hw0]; exact h.alloc _
  have HG0 : Hid (G b w w0) := by show G _ _ _; rw [hw0]; exact (G.refl b w).alloc _
  have HZ0 : Hid (Box w0 w.heap.size ⟨0, false, 0, []⟩ (.slice none 0 0) (.slice none 0 0)) := by show Box _ _ _ _ _; rw [hw0]; exact box_new w ⟨0, false, 0, []⟩ _ _
  have HL : Hid (lookOf (rest t (skipAt t p)) = (c.toNat : Int)) := by show lookOf _ = _; rw [HSk.out, hc]; rfl
  have HHd : Hid (hd (skip (rest t p)) = c) := by show hd _ = _; rw [hc]; rfl
  have HX : Hid (value n k (rest t p) = .error 3) := by
    show value _ _ _ = _
    have e : beginE n k (skip (rest t p)) = 3 := by
      unfold beginE
      rw [HHd.out, if_pos ho]
    rw [value_err (by rw [e]; decide), e]
  have HHas : Hid (decide (0 ≤ Lib.indexByte opensR.data.toList c) = false) := by
    show _ = false
    rw [opensR_has, ← Bool.not_eq_true, List.contains_iff_mem]
    exact ho
  clear hc ho
  clear hw0 h
  go_enter Tryz.func18, Tryz.ntmps18
  go_wp2_with fail
  rw [← HW0.out]
  refine (look_any b t p k w0 HR0.out hp ht).mono ?_
  rintro e w1 ⟨rfl, g1, r1⟩
  have HG1 : Hid (G b w w1) := HG0.out.trans g1
  have HR1 : Hid (Rf b t (skipAt t p) k w1) := r1
  have HZ1 : Hid (Box w1 w.heap.size ⟨0, false, 0, []⟩ (.slice none 0 0) (.slice none 0 0)) := HZ0.out.grown g1 (fun e => by cases e; omega)
  clear g1 r1
  rw [HL.out]
  have hc0 : decide ((c.toNat : Int) < 0) = false := by rw [decide_eq_false_iff_not]; omega
  go_wp2_with fail
  refine (chr_any c w1).mono ?_
  rintro e w2 ⟨rfl, b2⟩
  have HG2 : Hid (G b w w2) := HG1.out.trans ⟨b2.os, b2.tape, b2.output, b2.size, fun k hk _ => b2.block k hk⟩
  have HR2 : Hid (Rf b t (skipAt t p) k w2) := HR1.out.below b2
  have HZ2 : Hid (Box w2 w.heap.size ⟨0, false, 0, []⟩ (.slice none 0 0) (.slice none 0 0)) := HZ1.out.below b2
  clear b2
  go_wp2_with fail
  refine (Tryz.strings_Contains_one opensR c w2).mono ?_
  rintro e w2' ⟨rfl, rfl⟩
  rw [HHas.out]
  have f0 := HZ2.out.free 0
  have f1 := HZ2.out.free 1
  have f2 := HZ2.out.free 2
  have f3 := HZ2.out.free 3
  have f4 := HZ2.out.free 4
  have f5 := HZ2.out.free 5
  have z0 := HZ2.out.c0
  have z1 := HZ2.out.c1
  have z2 := HZ2.out.c2
  have z3 := HZ2.out.c3
  have z4 := HZ2.out.c4
  have z5 := HZ2.out.c5
  go_wp2_with fail
  have e6 : Box (put6 w2' (w.heap.size) (.int .i64 0) (.bool false) (.int .i64 0) (.string ⟨#[]⟩) (.slice none 0 0) (.slice none 0 0)) (w.heap.size) ⟨0, false, 0, []⟩ (.slice none 0 0) (.slice none 0 0) := put6_box HZ2.out ⟨0, false, 0, []⟩ (.slice none 0 0) (.slice none 0 0)
  have g6 := put6_grown w2' (w.heap.size) (.int .i64 0) (.bool false) (.int .i64 0) (.string ⟨#[]⟩) (.slice none 0 0) (.slice none 0 0)
  change bodyPost _ _ _ _ _ (put6 w2' (w.heap.size) _ _ _ _ _ _)
  generalize put6 w2' (w.heap.size) (.int .i64 0) (.bool false) (.int .i64 0) (.string ⟨#[]⟩) (.slice none 0 0) (.slice none 0 0) = W at *
  exact bodyPost_ret (v := .tuple #[rfV ⟨0, false, 0, []⟩ (.slice none 0 0) (.slice none 0 0), .int .i64 3]) (by simp [results, Tryz.results18, go_sem, rfV, e6.c0, e6.c1, e6.c2, e6.c3, e6.c4, e6.c5]) rfl ⟨HG2.out.grown g6 (fun k e => by cases e; omega), Or.inl ⟨3, _, HX.out, by decide, by decide, rfl⟩⟩
set_option maxRecDepth 100000 in
set_option maxHeartbeats 8000000 in
theorem rfval_large (n b : Nat) (t : ByteArray) (p k : Nat) (d : Int) (w : World) (h : Rf b t p k w) (hp : p ≤ t.size) (ht : t.size ≤ 2000) (hk : k ≤ 200) (hdn : d + n = 10) (hd0 : 0 ≤ d) (c : UInt8) (r : Bs) (hc : skip (rest t p) = c :: r) (ho : c ∈ opens) (hk2 : 200 ≤ k) :
    Calls Tryz.prog 18 #[.pointer (some ⟨b, 0, none⟩), .int .i64 d] w (RValPost b t p k n w) := by
  have hbw := h.lt
  have hsl := skipAt_le t p
  have hsg := skipAt_ge t p hp
  have HSk : Hid (rest t (skipAt t p) = skip (rest t p)) := rest_skip t p hp
  obtain ⟨w0, hw0⟩ : ∃ w0, w0 = w.alloc (.cells #[.int .i64 0, .bool false, .int .i64 0, .string ⟨#[]⟩, .slice none 0 0, .slice none 0 0] 25) := ⟨_, rfl⟩
  have HW0 : Hid (w0 = w.alloc (.cells #[.int .i64 0, .bool false, .int .i64 0, .string ⟨#[]⟩, .slice none 0 0, .slice none 0 0] 25)) := hw0
  have HR0 : Hid (Rf b t p k w0) := by show Rf _ _ _ _ _; rw [hw0]; exact h.alloc _
  have HG0 : Hid (G b w w0) := by show G _ _ _; rw [hw0]; exact (G.refl b w).alloc _
  have HZ0 : Hid (Box w0 w.heap.size ⟨0, false, 0, []⟩ (.slice none 0 0) (.slice none 0 0)) := by show Box _ _ _ _ _; rw [hw0]; exact box_new w ⟨0, false, 0, []⟩ _ _
  have HL : Hid (lookOf (rest t (skipAt t p)) = (c.toNat : Int)) := by show lookOf _ = _; rw [HSk.out, hc]; rfl
  have HHd : Hid (hd (skip (rest t p)) = c) := by show hd _ = _; rw [hc]; rfl
  have HHas : Hid (decide (0 ≤ Lib.indexByte opensR.data.toList c) = true) := by
    show _ = true
    rw [opensR_has, List.contains_iff_mem]
    exact ho
  have HX : Hid (value n k (rest t p) = .error 2) := by
    show value _ _ _ = _
    have e : beginE n k (skip (rest t p)) = 2 := by
      unfold beginE
      rw [HHd.out, if_neg (by simpa using ho), if_pos hk2]
    rw [value_err (by rw [e]; decide), e]
  clear hc ho
  clear hw0 h
  go_enter Tryz.func18, Tryz.ntmps18
  go_wp2_with fail
  rw [← HW0.out]
  refine (look_any b t p k w0 HR0.out hp ht).mono ?_
  rintro e w1 ⟨rfl, g1, r1⟩
  have HG1 : Hid (G b w w1) := HG0.out.trans g1
  have HR1 : Hid (Rf b t (skipAt t p) k w1) := r1
  have HZ1 : Hid (Box w1 w.heap.size ⟨0, false, 0, []⟩ (.slice none 0 0) (.slice none 0 0)) := HZ0.out.grown g1 (fun e => by cases e; omega)
  clear g1 r1
  rw [HL.out]
  have hc0 : decide ((c.toNat : Int) < 0) = false := by rw [decide_eq_false_iff_not]; omega
  go_wp2_with fail
  refine (chr_any c w1).mono ?_
  rintro e w2 ⟨rfl, b2⟩
  have HG2 : Hid (G b w w2) := HG1.out.trans ⟨b2.os, b2.tape, b2.output, b2.size, fun k hk _ => b2.block k hk⟩
  have HR2 : Hid (Rf b t (skipAt t p) k w2) := HR1.out.below b2
  have HZ2 : Hid (Box w2 w.heap.size ⟨0, false, 0, []⟩ (.slice none 0 0) (.slice none 0 0)) := HZ1.out.below b2
  clear b2
  go_wp2_with fail
  refine (Tryz.strings_Contains_one opensR c w2).mono ?_
  rintro e w2' ⟨rfl, rfl⟩
  rw [HHas.out]
  have m0 := HR2.out.many
  have m1 := HR2.out.free 2
  have m2 := (HR2.out.count (k + 1)).many
  have HR3 : Hid (Rf b t (skipAt t p) (k + 1) (w2'.setCell ⟨b, 2, none⟩ (.int .i64 ((k : Int) + 1)))) := HR2.out.count (k + 1)
  have HG3 : Hid (G b w (w2'.setCell ⟨b, 2, none⟩ (.int .i64 ((k : Int) + 1)))) := HG2.out.setCell 2 _
  have HZ3 : Hid (Box (w2'.setCell ⟨b, 2, none⟩ (.int .i64 ((k : Int) + 1))) w.heap.size ⟨0, false, 0, []⟩ (.slice none 0 0) (.slice none 0 0)) := HZ2.out.other (by omega) _
  have hkk : (200 : Int) < (k : Int) + 1 := by omega
  have f0 := HZ3.out.free 0
  have f1 := HZ3.out.free 1
  have f2 := HZ3.out.free 2
  have f3 := HZ3.out.free 3
  have f4 := HZ3.out.free 4
  have f5 := HZ3.out.free 5
  have z0 := HZ3.out.c0
  have z1 := HZ3.out.c1
  have z2 := HZ3.out.c2
  have z3 := HZ3.out.c3
  have z4 := HZ3.out.c4
  have z5 := HZ3.out.c5
  go_wp2_with fail
  generalize w2'.setCell ⟨b, 2, none⟩ (.int .i64 ((k : Int) + 1)) = w3 at *
  have e6 : Box (put6 w3 (w.heap.size) (.int .i64 0) (.bool false) (.int .i64 0) (.string ⟨#[]⟩) (.slice none 0 0) (.slice none 0 0)) (w.heap.size) ⟨0, false, 0, []⟩ (.slice none 0 0) (.slice none 0 0) := put6_box HZ3.out ⟨0, false, 0, []⟩ (.slice none 0 0) (.slice none 0 0)
  have g6 := put6_grown w3 (w.heap.size) (.int .i64 0) (.bool false) (.int .i64 0) (.string ⟨#[]⟩) (.slice none 0 0) (.slice none 0 0)
  change bodyPost _ _ _ _ _ (put6 w3 (w.heap.size) _ _ _ _ _ _)
  generalize put6 w3 (w.heap.size) (.int .i64 0) (.bool false) (.int .i64 0) (.string ⟨#[]⟩) (.slice none 0 0) (.slice none 0 0) = W at *
  exact bodyPost_ret (v := .tuple #[rfV ⟨0, false, 0, []⟩ (.slice none 0 0) (.slice none 0 0), .int .i64 2]) (by simp [results, Tryz.results18, go_sem, rfV, e6.c0, e6.c1, e6.c2, e6.c3, e6.c4, e6.c5]) rfl ⟨HG3.out.grown g6 (fun k e => by cases e; omega), Or.inl ⟨2, _, HX.out, by decide, by decide, rfl⟩⟩
set_option maxRecDepth 100000 in
set_option maxHeartbeats 8000000 in
theorem rfval_deepL (n b : Nat) (t : ByteArray) (p k : Nat) (d : Int) (w : World) (h : Rf b t p k w) (hp : p ≤ t.size) (ht : t.size ≤ 2000) (hk : k ≤ 200) (hdn : d + n = 10) (hd0 : 0 ≤ d) (r : Bs) (hc : skip (rest t p) = 91 :: r) (hk2 : k < 200) (hn0 : n = 0) :
    Calls Tryz.prog 18 #[.pointer (some ⟨b, 0, none⟩), .int .i64 d] w (RValPost b t p k n w) := by
  have hbw := h.lt
  have hsl := skipAt_le t p
  have hsg := skipAt_ge t p hp
  have HSk : Hid (rest t (skipAt t p) = skip (rest t p)) := rest_skip t p hp
  obtain ⟨w0, hw0⟩ : ∃ w0, w0 = w.alloc (.cells #[.int .i64 0, .bool false, .int .i64 0, .string ⟨#[]⟩, .slice none 0 0, .slice none 0 0] 25) := ⟨_, rfl⟩
  have HW0 : Hid (w0 = w.alloc (.cells #[.int .i64 0, .bool false, .int .i64 0, .string ⟨#[]⟩, .slice none 0 0, .slice none 0 0] 25)) := hw0
  have HR0 : Hid (Rf b t p k w0) := by show Rf _ _ _ _ _; rw [hw0]; exact h.alloc _
  have HG0 : Hid (G b w w0) := by show G _ _ _; rw [hw0]; exact (G.refl b w).alloc _
  have HZ0 : Hid (Box w0 w.heap.size ⟨0, false, 0, []⟩ (.slice none 0 0) (.slice none 0 0)) := by show Box _ _ _ _ _; rw [hw0]; exact box_new w ⟨0, false, 0, []⟩ _ _
  obtain ⟨c, hcc⟩ : ∃ c : UInt8, c = 91 := ⟨_, rfl⟩
  have ho : c ∈ opens := by rw [hcc]; decide
  rw [← hcc] at hc
  have HL : Hid (lookOf (rest t (skipAt t p)) = (c.toNat : Int)) := by show lookOf _ = _; rw [HSk.out, hc]; rfl
  have HHd : Hid (hd (skip (rest t p)) = c) := by show hd _ = _; rw [hc]; rfl
  have HHas : Hid (decide (0 ≤ Lib.indexByte opensR.data.toList c) = true) := by
    show _ = true
    rw [opensR_has, List.contains_iff_mem]
    exact ho
  have HX : Hid (value n k (rest t p) = .error 4) := by
    show value _ _ _ = _
    have e : beginE n k (skip (rest t p)) = 4 := by
      unfold beginE
      rw [HHd.out, if_neg (by simpa using ho), if_neg (by omega), if_pos ⟨hn0, by rw [hcc]; decide⟩]
    rw [value_err (by rw [e]; decide), e]
  clear hc ho
  subst hcc
  have hd10 : d = 10 := by omega
  subst hd10
  clear hw0 h
  go_enter Tryz.func18, Tryz.ntmps18
  go_wp2_with fail
  rw [← HW0.out]
  refine (look_any b t p k w0 HR0.out hp ht).mono ?_
  rintro e w1 ⟨rfl, g1, r1⟩
  have HG1 : Hid (G b w w1) := HG0.out.trans g1
  have HR1 : Hid (Rf b t (skipAt t p) k w1) := r1
  have HZ1 : Hid (Box w1 w.heap.size ⟨0, false, 0, []⟩ (.slice none 0 0) (.slice none 0 0)) := HZ0.out.grown g1 (fun e => by cases e; omega)
  clear g1 r1
  rw [HL.out]
  have hc0 : decide (((91 : UInt8).toNat : Int) < 0) = false := by rw [decide_eq_false_iff_not]; omega
  go_wp2_with fail
  refine (chr_any 91 w1).mono ?_
  rintro e w2 ⟨rfl, b2⟩
  have HG2 : Hid (G b w w2) := HG1.out.trans ⟨b2.os, b2.tape, b2.output, b2.size, fun k hk _ => b2.block k hk⟩
  have HR2 : Hid (Rf b t (skipAt t p) k w2) := HR1.out.below b2
  have HZ2 : Hid (Box w2 w.heap.size ⟨0, false, 0, []⟩ (.slice none 0 0) (.slice none 0 0)) := HZ1.out.below b2
  clear b2
  go_wp2_with fail
  refine (Tryz.strings_Contains_one opensR 91 w2).mono ?_
  rintro e w2' ⟨rfl, rfl⟩
  rw [HHas.out]
  have m0 := HR2.out.many
  have m1 := HR2.out.free 2
  have m2 := (HR2.out.count (k + 1)).many
  have HR3 : Hid (Rf b t (skipAt t p) (k + 1) (w2'.setCell ⟨b, 2, none⟩ (.int .i64 ((k : Int) + 1)))) := HR2.out.count (k + 1)
  have HG3 : Hid (G b w (w2'.setCell ⟨b, 2, none⟩ (.int .i64 ((k : Int) + 1)))) := HG2.out.setCell 2 _
  have HZ3 : Hid (Box (w2'.setCell ⟨b, 2, none⟩ (.int .i64 ((k : Int) + 1))) w.heap.size ⟨0, false, 0, []⟩ (.slice none 0 0) (.slice none 0 0)) := HZ2.out.other (by omega) _
  have hkk : ¬ (200 : Int) < (k : Int) + 1 := by omega
  have f0 := HZ3.out.free 0
  have f1 := HZ3.out.free 1
  have f2 := HZ3.out.free 2
  have f3 := HZ3.out.free 3
  have f4 := HZ3.out.free 4
  have f5 := HZ3.out.free 5
  have z0 := HZ3.out.c0
  have z1 := HZ3.out.c1
  have z2 := HZ3.out.c2
  have z3 := HZ3.out.c3
  have z4 := HZ3.out.c4
  have z5 := HZ3.out.c5
  go_wp2_with fail
  generalize w2'.setCell ⟨b, 2, none⟩ (.int .i64 ((k : Int) + 1)) = w3 at *
  have e6 : Box (put6 w3 (w.heap.size) (.int .i64 0) (.bool false) (.int .i64 0) (.string ⟨#[]⟩) (.slice none 0 0) (.slice none 0 0)) (w.heap.size) ⟨0, false, 0, []⟩ (.slice none 0 0) (.slice none 0 0) := put6_box HZ3.out ⟨0, false, 0, []⟩ (.slice none 0 0) (.slice none 0 0)
  have g6 := put6_grown w3 (w.heap.size) (.int .i64 0) (.bool false) (.int .i64 0) (.string ⟨#[]⟩) (.slice none 0 0) (.slice none 0 0)
  change bodyPost _ _ _ _ _ (put6 w3 (w.heap.size) _ _ _ _ _ _)
  generalize put6 w3 (w.heap.size) (.int .i64 0) (.bool false) (.int .i64 0) (.string ⟨#[]⟩) (.slice none 0 0) (.slice none 0 0) = W at *
  exact bodyPost_ret (v := .tuple #[rfV ⟨0, false, 0, []⟩ (.slice none 0 0) (.slice none 0 0), .int .i64 4]) (by simp [results, Tryz.results18, go_sem, rfV, e6.c0, e6.c1, e6.c2, e6.c3, e6.c4, e6.c5]) rfl ⟨HG3.out.grown g6 (fun k e => by cases e; omega), Or.inl ⟨4, _, HX.out, by decide, by decide, rfl⟩⟩
set_option maxRecDepth 100000 in
set_option maxHeartbeats 8000000 in
theorem rfval_deepO (n b : Nat) (t : ByteArray) (p k : Nat) (d : Int) (w : World) (h : Rf b t p k w) (hp : p ≤ t.size) (ht : t.size ≤ 2000) (hk : k ≤ 200) (hdn : d + n = 10) (hd0 : 0 ≤ d) (r : Bs) (hc : skip (rest t p) = 123 :: r) (hk2 : k < 200) (hn0 : n = 0) :
    Calls Tryz.prog 18 #[.pointer (some ⟨b, 0, none⟩), .int .i64 d] w (RValPost b t p k n w) := by
  have hbw := h.lt
  have hsl := skipAt_le t p
  have hsg := skipAt_ge t p hp
  have HSk : Hid (rest t (skipAt t p) = skip (rest t p)) := rest_skip t p hp
  obtain ⟨w0, hw0⟩ : ∃ w0, w0 = w.alloc (.cells #[.int .i64 0, .bool false, .int .i64 0, .string ⟨#[]⟩, .slice none 0 0, .slice none 0 0] 25) := ⟨_, rfl⟩
  have HW0 : Hid (w0 = w.alloc (.cells #[.int .i64 0, .bool false, .int .i64 0, .string ⟨#[]⟩, .slice none 0 0, .slice none 0 0] 25)) := hw0
  have HR0 : Hid (Rf b t p k w0) := by show Rf _ _ _ _ _; rw [hw0]; exact h.alloc _
  have HG0 : Hid (G b w w0) := by show G _ _ _; rw [hw0]; exact (G.refl b w).alloc _
  have HZ0 : Hid (Box w0 w.heap.size ⟨0, false, 0, []⟩ (.slice none 0 0) (.slice none 0 0)) := by show Box _ _ _ _ _; rw [hw0]; exact box_new w ⟨0, false, 0, []⟩ _ _
  obtain ⟨c, hcc⟩ : ∃ c : UInt8, c = 123 := ⟨_, rfl⟩
  have ho : c ∈ opens := by rw [hcc]; decide
  rw [← hcc] at hc
  have HL : Hid (lookOf (rest t (skipAt t p)) = (c.toNat : Int)) := by show lookOf _ = _; rw [HSk.out, hc]; rfl
  have HHd : Hid (hd (skip (rest t p)) = c) := by show hd _ = _; rw [hc]; rfl
  have HHas : Hid (decide (0 ≤ Lib.indexByte opensR.data.toList c) = true) := by
    show _ = true
    rw [opensR_has, List.contains_iff_mem]
    exact ho
  have HX : Hid (value n k (rest t p) = .error 4) := by
    show value _ _ _ = _
    have e : beginE n k (skip (rest t p)) = 4 := by
      unfold beginE
      rw [HHd.out, if_neg (by simpa using ho), if_neg (by omega), if_pos ⟨hn0, by rw [hcc]; decide⟩]
    rw [value_err (by rw [e]; decide), e]
  clear hc ho
  subst hcc
  have hd10 : d = 10 := by omega
  subst hd10
  clear hw0 h
  go_enter Tryz.func18, Tryz.ntmps18
  go_wp2_with fail
  rw [← HW0.out]
  refine (look_any b t p k w0 HR0.out hp ht).mono ?_
  rintro e w1 ⟨rfl, g1, r1⟩
  have HG1 : Hid (G b w w1) := HG0.out.trans g1
  have HR1 : Hid (Rf b t (skipAt t p) k w1) := r1
  have HZ1 : Hid (Box w1 w.heap.size ⟨0, false, 0, []⟩ (.slice none 0 0) (.slice none 0 0)) := HZ0.out.grown g1 (fun e => by cases e; omega)
  clear g1 r1
  rw [HL.out]
  have hc0 : decide (((123 : UInt8).toNat : Int) < 0) = false := by rw [decide_eq_false_iff_not]; omega
  go_wp2_with fail
  refine (chr_any 123 w1).mono ?_
  rintro e w2 ⟨rfl, b2⟩
  have HG2 : Hid (G b w w2) := HG1.out.trans ⟨b2.os, b2.tape, b2.output, b2.size, fun k hk _ => b2.block k hk⟩
  have HR2 : Hid (Rf b t (skipAt t p) k w2) := HR1.out.below b2
  have HZ2 : Hid (Box w2 w.heap.size ⟨0, false, 0, []⟩ (.slice none 0 0) (.slice none 0 0)) := HZ1.out.below b2
  clear b2
  go_wp2_with fail
  refine (Tryz.strings_Contains_one opensR 123 w2).mono ?_
  rintro e w2' ⟨rfl, rfl⟩
  rw [HHas.out]
  have m0 := HR2.out.many
  have m1 := HR2.out.free 2
  have m2 := (HR2.out.count (k + 1)).many
  have HR3 : Hid (Rf b t (skipAt t p) (k + 1) (w2'.setCell ⟨b, 2, none⟩ (.int .i64 ((k : Int) + 1)))) := HR2.out.count (k + 1)
  have HG3 : Hid (G b w (w2'.setCell ⟨b, 2, none⟩ (.int .i64 ((k : Int) + 1)))) := HG2.out.setCell 2 _
  have HZ3 : Hid (Box (w2'.setCell ⟨b, 2, none⟩ (.int .i64 ((k : Int) + 1))) w.heap.size ⟨0, false, 0, []⟩ (.slice none 0 0) (.slice none 0 0)) := HZ2.out.other (by omega) _
  have hkk : ¬ (200 : Int) < (k : Int) + 1 := by omega
  have f0 := HZ3.out.free 0
  have f1 := HZ3.out.free 1
  have f2 := HZ3.out.free 2
  have f3 := HZ3.out.free 3
  have f4 := HZ3.out.free 4
  have f5 := HZ3.out.free 5
  have z0 := HZ3.out.c0
  have z1 := HZ3.out.c1
  have z2 := HZ3.out.c2
  have z3 := HZ3.out.c3
  have z4 := HZ3.out.c4
  have z5 := HZ3.out.c5
  go_wp2_with fail
  generalize w2'.setCell ⟨b, 2, none⟩ (.int .i64 ((k : Int) + 1)) = w3 at *
  have e6 : Box (put6 w3 (w.heap.size) (.int .i64 0) (.bool false) (.int .i64 0) (.string ⟨#[]⟩) (.slice none 0 0) (.slice none 0 0)) (w.heap.size) ⟨0, false, 0, []⟩ (.slice none 0 0) (.slice none 0 0) := put6_box HZ3.out ⟨0, false, 0, []⟩ (.slice none 0 0) (.slice none 0 0)
  have g6 := put6_grown w3 (w.heap.size) (.int .i64 0) (.bool false) (.int .i64 0) (.string ⟨#[]⟩) (.slice none 0 0) (.slice none 0 0)
  change bodyPost _ _ _ _ _ (put6 w3 (w.heap.size) _ _ _ _ _ _)
  generalize put6 w3 (w.heap.size) (.int .i64 0) (.bool false) (.int .i64 0) (.string ⟨#[]⟩) (.slice none 0 0) (.slice none 0 0) = W at *
  exact bodyPost_ret (v := .tuple #[rfV ⟨0, false, 0, []⟩ (.slice none 0 0) (.slice none 0 0), .int .i64 4]) (by simp [results, Tryz.results18, go_sem, rfV, e6.c0, e6.c1, e6.c2, e6.c3, e6.c4, e6.c5]) rfl ⟨HG3.out.grown g6 (fun k e => by cases e; omega), Or.inl ⟨4, _, HX.out, by decide, by decide, rfl⟩⟩
end Go.Proofs.YtaogilpkeeigoaaGreatDoor
