/- The law JsonApart over this translation: it answers true at every two texts, and leaves old memory alone. -/
import Derived.Test.YticnpaagnnaicabDoorTop
import Derived.Lib.LaidTab
import Derived.MakeChecks
import Derived.Test.YticnpaagnnaicabDoorDocErr
namespace Go.Proofs.YticnpaagnnaicabDoor
open Go.RowKit
set_option linter.unusedVariables false
set_option linter.unusedSimpArgs false
/-- the table stands third on the list -/
theorem tabIs_of_third {P : Program} {W : World} {name : String} {k : IntKind} {zs : List Int} {x y : String × DataW Unit} {rest : List (String × DataW Unit)} {g : Nat} {t e : TypeId} {n : Nat}
    (hg : P.globalNamed name = some g) (hty : (P.globals[g]?).map (·.type) = some t) (ht : P.underlying t = some (.array n e)) (he : P.underlying e = some (.int k)) (hce : P.cellsOf e = 1) (hct : P.cellsOf t = n)
    (h : laidMet P (x :: y :: (name, Lib.tabData k zs) :: rest) W) : Lib.TabIs P W name k zs := by
  obtain ⟨ps, ⟨_, _, _, _, _, _, _, _, _, _, ⟨_, _, _, _, _, _, _, _, _, _, ⟨g', t', cs, fuel, p, q, hg', ht', hvar, hd, _, _⟩, _⟩, _⟩, _⟩ := h
  obtain rfl := Option.some.inj (hg.symm.trans hg')
  obtain rfl := Option.some.inj (hty.symm.trans ht')
  unfold Lib.TabIs
  rw [hvar, ← Lib.cells_of_tab ht he hce hct hd]
theorem tab_of_laid {x y : String × DataW Unit} {rest : List (String × DataW Unit)} {W : World} (hn : ((x :: y :: ("internal/strconv.uint64pow10", Lib.tabData .u64 Lib.pow10Tab) :: rest).all fun x => x.2.handleName?.isNone) = true)
    (h : laidMetH Tryd.prog (x :: y :: ("internal/strconv.uint64pow10", Lib.tabData .u64 Lib.pow10Tab) :: rest) W) : Tab W.heap.size W := by
  rw [Go.MakeChecks.laidMetH_plain _ _ _ hn] at h
  exact Lib.tabBelow_of_tabIs (tabIs_of_third (P := Tryd.prog) (g := 3) (t := 118) (e := 93) (n := 20) (by kernel_rfl) (by kernel_rfl) Tryd.underlying118 Tryd.underlying93 (by kernel_rfl) (by kernel_rfl) h)
theorem keepCanon_any (t : ByteArray) (w : World) (hs : t.size ≤ maxLen) (hT : Tab w.heap.size w) :
    Calls Tryd.prog 6 #[.string t] w fun e w' => (match read t.data.toList with
      | .error _ => e = .returned (.tuple #[.string ByteArray.empty, .bool false])
      | .ok j => e = .returned (.tuple #[.string ⟨(tell 10 j).toArray⟩, .bool true])) ∧ Below w.heap.size w w' := by
  have hC := canon_any t w hs hT
  cases hr : read t.data.toList with
  | error er =>
    have HC : Hid (Calls Tryd.prog 9 #[.string t] w fun e w' => e = .returned (.tuple #[.string ByteArray.empty, .int .i64 er]) ∧ Below w.heap.size w w') := by
      refine hC.mono ?_
      rintro e w1 ⟨rfl, b1⟩
      exact ⟨by rw [canonE, hr], b1⟩
    have her : er ≠ 0 := read_err hr
    have hbe : ((er : Int) == 0) = false := by rw [beq_eq_false_iff_ne]; omega
    clear hC hr hT
    go_enter Tryd.func6, Tryd.ntmps6
    go_wp2_with fail
    refine Calls.mono HC.out ?_
    rintro e w1 ⟨rfl, b1⟩
    have HB1 : Hid (Below w.heap.size w w1) := b1
    clear b1
    go_wp2_with fail
    go_ret2
    exact ⟨rfl, HB1.out⟩
  | ok j =>
    have HC : Hid (Calls Tryd.prog 9 #[.string t] w fun e w' => e = .returned (.tuple #[.string ⟨(tell 10 j).toArray⟩, .int .i64 0]) ∧ Below w.heap.size w w') := by
      refine hC.mono ?_
      rintro e w1 ⟨rfl, b1⟩
      exact ⟨by rw [canonE, hr], b1⟩
    clear hC hr hT
    simp only []
    generalize (⟨(tell 10 j).toArray⟩ : ByteArray) = tx at *
    go_enter Tryd.func6, Tryd.ntmps6
    go_wp2_with fail
    refine Calls.mono HC.out ?_
    rintro e w1 ⟨rfl, b1⟩
    have HB1 : Hid (Below w.heap.size w w1) := b1
    clear b1
    go_wp2_with fail
    go_ret2
    exact ⟨rfl, HB1.out⟩
set_option maxRecDepth 100000 in
set_option maxHeartbeats 4000000 in
theorem apart_walk (a b : ByteArray) (w : World) (ha : a.size ≤ maxLen) (hb : b.size ≤ maxLen) (hT : Tab w.heap.size w) :
    Calls Tryd.prog 3 #[.string a, .string b] w fun e w' => e = .returned (.bool true) ∧ Below w.heap.size w w' := by
  cases har : read a.data.toList with
  | error ea =>
    have hea := read_err har
    have hbe : ((ea : Int) != 0) = true := by rw [bne_iff_ne]; omega
    cases hbr : read b.data.toList with
    | error eb =>
      have HA : Hid (∀ w1, Below w.heap.size w w1 → Calls Tryd.prog 6 #[.string a] w1 fun e w' => e = .returned (.tuple #[.string ByteArray.empty, .bool false]) ∧ Below w1.heap.size w1 w') := by
        intro w1 hbw
        have h := keepCanon_any a w1 ha ((hT.below hbw).mono hbw.size)
        rw [har] at h
        exact h
      have HBc : Hid (∀ w1, Below w.heap.size w w1 → Calls Tryd.prog 6 #[.string b] w1 fun e w' => e = .returned (.tuple #[.string ByteArray.empty, .bool false]) ∧ Below w1.heap.size w1 w') := by
        intro w1 hbw
        have h := keepCanon_any b w1 hb ((hT.below hbw).mono hbw.size)
        rw [hbr] at h
        exact h
      have HS : Hid (∀ w1, Below w.heap.size w w1 → Calls Tryd.prog 7 #[.string a, .string b] w1 fun e w' => e = .returned (.tuple #[.bool false, .int .i64 ea]) ∧ Below w1.heap.size w1 w') := by
        intro w1 hb2
        have h := same_any a b w1 ha hb ((hT.below hb2).mono hb2.size)
        rw [sameE, har] at h
        simp only [hbr] at h
        exact h
      clear hT har hbr
      go_enter Tryd.func3, Tryd.ntmps3
      go_wp2_with fail
      refine Calls.mono (HA.out w (Below.refl _ _)) ?_
      rintro e w1 ⟨rfl, b1⟩
      have HB1 : Hid (Below w.heap.size w w1) := b1
      clear b1
      go_wp2_with fail
      refine Calls.mono (HBc.out w1 HB1.out) ?_
      rintro e w2 ⟨rfl, b2⟩
      have HB2 : Hid (Below w.heap.size w w2) := HB1.out.trans (b2.mono HB1.out.size)
      clear b2
      go_wp2_with fail
      refine Calls.mono (HS.out w2 HB2.out) ?_
      rintro e w3 ⟨rfl, b3⟩
      have HB3 : Hid (Below w.heap.size w w3) := HB2.out.trans (b3.mono HB2.out.size)
      clear b3
      go_wp2_with fail
      go_ret
      exact ⟨rfl, HB3.out⟩
    | ok i =>
      have HA : Hid (∀ w1, Below w.heap.size w w1 → Calls Tryd.prog 6 #[.string a] w1 fun e w' => e = .returned (.tuple #[.string ByteArray.empty, .bool false]) ∧ Below w1.heap.size w1 w') := by
        intro w1 hbw
        have h := keepCanon_any a w1 ha ((hT.below hbw).mono hbw.size)
        rw [har] at h
        exact h
      have HBc : Hid (∀ w1, Below w.heap.size w w1 → Calls Tryd.prog 6 #[.string b] w1 fun e w' => e = .returned (.tuple #[.string ⟨(tell 10 i).toArray⟩, .bool true]) ∧ Below w1.heap.size w1 w') := by
        intro w1 hbw
        have h := keepCanon_any b w1 hb ((hT.below hbw).mono hbw.size)
        rw [hbr] at h
        exact h
      have HS : Hid (∀ w1, Below w.heap.size w w1 → Calls Tryd.prog 7 #[.string a, .string b] w1 fun e w' => e = .returned (.tuple #[.bool false, .int .i64 ea]) ∧ Below w1.heap.size w1 w') := by
        intro w1 hb2
        have h := same_any a b w1 ha hb ((hT.below hb2).mono hb2.size)
        rw [sameE, har] at h
        simp only [hbr] at h
        exact h
      clear hT har hbr
      generalize (⟨(tell 10 i).toArray⟩ : ByteArray) = ti at *
      go_enter Tryd.func3, Tryd.ntmps3
      go_wp2_with fail
      refine Calls.mono (HA.out w (Below.refl _ _)) ?_
      rintro e w1 ⟨rfl, b1⟩
      have HB1 : Hid (Below w.heap.size w w1) := b1
      clear b1
      go_wp2_with fail
      refine Calls.mono (HBc.out w1 HB1.out) ?_
      rintro e w2 ⟨rfl, b2⟩
      have HB2 : Hid (Below w.heap.size w w2) := HB1.out.trans (b2.mono HB1.out.size)
      clear b2
      go_wp2_with fail
      refine Calls.mono (HS.out w2 HB2.out) ?_
      rintro e w3 ⟨rfl, b3⟩
      have HB3 : Hid (Below w.heap.size w w3) := HB2.out.trans (b3.mono HB2.out.size)
      clear b3
      go_wp2_with fail
      go_ret
      exact ⟨rfl, HB3.out⟩
  | ok j =>
    cases hbr : read b.data.toList with
    | error eb =>
      have heb := read_err hbr
      have hbe : ((eb : Int) != 0) = true := by rw [bne_iff_ne]; omega
      have HA : Hid (∀ w1, Below w.heap.size w w1 → Calls Tryd.prog 6 #[.string a] w1 fun e w' => e = .returned (.tuple #[.string ⟨(tell 10 j).toArray⟩, .bool true]) ∧ Below w1.heap.size w1 w') := by
        intro w1 hbw
        have h := keepCanon_any a w1 ha ((hT.below hbw).mono hbw.size)
        rw [har] at h
        exact h
      have HBc : Hid (∀ w1, Below w.heap.size w w1 → Calls Tryd.prog 6 #[.string b] w1 fun e w' => e = .returned (.tuple #[.string ByteArray.empty, .bool false]) ∧ Below w1.heap.size w1 w') := by
        intro w1 hbw
        have h := keepCanon_any b w1 hb ((hT.below hbw).mono hbw.size)
        rw [hbr] at h
        exact h
      have HS : Hid (∀ w1, Below w.heap.size w w1 → Calls Tryd.prog 7 #[.string a, .string b] w1 fun e w' => e = .returned (.tuple #[.bool false, .int .i64 eb]) ∧ Below w1.heap.size w1 w') := by
        intro w1 hb2
        have h := same_any a b w1 ha hb ((hT.below hb2).mono hb2.size)
        rw [sameE, har] at h
        simp only [hbr] at h
        exact h
      clear hT har hbr
      generalize (⟨(tell 10 j).toArray⟩ : ByteArray) = tj at *
      go_enter Tryd.func3, Tryd.ntmps3
      go_wp2_with fail
      refine Calls.mono (HA.out w (Below.refl _ _)) ?_
      rintro e w1 ⟨rfl, b1⟩
      have HB1 : Hid (Below w.heap.size w w1) := b1
      clear b1
      go_wp2_with fail
      refine Calls.mono (HBc.out w1 HB1.out) ?_
      rintro e w2 ⟨rfl, b2⟩
      have HB2 : Hid (Below w.heap.size w w2) := HB1.out.trans (b2.mono HB1.out.size)
      clear b2
      go_wp2_with fail
      refine Calls.mono (HS.out w2 HB2.out) ?_
      rintro e w3 ⟨rfl, b3⟩
      have HB3 : Hid (Below w.heap.size w w3) := HB2.out.trans (b3.mono HB2.out.size)
      clear b3
      go_wp2_with fail
      go_ret
      exact ⟨rfl, HB3.out⟩
    | ok i =>
      have HA : Hid (∀ w1, Below w.heap.size w w1 → Calls Tryd.prog 6 #[.string a] w1 fun e w' => e = .returned (.tuple #[.string ⟨(tell 10 j).toArray⟩, .bool true]) ∧ Below w1.heap.size w1 w') := by
        intro w1 hbw
        have h := keepCanon_any a w1 ha ((hT.below hbw).mono hbw.size)
        rw [har] at h
        exact h
      have HBc : Hid (∀ w1, Below w.heap.size w w1 → Calls Tryd.prog 6 #[.string b] w1 fun e w' => e = .returned (.tuple #[.string ⟨(tell 10 i).toArray⟩, .bool true]) ∧ Below w1.heap.size w1 w') := by
        intro w1 hbw
        have h := keepCanon_any b w1 hb ((hT.below hbw).mono hbw.size)
        rw [hbr] at h
        exact h
      have HS : Hid (∀ w1, Below w.heap.size w w1 → Calls Tryd.prog 7 #[.string a, .string b] w1 fun e w' => e = .returned (.tuple #[.bool (tell 10 j == tell 10 i), .int .i64 0]) ∧ Below w1.heap.size w1 w') := by
        intro w1 hb2
        have h := same_any a b w1 ha hb ((hT.below hb2).mono hb2.size)
        rw [sameE, har] at h
        simp only [hbr] at h
        exact h
      have heq : (tell 10 j == tell 10 i) = ((⟨(tell 10 j).toArray⟩ : ByteArray).toList == (⟨(tell 10 i).toArray⟩ : ByteArray).toList) := by
        rw [ByteArray.toList_eq, ByteArray.toList_eq]
      have hne : ((⟨(tell 10 j).toArray⟩ : ByteArray).toList == []) = false := by
        rw [ByteArray.toList_eq]
        simpa using tell_ne 10 j
      rw [heq] at HS
      clear hT har hbr heq
      generalize (⟨(tell 10 j).toArray⟩ : ByteArray) = tj at *
      generalize (⟨(tell 10 i).toArray⟩ : ByteArray) = ti at *
      go_enter Tryd.func3, Tryd.ntmps3
      go_wp2_with fail
      refine Calls.mono (HA.out w (Below.refl _ _)) ?_
      rintro e w1 ⟨rfl, b1⟩
      have HB1 : Hid (Below w.heap.size w w1) := b1
      clear b1
      go_wp2_with fail
      refine Calls.mono (HBc.out w1 HB1.out) ?_
      rintro e w2 ⟨rfl, b2⟩
      have HB2 : Hid (Below w.heap.size w w2) := HB1.out.trans (b2.mono HB1.out.size)
      clear b2
      go_wp2_with fail
      refine Calls.mono (HS.out w2 HB2.out) ?_
      rintro e w3 ⟨rfl, b3⟩
      have HB3 : Hid (Below w.heap.size w w3) := HB2.out.trans (b3.mono HB2.out.size)
      clear b3
      go_wp2_with fail
      all_goals go_ret
      all_goals exact ⟨rfl, HB3.out⟩
end Go.Proofs.YticnpaagnnaicabDoor
