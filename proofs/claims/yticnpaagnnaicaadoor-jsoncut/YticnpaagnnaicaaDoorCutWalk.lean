/- The law JsonCut over this translation: it answers true at every text and number, and leaves old memory alone. -/
import Derived.Test.YticnpaagnnaicaaDoorKindAny
import Derived.Test.YticnpaagnnaicaaDoorDocCutAny
namespace Go.Proofs.YticnpaagnnaicaaDoor
open Go.RowKit
set_option linter.unusedVariables false
set_option linter.unusedSimpArgs false
theorem read_empty : read [] = .error 3 := by rfl
theorem small_empty : (⟨#[]⟩ : ByteArray).size ≤ maxLen := by
  show 0 ≤ maxLen
  exact Nat.zero_le _
theorem begins_take {x : Bs} {k : Nat} (h : k < x.length) : Begins (x.take k) x := by
  refine ⟨x[k], x.drop (k + 1), ?_⟩
  rw [List.getElem_cons_drop, List.take_append_drop]
set_option maxRecDepth 100000 in
set_option maxHeartbeats 4000000 in
theorem cut_walk (a : ByteArray) (n : Int) (w : World) (ha : a.size ≤ maxLen) (hn1 : -9223372036854775808 ≤ n) (hn2 : n ≤ 9223372036854775807) (hT : Tab w.heap.size w) :
    Calls Tryd.prog 5 #[.string a, .int .i64 n] w fun e w' => e = .returned (.bool true) ∧ Below w.heap.size w w' := by
  have H1 : Hid (Says w 7 #[.string ⟨#[]⟩] (.tuple #[.string ByteArray.empty, .int .i64 3])) := canon_err hT small_empty rfl read_empty
  cases har : read a.data.toList with
  | error ea =>
    have hea := read_err har
    have hbe : ((ea : Int) != 0) = true := by rw [bne_iff_ne]; omega
    have hbe2 : ((ea : Int) == 0) = false := by rw [beq_eq_false_iff_ne]; omega
    have HA : Hid (Says w 7 #[.string a] (.tuple #[.string ByteArray.empty, .int .i64 ea])) := canon_err hT ha rfl har
    have HK : Hid (Says w 12 #[.string a] (.tuple #[.int .i64 0, .int .i64 ea])) := kind_err ha rfl har
    clear hT har
    go_enter Tryd.func5, Tryd.ntmps5
    go_wp2_with fail
    refine Calls.mono (HA.out w (Below.refl _ _)) ?_
    rintro e w1 ⟨rfl, b1⟩
    have HB1 : Hid (Below w.heap.size w w1) := b1
    clear b1
    go_wp2_with fail
    refine Calls.mono (H1.out w1 HB1.out) ?_
    rintro e w2 ⟨rfl, b2⟩
    have HB2 : Hid (Below w.heap.size w w2) := HB1.out.trans (b2.mono HB1.out.size)
    clear b2
    go_wp2_with fail
    refine Calls.mono (HK.out w2 HB2.out) ?_
    rintro e w3 ⟨rfl, b3⟩
    have HB3 : Hid (Below w.heap.size w w3) := HB2.out.trans (b3.mono HB2.out.size)
    clear b3
    go_wp2_with fail
    go_ret
    exact ⟨rfl, HB3.out⟩
  | ok j =>
    obtain ⟨t, ht⟩ : ∃ t : ByteArray, t.data.toList = tell 10 j := ⟨⟨(tell 10 j).toArray⟩, rfl⟩
    have HA : Hid (Says w 7 #[.string a] (.tuple #[.string t, .int .i64 0])) := canon_ok hT ha rfl har ht
    have HK : Hid (Says w 12 #[.string a] (.tuple #[.int .i64 (kindJ 10 j), .int .i64 0])) := kind_ok ha rfl har
    by_cases hk : kindJ 10 j = 3
    · rw [hk] at HK
      clear hT har ht hk
      go_enter Tryd.func5, Tryd.ntmps5
      go_wp2_with fail
      refine Calls.mono (HA.out w (Below.refl _ _)) ?_
      rintro e w1 ⟨rfl, b1⟩
      have HB1 : Hid (Below w.heap.size w w1) := b1
      clear b1
      go_wp2_with fail
      refine Calls.mono (H1.out w1 HB1.out) ?_
      rintro e w2 ⟨rfl, b2⟩
      have HB2 : Hid (Below w.heap.size w w2) := HB1.out.trans (b2.mono HB1.out.size)
      clear b2
      go_wp2_with fail
      refine Calls.mono (HK.out w2 HB2.out) ?_
      rintro e w3 ⟨rfl, b3⟩
      have HB3 : Hid (Below w.heap.size w w3) := HB2.out.trans (b3.mono HB2.out.size)
      clear b3
      go_wp2_with fail
      go_ret
      exact ⟨rfl, HB3.out⟩
    · have hts : t.size = (tell 10 j).length := by rw [← ht, data_len]
      have hsh := read_short har
      have ht1 : 1 ≤ t.size := by
        rw [hts]
        have := tell_ne 10 j
        cases hl : tell 10 j with
        | nil => exact absurd hl this
        | cons c l => simp
      have ht2 : t.size ≤ 2000 := by omega
      have hki : ((kindJ 10 j : Nat) : Int) ≠ 3 := by omega
      have hne : (t.toList == []) = false := by
        rw [ByteArray.toList_eq, ht]
        simpa using tell_ne 10 j
      have HC : Hid (∀ k : Nat, k < t.size → Says w 7 #[.string (t.extract 0 k)] (.tuple #[.string ByteArray.empty, .int .i64 3])) := by
        intro k hkt
        have he : (t.extract 0 k).data.toList = (tell 10 j).take k := by
          rw [ByteArray.data_extract, Array.toList_extract, ht]
          simp
        refine canon_err hT ?_ he (read_cut har hk (begins_take (by omega)))
        have h := data_len (t.extract 0 k)
        rw [he] at h
        simp only [List.length_take] at h
        unfold maxLen
        omega
      clear hT har ht hts hsh hk
      generalize kindJ 10 j = kd at *
      go_enter Tryd.func5, Tryd.ntmps5
      go_wp2_with fail
      refine Calls.mono (HA.out w (Below.refl _ _)) ?_
      rintro e w1 ⟨rfl, b1⟩
      have HB1 : Hid (Below w.heap.size w w1) := b1
      clear b1
      go_wp2_with fail
      refine Calls.mono (H1.out w1 HB1.out) ?_
      rintro e w2 ⟨rfl, b2⟩
      have HB2 : Hid (Below w.heap.size w w2) := HB1.out.trans (b2.mono HB1.out.size)
      clear b2
      go_wp2_with fail
      refine Calls.mono (HK.out w2 HB2.out) ?_
      rintro e w3 ⟨rfl, b3⟩
      have HB3 : Hid (Below w.heap.size w w3) := HB2.out.trans (b3.mono HB2.out.size)
      clear b3
      go_wp2_with fail
      refine (rest_any n t.size w3 ht1 (by omega) hn1 hn2).mono ?_
      rintro e w4 ⟨k, hkt, rfl, rfl⟩
      have hk0 : (0 : Int) ≤ (k : Int) := by omega
      have hk1 : (k : Int) ≤ (t.size : Int) := by omega
      have hk2 : ¬ (k : Int) < 0 := by omega
      have hk3 : ¬ (t.size : Int) < (k : Int) := by omega
      go_wp2_with fail
      refine Calls.mono (HC.out k hkt w4 HB3.out) ?_
      rintro e w5 ⟨rfl, b5⟩
      have HB5 : Hid (Below w.heap.size w w5) := HB3.out.trans (b5.mono HB3.out.size)
      clear b5
      go_wp2_with fail
      go_ret
      exact ⟨rfl, HB5.out⟩
end Go.Proofs.YticnpaagnnaicaaDoor
