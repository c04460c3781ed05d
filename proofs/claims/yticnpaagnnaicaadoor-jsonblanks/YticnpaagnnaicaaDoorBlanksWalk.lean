/- The law JsonBlanks over this translation: it answers true at every text and number, and leaves old memory alone. -/
import Derived.Test.YticnpaagnnaicaaDoorKindAny
import Derived.Test.YticnpaagnnaicaaDoorDocBlanks
import Derived.Test.YticnpaagnnaicaaDoorShelfRep
namespace Go.Proofs.YticnpaagnnaicaaDoor
open Go.RowKit
set_option linter.unusedVariables false
set_option linter.unusedSimpArgs false
theorem read_two : read [91, 32, 93] = .ok (Sum.inr (Sum.inl [])) := by rfl
theorem small_two : (⟨#[91, 32, 93]⟩ : ByteArray).size ≤ maxLen := by
  show 3 ≤ maxLen
  unfold maxLen
  omega
theorem blank_repeat : ∀ (k : Nat), ∀ c ∈ Lib.repeatL [32, 10, 9] k, blank c = true
  | 0, c, h => by cases h
  | k + 1, c, h => by
    have h' : c ∈ [32, 10, 9] ++ Lib.repeatL [32, 10, 9] k := h
    rcases List.mem_append.1 h' with h0 | h0
    · simp only [List.mem_cons, List.not_mem_nil, or_false] at h0
      rcases h0 with rfl | rfl | rfl <;> rfl
    · exact blank_repeat k c h0
theorem behind_bytes {R a : ByteArray} {x : Bs} (hR : R.data.toList = x) : (R ++ a ++ ({ data := #[9, 32, 10] } : ByteArray)).data.toList = x ++ a.data.toList ++ behindB := by
  simp [behindB, ByteArray.data_append, hR]
theorem behind_size {R a : ByteArray} (hR : R.size ≤ 90) (ha : a.size ≤ 1900) : (R ++ a ++ ({ data := #[9, 32, 10] } : ByteArray)).size ≤ maxLen := by
  have h := data_len (R ++ a ++ ({ data := #[9, 32, 10] } : ByteArray))
  rw [behind_bytes rfl] at h
  simp only [List.length_append, data_len] at h
  have h3 : behindB.length = 3 := rfl
  unfold maxLen
  omega
set_option maxRecDepth 100000 in
set_option maxHeartbeats 4000000 in
theorem blanks_walk (a : ByteArray) (n : Int) (w : World) (ha : a.size ≤ maxLen) (hn1 : -9223372036854775808 ≤ n) (hn2 : n ≤ 9223372036854775807) (hT : Tab w.heap.size w) :
    Calls Tryd.prog 4 #[.string a, .int .i64 n] w fun e w' => e = .returned (.bool true) ∧ Below w.heap.size w w' := by
  have H2 : Hid (Says w 7 #[.string ⟨#[91, 32, 93]⟩] (.tuple #[.string ⟨#[91, 93]⟩, .int .i64 0])) := canon_ok hT small_two rfl read_two rfl
  cases har : read a.data.toList with
  | error ea =>
    have hea := read_err har
    have HA : Hid (Says w 7 #[.string a] (.tuple #[.string ByteArray.empty, .int .i64 ea])) := canon_err hT ha rfl har
    have hbe2 : ((ea : Int) == 0) = false := by rw [beq_eq_false_iff_ne]; omega
    by_cases h2 : ea = 2
    · subst h2
      clear hT har
      go_enter Tryd.func4, Tryd.ntmps4
      go_wp2_with fail
      refine Calls.mono (HA.out w (Below.refl _ _)) ?_
      rintro e w1 ⟨rfl, b1⟩
      have HB1 : Hid (Below w.heap.size w w1) := b1
      clear b1
      go_wp2_with fail
      go_ret
      exact ⟨rfl, HB1.out⟩
    · have hb2 : ((ea : Int) == 2) = false := by rw [beq_eq_false_iff_ne]; omega
      by_cases hl : (1900 : Int) < (a.size : Int)
      · clear hT har
        go_enter Tryd.func4, Tryd.ntmps4
        go_wp2_with fail
        refine Calls.mono (HA.out w (Below.refl _ _)) ?_
        rintro e w1 ⟨rfl, b1⟩
        have HB1 : Hid (Below w.heap.size w w1) := b1
        clear b1
        go_wp2_with fail
        go_ret
        exact ⟨rfl, HB1.out⟩
      · have hsm : a.size ≤ 1900 := by omega
        have HC : Hid (∀ R : ByteArray, (∀ c ∈ R.data.toList, blank c = true) → R.size ≤ 90 → Says w 7 #[.string (R ++ a ++ ({ data := #[9, 32, 10] } : ByteArray))] (.tuple #[.string ByteArray.empty, .int .i64 ea])) := by
          intro R hR hRs
          have hb : read (R ++ a ++ ({ data := #[9, 32, 10] } : ByteArray)).data.toList = read a.data.toList := by
            rw [behind_bytes rfl]
            exact read_blanks hR (by rw [data_len]; exact hRs) (by rw [data_len]; exact hsm)
          exact canon_err hT (behind_size hRs hsm) rfl (by rw [hb]; exact har)
        clear hT har
        go_enter Tryd.func4, Tryd.ntmps4
        go_wp2_with fail
        refine Calls.mono (HA.out w (Below.refl _ _)) ?_
        rintro e w1 ⟨rfl, b1⟩
        have HB1 : Hid (Below w.heap.size w w1) := b1
        clear b1
        go_wp2_with fail
        refine (rest_any n 9 w1 (by omega) (by omega) hn1 hn2).mono ?_
        rintro e w2 ⟨k, hkt, rfl, rfl⟩
        go_wp2_with fail
        refine (Tryd.strings_Repeat ⟨#[32, 10, 9]⟩ k _ (by omega) (by show 3 * k ≤ _; omega)).mono ?_
        rintro e w3 ⟨rfl, b3⟩
        have HB3 : Hid (Below w.heap.size w w3) := HB1.out.trans (b3.mono HB1.out.size)
        clear b3
        obtain ⟨R, hR⟩ : ∃ R : ByteArray, R = ⟨(Lib.repeatL (⟨#[32, 10, 9]⟩ : ByteArray).data.toList k).toArray⟩ := ⟨_, rfl⟩
        have hRb : ∀ c ∈ R.data.toList, blank c = true := by
          rw [hR]
          exact blank_repeat k
        have hRs : R.size ≤ 90 := by
          have h := Lib.repeatL_length [32, 10, 9] k
          have h' : R.size = (Lib.repeatL [32, 10, 9] k).length := by
            rw [hR, ← data_len]
          simp only [List.length_cons, List.length_nil] at h
          omega
        rw [← hR]
        have HC2 := HC.out R hRb hRs
        have HC3 : Hid (Says w 7 #[.string (R ++ a ++ ({ data := #[9, 32, 10] } : ByteArray))] (.tuple #[.string ByteArray.empty, .int .i64 ea])) := HC2
        have d1 : ¬ 9223372036854775807 < R.size + a.size := by omega
        have d2 : ¬ 9223372036854775807 < R.size + a.size + 3 := by omega
        clear hR hRb HC2
        go_wp2_with fail
        refine Calls.mono (HC3.out w3 HB3.out) ?_
        rintro e w4 ⟨rfl, b4⟩
        have HB4 : Hid (Below w.heap.size w w4) := HB3.out.trans (b4.mono HB3.out.size)
        clear b4
        go_wp2_with fail
        refine Calls.mono (H2.out w4 HB4.out) ?_
        rintro e w5 ⟨rfl, b5⟩
        have HB5 : Hid (Below w.heap.size w w5) := HB4.out.trans (b5.mono HB4.out.size)
        clear b5
        go_wp2_with fail
        go_ret
        exact ⟨rfl, HB5.out⟩
  | ok j =>
    obtain ⟨t, ht⟩ : ∃ t : ByteArray, t.data.toList = tell 10 j := ⟨⟨(tell 10 j).toArray⟩, rfl⟩
    have HA : Hid (Says w 7 #[.string a] (.tuple #[.string t, .int .i64 0])) := canon_ok hT ha rfl har ht
    by_cases hl : (1900 : Int) < (a.size : Int)
    · clear hT har ht
      go_enter Tryd.func4, Tryd.ntmps4
      go_wp2_with fail
      refine Calls.mono (HA.out w (Below.refl _ _)) ?_
      rintro e w1 ⟨rfl, b1⟩
      have HB1 : Hid (Below w.heap.size w w1) := b1
      clear b1
      go_wp2_with fail
      go_ret
      exact ⟨rfl, HB1.out⟩
    · have hsm : a.size ≤ 1900 := by omega
      have HC : Hid (∀ R : ByteArray, (∀ c ∈ R.data.toList, blank c = true) → R.size ≤ 90 → Says w 7 #[.string (R ++ a ++ ({ data := #[9, 32, 10] } : ByteArray))] (.tuple #[.string t, .int .i64 0])) := by
        intro R hR hRs
        have hb : read (R ++ a ++ ({ data := #[9, 32, 10] } : ByteArray)).data.toList = read a.data.toList := by
          rw [behind_bytes rfl]
          exact read_blanks hR (by rw [data_len]; exact hRs) (by rw [data_len]; exact hsm)
        exact canon_ok hT (behind_size hRs hsm) rfl (by rw [hb]; exact har) ht
      clear hT har ht
      go_enter Tryd.func4, Tryd.ntmps4
      go_wp2_with fail
      refine Calls.mono (HA.out w (Below.refl _ _)) ?_
      rintro e w1 ⟨rfl, b1⟩
      have HB1 : Hid (Below w.heap.size w w1) := b1
      clear b1
      go_wp2_with fail
      refine (rest_any n 9 w1 (by omega) (by omega) hn1 hn2).mono ?_
      rintro e w2 ⟨k, hkt, rfl, rfl⟩
      go_wp2_with fail
      refine (Tryd.strings_Repeat ⟨#[32, 10, 9]⟩ k _ (by omega) (by show 3 * k ≤ _; omega)).mono ?_
      rintro e w3 ⟨rfl, b3⟩
      have HB3 : Hid (Below w.heap.size w w3) := HB1.out.trans (b3.mono HB1.out.size)
      clear b3
      obtain ⟨R, hR⟩ : ∃ R : ByteArray, R = ⟨(Lib.repeatL (⟨#[32, 10, 9]⟩ : ByteArray).data.toList k).toArray⟩ := ⟨_, rfl⟩
      have hRb : ∀ c ∈ R.data.toList, blank c = true := by
        rw [hR]
        exact blank_repeat k
      have hRs : R.size ≤ 90 := by
        have h := Lib.repeatL_length [32, 10, 9] k
        have h' : R.size = (Lib.repeatL [32, 10, 9] k).length := by
          rw [hR, ← data_len]
        simp only [List.length_cons, List.length_nil] at h
        omega
      rw [← hR]
      have HC2 := HC.out R hRb hRs
      have HC3 : Hid (Says w 7 #[.string (R ++ a ++ ({ data := #[9, 32, 10] } : ByteArray))] (.tuple #[.string t, .int .i64 0])) := HC2
      have d1 : ¬ 9223372036854775807 < R.size + a.size := by omega
      have d2 : ¬ 9223372036854775807 < R.size + a.size + 3 := by omega
      clear hR hRb HC2
      go_wp2_with fail
      refine Calls.mono (HC3.out w3 HB3.out) ?_
      rintro e w4 ⟨rfl, b4⟩
      have HB4 : Hid (Below w.heap.size w w4) := HB3.out.trans (b4.mono HB3.out.size)
      clear b4
      go_wp2_with fail
      refine Calls.mono (H2.out w4 HB4.out) ?_
      rintro e w5 ⟨rfl, b5⟩
      have HB5 : Hid (Below w.heap.size w w5) := HB4.out.trans (b5.mono HB4.out.size)
      clear b5
      go_wp2_with fail
      go_ret
      exact ⟨rfl, HB5.out⟩
end Go.Proofs.YticnpaagnnaicaaDoor
