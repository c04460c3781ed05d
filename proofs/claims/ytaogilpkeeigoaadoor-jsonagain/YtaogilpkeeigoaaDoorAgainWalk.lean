/- The law JsonAgain over this translation: it answers true at every text, and leaves old memory alone. -/
import Derived.Test.YtaogilpkeeigoaaDoorAt
import Derived.Test.YtaogilpkeeigoaaDoorAtSame
namespace Go.Proofs.YtaogilpkeeigoaaDoor
open Go.RowKit
set_option linter.unusedVariables false
set_option linter.unusedSimpArgs false
theorem read_01 : read [48, 49] = .error 3 := by rfl
theorem small_01 : (⟨#[48, 49]⟩ : ByteArray).size ≤ maxLen := by
  show 2 ≤ maxLen
  unfold maxLen
  omega
set_option maxRecDepth 100000 in
set_option maxHeartbeats 4000000 in
theorem again_walk (a : ByteArray) (w : World) (ha : a.size ≤ maxLen) (hT : Tab w.heap.size w) :
    Calls Tryd.prog 3 #[.string a] w fun e w' => e = .returned (.bool true) ∧ Below w.heap.size w w' := by
  have H1 : Hid (Says w 6 #[.string ⟨#[48, 49]⟩] (.tuple #[.string ByteArray.empty, .int .i64 3])) := canon_err hT small_01 rfl read_01
  cases har : read a.data.toList with
  | error ea =>
    have hea := read_err har
    have hbe : ((ea : Int) != 0) = true := by rw [bne_iff_ne]; omega
    have HA : Hid (Says w 6 #[.string a] (.tuple #[.string ByteArray.empty, .int .i64 ea])) := canon_err hT ha rfl har
    clear hT har
    go_enter Tryd.func3, Tryd.ntmps3
    go_wp2_with fail
    refine Calls.mono (HA.out w (Below.refl _ _)) ?_
    rintro e w1 ⟨rfl, b1⟩
    have HB1 : Hid (Below w.heap.size w w1) := b1
    clear b1
    go_wp2_with fail
    refine Calls.mono (H1.out w1 HB1.out) ?_
    rintro e w2 ⟨rfl, b2⟩
    have HB2 : Hid (Below w.heap.size w w2) := HB1.out.trans (b2.mono HB1.out.size)
    clear b2
    go_wp2_with fail
    go_ret
    exact ⟨rfl, HB2.out⟩
  | ok j =>
    obtain ⟨j', hr, ht, hn, hd⟩ := read_again har
    have hsz := read_short har
    have hts : (⟨(tell 10 j).toArray⟩ : ByteArray).size = (tell 10 j).length := by simp [ByteArray.size]
    have hmx : (⟨(tell 10 j).toArray⟩ : ByteArray).size ≤ maxLen := by rw [hts]; unfold maxLen; omega
    have HA : Hid (Says w 6 #[.string a] (.tuple #[.string ⟨(tell 10 j).toArray⟩, .int .i64 0])) := canon_ok hT ha rfl har rfl
    have HU : Hid (Says w 6 #[.string ⟨(tell 10 j).toArray⟩] (.tuple #[.string ⟨(tell 10 j).toArray⟩, .int .i64 0])) := canon_ok hT hmx rfl hr (by rw [ht])
    have HS : Hid (Says w 7 #[.string a, .string ⟨(tell 10 j).toArray⟩] (.tuple #[.bool true, .int .i64 0])) := (same_ok hT ha hmx rfl rfl har hr).mono (by rw [ht]; simp)
    have HZ : Hid (Says w 8 #[.string a] (.tuple #[.int .i64 (nodes 10 j), .int .i64 (depth 10 j), .int .i64 0])) := size_ok ha rfl har
    have HY : Hid (Says w 8 #[.string ⟨(tell 10 j).toArray⟩] (.tuple #[.int .i64 (nodes 10 j), .int .i64 (depth 10 j), .int .i64 0])) := (size_ok hmx rfl hr).mono (by rw [hn, hd])
    have hne : ((⟨(tell 10 j).toArray⟩ : ByteArray).toList == []) = false := by
      rw [ByteArray.toList_eq]
      simpa using tell_ne 10 j
    have hle : (((⟨(tell 10 j).toArray⟩ : ByteArray).size : Nat) : Int) ≤ ((a.size : Nat) : Int) := by
      rw [hts]
      have := hsz.1
      rw [data_len] at this
      omega
    clear hT har hr ht hn hd hsz hts
    generalize (⟨(tell 10 j).toArray⟩ : ByteArray) = t at *
    generalize nodes 10 j = m at *
    generalize depth 10 j = d at *
    go_enter Tryd.func3, Tryd.ntmps3
    go_wp2_with fail
    refine Calls.mono (HA.out w (Below.refl _ _)) ?_
    rintro e w1 ⟨rfl, b1⟩
    have HB1 : Hid (Below w.heap.size w w1) := b1
    clear b1
    go_wp2_with fail
    refine Calls.mono (H1.out w1 HB1.out) ?_
    rintro e w2 ⟨rfl, b2⟩
    have HB2 : Hid (Below w.heap.size w w2) := HB1.out.trans (b2.mono HB1.out.size)
    clear b2
    go_wp2_with fail
    refine Calls.mono (HU.out w2 HB2.out) ?_
    rintro e w3 ⟨rfl, b3⟩
    have HB3 : Hid (Below w.heap.size w w3) := HB2.out.trans (b3.mono HB2.out.size)
    clear b3
    go_wp2_with fail
    refine Calls.mono (HS.out w3 HB3.out) ?_
    rintro e w4 ⟨rfl, b4⟩
    have HB4 : Hid (Below w.heap.size w w4) := HB3.out.trans (b4.mono HB3.out.size)
    clear b4
    go_wp2_with fail
    refine Calls.mono (HZ.out w4 HB4.out) ?_
    rintro e w5 ⟨rfl, b5⟩
    have HB5 : Hid (Below w.heap.size w w5) := HB4.out.trans (b5.mono HB4.out.size)
    clear b5
    go_wp2_with fail
    refine Calls.mono (HY.out w5 HB5.out) ?_
    rintro e w6 ⟨rfl, b6⟩
    have HB6 : Hid (Below w.heap.size w w6) := HB5.out.trans (b6.mono HB5.out.size)
    clear b6
    go_wp2_with fail
    go_ret
    exact ⟨rfl, HB6.out⟩
end Go.Proofs.YtaogilpkeeigoaaDoor
