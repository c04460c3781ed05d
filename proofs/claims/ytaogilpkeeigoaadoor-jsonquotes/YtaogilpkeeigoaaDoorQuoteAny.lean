/- Contract of json.Quote over this translation, at every text. -/
import Derived.Test.YtaogilpkeeigoaaDoorTellText
import Derived.Test.YtaogilpkeeigoaaDoorRdSign
namespace Go.Proofs.YtaogilpkeeigoaaDoor
open Go.RowKit
set_option linter.unusedVariables false
set_option linter.unusedSimpArgs false
def quoteE (s : Bs) : Array Value :=
  if s.all meant then (if 2000 < s.length then #[.string ByteArray.empty, .int .i64 2] else if 2000 < (quote s).length then #[.string ByteArray.empty, .int .i64 2] else #[.string ⟨(quote s).toArray⟩, .int .i64 0])
  else #[.string ByteArray.empty, .int .i64 16]
theorem quoteB_two (c : UInt8) : (quoteB c).length ≤ 2 := by
  unfold quoteB
  split
  · simp
  · split
    · simp
    · split <;> simp
theorem quote_len2 : ∀ s : Bs, (s.flatMap quoteB).length ≤ 2 * s.length
  | [] => by simp
  | c :: s => by
    have := quote_len2 s
    have h := quoteB_two c
    simp only [List.flatMap_cons, List.length_append, List.length_cons]
    omega
theorem quote_len (s : Bs) : (quote s).length ≤ 2 * s.length + 2 := by
  have := quote_len2 s
  simp only [quote, List.length_cons, List.length_append, List.length_nil]
  omega
theorem meant_of {c : UInt8} (h : plain c = true) : meant c = true := by simp [meant, h]
theorem not_meant {c : UInt8} (h : plain c = false) (h1 : c ≠ 10) (h2 : c ≠ 9) : meant c = false := by simp [meant, h, h1, h2]
theorem all_bad {s : ByteArray} {k : Nat} (hk : k < s.size) (h : meant s[k] = false) : s.data.toList.all meant = false := by
  rw [List.all_eq_false]
  refine ⟨s[k], ?_, by simp [h]⟩
  have h' : k < s.data.toList.length := by simpa using hk
  exact List.getElem_mem h'
theorem all_good {s : ByteArray} (h : ∀ k (hk : k < s.size), meant s[k] = true) : s.data.toList.all meant = true := by
  rw [List.all_eq_true]
  intro c hc
  obtain ⟨k, hk, rfl⟩ := List.getElem_of_mem hc
  exact h k (by simpa using hk)
set_option maxRecDepth 100000 in
set_option maxHeartbeats 1000000 in
theorem quote_any (s : ByteArray) (w : World) (hs : s.size ≤ maxLen) :
    Calls Tryd.prog 10 #[.string s] w fun e w' => e = .returned (.tuple (quoteE s.data.toList)) ∧ Below w.heap.size w w' := by
  unfold maxLen at hs
  go_enter Tryd.func10, Tryd.ntmps10
  go_wp2_with fail
  go_loopw [4] (fun i wr => ∃ k : Nat, k ≤ s.size ∧ i = .int .i64 k ∧ (∀ j (hj : j < s.size), j < k → meant s[j] = true) ∧ Below w.heap.size w wr) (fun i _ => s.size - (intOf i).toNat)
  case atStart => exact ⟨0, Nat.zero_le _, rfl, fun j hj h => absurd h (Nat.not_lt_zero _), Below.refl _ _⟩
  case round =>
    obtain ⟨k, hk, rfl, hall, hbel⟩ := hrel
    have HW : Hid (Below w.heap.size w wr) := hbel
    clear hbel
    have HA : Hid (∀ j (hj : j < s.size), j < k → meant s[j] = true) := hall
    clear hall
    by_cases hlt : k < s.size
    · cases hpl : plain s[k] with
      | true =>
        have HP : Hid (plain s[k] = true) := hpl
        go_wp2_with fail
        refine (isPlain_any _ _).mono ?_
        rintro e w1 ⟨rfl, rfl⟩
        go_wp2_with fail
        go_roundw
        case rel => exact ⟨k + 1, by omega, by go_num, (fun j hj h => by
          rcases Nat.lt_succ_iff_lt_or_eq.mp h with h | rfl
          · exact HA.out j hj h
          · exact meant_of HP.out), HW.out⟩
        case measure => simp [intOf]; omega
      | false =>
        have HP : Hid (plain s[k] = false) := hpl
        by_cases h10 : s[k] = 10
        · have H10 : Hid (s[k] = 10) := h10
          have hb : ((s[k].toNat : Int) != 10) = false := by rw [h10]; rfl
          clear h10
          go_wp2_with fail
          refine (isPlain_any _ _).mono ?_
          rintro e w1 ⟨rfl, rfl⟩
          go_wp2_with fail
          go_roundw
          case rel => exact ⟨k + 1, by omega, by go_num, (fun j hj h => by
            rcases Nat.lt_succ_iff_lt_or_eq.mp h with h | rfl
            · exact HA.out j hj h
            · rw [H10.out]; decide), HW.out⟩
          case measure => simp [intOf]; omega
        have H10 : Hid (s[k] ≠ 10) := h10
        have hb10 : ((s[k].toNat : Int) != 10) = true := bool_ne (d := 10) h10
        clear h10
        by_cases h9 : s[k] = 9
        · have H9 : Hid (s[k] = 9) := h9
          have hb : ((s[k].toNat : Int) != 9) = false := by rw [h9]; rfl
          clear h9
          go_wp2_with fail
          refine (isPlain_any _ _).mono ?_
          rintro e w1 ⟨rfl, rfl⟩
          go_wp2_with fail
          go_roundw
          case rel => exact ⟨k + 1, by omega, by go_num, (fun j hj h => by
            rcases Nat.lt_succ_iff_lt_or_eq.mp h with h | rfl
            · exact HA.out j hj h
            · rw [H9.out]; decide), HW.out⟩
          case measure => simp [intOf]; omega
        have H9 : Hid (s[k] ≠ 9) := h9
        have hb9 : ((s[k].toNat : Int) != 9) = true := bool_ne (d := 9) h9
        clear h9
        go_wp2_with fail
        refine (isPlain_any _ _).mono ?_
        rintro e w1 ⟨rfl, rfl⟩
        go_wp2_with fail
        go_ret2
        refine ⟨?_, HW.out⟩
        rw [quoteE, all_bad hlt (not_meant HP.out H10.out H9.out)]
        rfl
    · have HG : Hid (s.data.toList.all meant = true) := all_good (fun j hj => HA.out j hj (by omega))
      by_cases hbig : (2000 : Int) < (s.size : Int)
      · go_wp2_with fail
        go_ret2
        refine ⟨?_, HW.out⟩
        rw [quoteE, HG.out, if_pos rfl, if_pos (by simp; omega)]
        rfl
      · have HQL := quote_len s.data.toList
        have hsl : s.data.toList.length = s.size := by simp
        go_wp2_with fail
        refine (tell_text s _ (by omega) (by omega)).mono ?_
        rintro e w1 ⟨rfl, hb⟩
        have HB : Hid (Below w.heap.size w w1) := HW.out.trans (hb.mono HW.out.size)
        clear hb
        have HE : Hid (quoteE s.data.toList = toldE (quote s.data.toList)) := by
          show quoteE s.data.toList = _
          rw [quoteE, HG.out, if_pos rfl, if_neg (by omega)]
          rfl
        by_cases hgt : 2000 < (quote s.data.toList).length
        · have HE2 : Hid (toldE (quote s.data.toList) = #[.string ByteArray.empty, .int .i64 2]) := by
            show toldE _ = _
            rw [toldE, if_pos hgt]
          rw [HE2.out]
          go_wp2_with fail
          go_ret2
          exact ⟨by rw [HE.out, HE2.out]; rfl, HB.out⟩
        · have HE2 : Hid (toldE (quote s.data.toList) = #[.string ⟨(quote s.data.toList).toArray⟩, .int .i64 0]) := by
            show toldE _ = _
            rw [toldE, if_neg hgt]
          rw [HE2.out]
          go_wp2_with fail
          go_ret2
          exact ⟨by rw [HE.out, HE2.out]; rfl, HB.out⟩
end Go.Proofs.YtaogilpkeeigoaaDoor
