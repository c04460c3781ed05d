/- Contract over this translation of the document's Name. -/
import Derived.Test.YtnjjlnhchfoigaaGrMem
import Derived.Test.YtnjjlnhchfoigaaShelf2
import Derived.Test.YtnjjlnhchfoigaaPlain
namespace Go.Proofs.Ytnjjlnhchfoigaa
set_option linter.unusedVariables false
set_option linter.unusedSimpArgs false
theorem bytes_of {a : ByteArray} {l : List UInt8} (h : l = a.data.toList) : ({ data := l.toArray } : ByteArray) = a := by
  subst h
  rfl
/-- is the byte in the text? -/
def hasT (t : ByteArray) (n : Int) : Bool := decide (0 ≤ Lib.indexByte t.data.toList n.toNat.toUInt8)
/-- may the k-th byte stand there, by the document's answer? -/
def fitB (edge within s : ByteArray) (k : Nat) : Bool := hasT edge (byteI s k) || (!(decide (k = 0) || decide (k + 1 = s.size)) && hasT within (byteI s k))
def namedB (edge within s : ByteArray) : Bool := decide (1 ≤ s.size) && (List.range s.size).all fun k => fitB edge within s k
def namedI (edge within s : ByteArray) : Int := if namedB edge within s = true then 0 else 6
theorem named_t {edge within s : ByteArray} (h0 : ¬ s.size = 0) (h : ∀ k, k < s.size → fitB edge within s k = true) : namedI edge within s = 0 := by
  unfold namedI namedB
  rw [if_pos]
  simp only [Bool.and_eq_true, decide_eq_true_eq, List.all_eq_true, List.mem_range]
  exact ⟨by omega, h⟩
theorem named_f {edge within s : ByteArray} {k : Nat} (hk : k < s.size) (h : fitB edge within s k = false) : namedI edge within s = 6 := by
  unfold namedI namedB
  rw [if_neg]
  simp only [Bool.and_eq_true, decide_eq_true_eq, List.all_eq_true, List.mem_range]
  intro g
  rw [g.2 k hk] at h
  cases h
theorem named_e {edge within s : ByteArray} (h : s.size = 0) : namedI edge within s = 6 := by
  unfold namedI namedB
  rw [if_neg]
  simp only [Bool.and_eq_true, decide_eq_true_eq]
  intro g
  omega
theorem extract_one (s : ByteArray) (k : Nat) (h : k < s.size) : s.extract k (k + 1) = { data := #[(byteI s k).toNat.toUInt8] } := by
  rw [byteI_of h, u8_back]
  have e : (s.extract k (k + 1)).data.toList = [s[k]] := by
    have h' : k < s.data.toList.length := by simpa using h
    have := Lib.extract_data s k (k + 1)
    rw [this, Nat.add_sub_cancel_left]
    rw [List.drop_eq_getElem_cons h']
    rfl
  have := bytes_of (a := s.extract k (k + 1)) (l := [s[k]]) e.symm
  exact this.symm
def lowT : ByteArray := { data := #[97, 98, 99, 100, 101, 102, 103, 104, 105, 106, 107, 108, 109, 110, 111, 112, 113, 114, 115, 116, 117, 118, 119, 120, 121, 122, 48, 49, 50, 51, 52, 53, 54, 55, 56, 57] }
def bothT : ByteArray := { data := #[97, 98, 99, 100, 101, 102, 103, 104, 105, 106, 107, 108, 109, 110, 111, 112, 113, 114, 115, 116, 117, 118, 119, 120, 121, 122, 48, 49, 50, 51, 52, 53, 54, 55, 56, 57, 65, 66, 67, 68, 69, 70, 71, 72, 73, 74, 75, 76, 77, 78, 79, 80, 81, 82, 83, 84, 85, 86, 87, 88, 89, 90] }
theorem low_all : ((List.range 256).all fun n => hasT lowT n == small n) = true := by decide +kernel
theorem both_all : ((List.range 256).all fun n => hasT bothT n == letter n) = true := by decide +kernel
theorem dash_all : ((List.range 256).all fun n => hasT { data := #[45] } n == decide (0 ≤ firstIdx { data := #[45] } (n : Int).toNat.toUInt8)) = true := by decide +kernel
theorem signs_all : ((List.range 256).all fun n => hasT { data := #[45, 95, 46] } n == decide (0 ≤ firstIdx { data := #[45, 95, 46] } (n : Int).toNat.toUInt8)) = true := by decide +kernel
theorem byteI_range (s : ByteArray) (k : Nat) : ∃ n : Nat, n < 256 ∧ byteI s k = n := by
  rw [byteI_list]
  exact ⟨_, UInt8.toNat_lt _, rfl⟩
theorem low_is (s : ByteArray) (k : Nat) : hasT lowT (byteI s k) = small (byteI s k) := by
  obtain ⟨n, hn, e⟩ := byteI_range s k
  rw [e]; exact beq_iff_eq.mp (List.all_eq_true.mp low_all n (List.mem_range.mpr hn))
theorem both_is (s : ByteArray) (k : Nat) : hasT bothT (byteI s k) = letter (byteI s k) := by
  obtain ⟨n, hn, e⟩ := byteI_range s k
  rw [e]; exact beq_iff_eq.mp (List.all_eq_true.mp both_all n (List.mem_range.mpr hn))
theorem dash_is (s : ByteArray) (k : Nat) : hasT { data := #[45] } (byteI s k) = decide (0 ≤ firstIdx { data := #[45] } (byteI s k).toNat.toUInt8) := by
  obtain ⟨n, hn, e⟩ := byteI_range s k
  rw [e]; exact beq_iff_eq.mp (List.all_eq_true.mp dash_all n (List.mem_range.mpr hn))
theorem signs_is (s : ByteArray) (k : Nat) : hasT { data := #[45, 95, 46] } (byteI s k) = decide (0 ≤ firstIdx { data := #[45, 95, 46] } (byteI s k).toNat.toUInt8) := by
  obtain ⟨n, hn, e⟩ := byteI_range s k
  rw [e]; exact beq_iff_eq.mp (List.all_eq_true.mp signs_all n (List.mem_range.mpr hn))
theorem named_word {P : Int → Bool} {sg edge within s : ByteArray} (hs : s.size ≤ 63) (hE : ∀ k, hasT edge (byteI s k) = P (byteI s k)) (hS : ∀ k, hasT within (byteI s k) = decide (0 ≤ firstIdx sg (byteI s k).toNat.toUInt8)) :
    namedI edge within s = if wordB P sg s = true then 0 else 6 := by
  by_cases h0 : s.size = 0
  · rw [named_e h0, word_f1 (by omega)]; rfl
  · by_cases hw : WordP P sg s
    · rw [wordB_iff.mpr hw, if_pos rfl]
      refine named_t h0 fun k hk => ?_
      unfold fitB
      rw [hE, hS]
      have hok := hw.2.2.2.2 k hk
      unfold okB at hok
      cases hp : P (byteI s k) with
      | true => rfl
      | false =>
        rw [hp, Bool.false_or] at hok
        have n0 : k ≠ 0 := fun e => by rw [e, hw.2.2.1] at hp; cases hp
        have n1 : k + 1 ≠ s.size := fun e => by
          have e' : k = s.size - 1 := by omega
          rw [e', hw.2.2.2.1] at hp; cases hp
        rw [hok]
        simp [n0, n1]
    · rw [wordB_false hw]
      show _ = (6 : Int)
      apply Classical.byContradiction
      intro hn
      apply hw
      have hall : ∀ k, k < s.size → fitB edge within s k = true := by
        intro k hk
        cases hf : fitB edge within s k with
        | true => rfl
        | false => exact absurd (named_f hk hf) hn
      have hpl : ∀ k, k < s.size → (k = 0 ∨ k + 1 = s.size) → P (byteI s k) = true := by
        intro k hk he
        have := hall k hk
        unfold fitB at this
        rw [hE] at this
        cases hp : P (byteI s k) with
        | true => rfl
        | false =>
          rw [hp] at this
          rcases he with he | he <;> simp [he] at this
      refine ⟨by omega, hs, hpl 0 (by omega) (.inl rfl), hpl (s.size - 1) (by omega) (.inr (by omega)), fun k hk => ?_⟩
      have := hall k hk
      unfold fitB at this
      rw [hE, hS] at this
      unfold okB
      cases hp : P (byteI s k) with
      | true => rfl
      | false =>
        rw [hp, Bool.false_or, Bool.and_eq_true] at this
        rw [this.2]; rfl
theorem named_name {s : ByteArray} (hs : s.size ≤ 63) : namedI lowT { data := #[45] } s = if nameB s = true then 0 else 6 := named_word hs (low_is s) (dash_is s)
theorem named_last {s : ByteArray} (hs : s.size ≤ 63) : namedI bothT { data := #[45, 95, 46] } s = if lastB s = true then 0 else 6 := named_word hs (both_is s) (signs_is s)
open Go.RowKit
theorem has_any (t s : ByteArray) (k : Nat) (w : World) (h : k < s.size) : Calls Try.prog 55 #[.string t, .string (s.extract k (k + 1))] w fun e w' => e = .returned (.bool (hasT t (byteI s k))) ∧ w' = w := by
  rw [extract_one s k h]
  exact Try.strings_Contains_one t (byteI s k).toNat.toUInt8 w
set_option maxHeartbeats 2000000 in
theorem named_any (s edge within : ByteArray) (w : World) (hs : s.size ≤ maxLen) : Calls Try.prog 45 #[.string s, .string edge, .string within] w fun e w' => e = .returned (.int .i64 (namedI edge within s)) ∧ w' = w := by
  unfold maxLen at hs
  by_cases h0 : s.size = 0
  · rw [named_e h0, toList_empty_eq h0]
    go_enter Try.func45, Try.ntmps45
    go_wp2_with fail
    go_ret
    exact ⟨rfl, rfl⟩
  have he := size_cons_ne h0
  go_enter Try.func45, Try.ntmps45
  go_wp2_with fail
  go_loop [13] (fun i => ∃ k : Nat, k ≤ s.size ∧ i = .int .i64 k ∧ ∀ j, j < k → fitB edge within s j = true) (fun i => s.size - (intOf i).toNat)
  case atStart => exact ⟨0, Nat.zero_le _, rfl, fun j hj => absurd hj (Nat.not_lt_zero _)⟩
  case round =>
    obtain ⟨k, hk, rfl, hall⟩ := hrel
    have HA : Hid (∀ j, j < k → fitB edge within s j = true) := hall
    clear hall
    by_cases hlt : k < s.size
    · have HN : Hid (fitB edge within s k = true → ∀ j, j < k + 1 → fitB edge within s j = true) := fun hf j hj => by
        rcases Nat.lt_succ_iff_lt_or_eq.mp hj with hj | rfl
        · exact HA.out j hj
        · exact hf
      cases hE : hasT edge (byteI s k) with
      | true =>
        go_wp2_with fail
        refine (has_any _ _ _ _ hlt).mono ?_; rintro e w' ⟨rfl, rfl⟩
        go_wp2_with fail
        go_round
        case rel => exact ⟨k + 1, by omega, by go_num, HN.out (by simp [fitB, hE])⟩
        case measure => simp [intOf]; omega
      | false =>
        by_cases hz : k = 0
        · have hf : fitB edge within s k = false := by simp [fitB, hz]; rw [← hz, hE]
          have HF : Hid (namedI edge within s = 6) := named_f hlt hf
          have hkz : (((k : Nat) : Int) == 0) = true := by simp [hz]
          clear hz hf
          go_wp2_with fail
          refine (has_any _ _ _ _ hlt).mono ?_; rintro e w' ⟨rfl, rfl⟩
          go_wp2_with fail
          go_ret
          exact ⟨ret_int HF.out.symm, rfl⟩
        · have hkz : (((k : Nat) : Int) == 0) = false := by simp [hz]
          by_cases hn : k + 1 = s.size
          · have hf : fitB edge within s k = false := by simp [fitB, hE, hn]
            have HF : Hid (namedI edge within s = 6) := named_f hlt hf
            have hkn : (((k : Nat) : Int) == (s.size : Int) - 1) = true := by simp; omega
            clear hz hn hf
            go_wp2_with fail
            refine (has_any _ _ _ _ hlt).mono ?_; rintro e w' ⟨rfl, rfl⟩
            go_wp2_with fail
            go_ret
            exact ⟨ret_int HF.out.symm, rfl⟩
          · have hkn : (((k : Nat) : Int) == (s.size : Int) - 1) = false := by simp; omega
            cases hS : hasT within (byteI s k) with
            | true =>
              have HF : Hid (fitB edge within s k = true) := by show fitB edge within s k = true; simp [fitB, hE, hS, hz, hn]
              clear hz hn
              go_wp2_with fail
              refine (has_any _ _ _ _ hlt).mono ?_; rintro e w' ⟨rfl, rfl⟩
              go_wp2_with fail
              refine (has_any _ _ _ _ hlt).mono ?_; rintro e w' ⟨rfl, rfl⟩
              go_wp2_with fail
              go_round
              case rel => exact ⟨k + 1, by omega, by go_num, HN.out HF.out⟩
              case measure => simp [intOf]; omega
            | false =>
              have hf : fitB edge within s k = false := by simp [fitB, hE, hS]
              have HF : Hid (namedI edge within s = 6) := named_f hlt hf
              clear hz hn hf
              go_wp2_with fail
              refine (has_any _ _ _ _ hlt).mono ?_; rintro e w' ⟨rfl, rfl⟩
              go_wp2_with fail
              refine (has_any _ _ _ _ hlt).mono ?_; rintro e w' ⟨rfl, rfl⟩
              go_wp2_with fail
              go_ret
              exact ⟨ret_int HF.out.symm, rfl⟩
    · have hkk : k = s.size := by omega
      have HT : Hid (namedI edge within s = 0) := named_t h0 (by rw [← hkk]; exact HA.out)
      clear hkk
      go_wp2_with fail
      go_ret
      exact ⟨ret_int HT.out.symm, rfl⟩
theorem named_low (s : ByteArray) (w : World) (hs : s.size ≤ 63) : Calls Try.prog 45 #[.string s, .string { data := #[97, 98, 99, 100, 101, 102, 103, 104, 105, 106, 107, 108, 109, 110, 111, 112, 113, 114, 115, 116, 117, 118, 119, 120, 121, 122, 48, 49, 50, 51, 52, 53, 54, 55, 56, 57] }, .string { data := #[45] }] w
    fun e w' => e = .returned (.int .i64 (checkI s)) ∧ w' = w := by
  have h := named_any s lowT { data := #[45] } w (by unfold maxLen; omega)
  have e : namedI lowT { data := #[45] } s = checkI s := by rw [named_name hs]; unfold checkI; rw [if_neg (show ¬ 63 < s.size by omega)]
  rw [e] at h
  exact h
set_option maxHeartbeats 400000 in
theorem nameR_any (s : ByteArray) (w : World) (hs : s.size ≤ maxLen) : Calls Try.prog 27 #[.string s] w fun e w' => e = .returned (.int .i64 (checkI s)) ∧ w' = w := by
  unfold maxLen at hs
  by_cases h : (63 : Int) < s.size
  · have HF : Hid (checkI s = 2) := checkI_large h
    go_enter Try.func27, Try.ntmps27
    go_wp2_with fail
    go_ret
    exact ⟨ret_int HF.out.symm, rfl⟩
  · go_enter Try.func27, Try.ntmps27
    go_wp2_with fail
    refine (named_low _ _ (by omega)).mono ?_; rintro e w' ⟨rfl, rfl⟩
    go_wp2_with fail
    go_ret
    exact ⟨rfl, rfl⟩
end Go.Proofs.Ytnjjlnhchfoigaa
