/- Several texts in one: TkRfName, TkRfUser. -/
import Derived.Test.YtmbpjbghhimedaaGreatDoorTkMem
import Derived.Test.YtmbpjbghhimedaaGreatDoorTkUser
/- Contract over this translation of the document's Name. -/
namespace Go.Proofs.YtmbpjbghhimedaaGreatDoor
set_option linter.unusedVariables false
set_option linter.unusedSimpArgs false
theorem bytes_of {a : ByteArray} {l : List UInt8} (h : l = a.data.toList) : ({ data := l.toArray } : ByteArray) = a := by
  subst h
  rfl
/-- is the byte in the text? -/
def hasB (t : ByteArray) (n : Int) : Bool := decide (0 ≤ Lib.indexByte t.data.toList n.toNat.toUInt8)
/-- may the k-th byte stand there, by the document's answer? -/
def fitB (edge within s : ByteArray) (k : Nat) : Bool := hasB edge (byteI s k) || (!(decide (k = 0) || decide (k + 1 = s.size)) && hasB within (byteI s k))
def namedB (edge within s : ByteArray) : Bool := decide (1 ≤ s.size) && (List.range s.size).all fun k => fitB edge within s k
def namedI (edge within s : ByteArray) : Int := if namedB edge within s = true then 0 else 6
theorem named_t {edge within s : ByteArray} (h0 : ¬ s.size = 0) (h : ∀ k, k < s.size → fitB edge within s k = true) : namedI edge within s = 0 := by
  unfold namedI namedB
  rw [if_pos]
  simp only [Bool.and_eq_true, decide_eq_true_eq, List.all_eq_true, List.mem_range]
  exact ⟨by omega, h⟩
theorem named_f {edge within s : ByteArray} {k : Nat} (hk : k < s.size) (h : fitB edge within s k = false) : namedI edge within s = 6 := by
  unfold namedI namedB
  rw [if_neg]
  simp only [Bool.and_eq_true, decide_eq_true_eq, List.all_eq_true, List.mem_range]
  intro g
  rw [g.2 k hk] at h
  cases h
theorem named_e {edge within s : ByteArray} (h : s.size = 0) : namedI edge within s = 6 := by
  unfold namedI namedB
  rw [if_neg]
  simp only [Bool.and_eq_true, decide_eq_true_eq]
  intro g
  omega
theorem extract_one (s : ByteArray) (k : Nat) (h : k < s.size) : s.extract k (k + 1) = { data := #[(byteI s k).toNat.toUInt8] } := by
  rw [byteI_of h, u8_back]
  have e : (s.extract k (k + 1)).data.toList = [s[k]] := by
    have h' : k < s.data.toList.length := by simpa using h
    have := Lib.extract_data s k (k + 1)
    rw [this, Nat.add_sub_cancel_left]
    rw [List.drop_eq_getElem_cons h']
    rfl
  have := bytes_of (a := s.extract k (k + 1)) (l := [s[k]]) e.symm
  exact this.symm
def lowT : ByteArray := { data := #[97, 98, 99, 100, 101, 102, 103, 104, 105, 106, 107, 108, 109, 110, 111, 112, 113, 114, 115, 116, 117, 118, 119, 120, 121, 122, 48, 49, 50, 51, 52, 53, 54, 55, 56, 57] }
def bothT : ByteArray := { data := #[97, 98, 99, 100, 101, 102, 103, 104, 105, 106, 107, 108, 109, 110, 111, 112, 113, 114, 115, 116, 117, 118, 119, 120, 121, 122, 48, 49, 50, 51, 52, 53, 54, 55, 56, 57, 65, 66, 67, 68, 69, 70, 71, 72, 73, 74, 75, 76, 77, 78, 79, 80, 81, 82, 83, 84, 85, 86, 87, 88, 89, 90] }
theorem low_all : ((List.range 256).all fun n => hasB lowT n == small n) = true := by decide +kernel
theorem both_all : ((List.range 256).all fun n => hasB bothT n == letter n) = true := by decide +kernel
theorem dash_all : ((List.range 256).all fun n => hasB { data := #[45] } n == decide (0 ≤ firstIdx { data := #[45] } (n : Int).toNat.toUInt8)) = true := by decide +kernel
theorem signs_all : ((List.range 256).all fun n => hasB { data := #[45, 95, 46] } n == decide (0 ≤ firstIdx { data := #[45, 95, 46] } (n : Int).toNat.toUInt8)) = true := by decide +kernel
theorem byteI_range (s : ByteArray) (k : Nat) : ∃ n : Nat, n < 256 ∧ byteI s k = n := by
  rw [byteI_list]
  exact ⟨_, UInt8.toNat_lt _, rfl⟩
theorem low_is (s : ByteArray) (k : Nat) : hasB lowT (byteI s k) = small (byteI s k) := by
  obtain ⟨n, hn, e⟩ := byteI_range s k
  rw [e]; exact beq_iff_eq.mp (List.all_eq_true.mp low_all n (List.mem_range.mpr hn))
theorem both_is (s : ByteArray) (k : Nat) : hasB bothT (byteI s k) = letter (byteI s k) := by
  obtain ⟨n, hn, e⟩ := byteI_range s k
  rw [e]; exact beq_iff_eq.mp (List.all_eq_true.mp both_all n (List.mem_range.mpr hn))
theorem dash_is (s : ByteArray) (k : Nat) : hasB { data := #[45] } (byteI s k) = decide (0 ≤ firstIdx { data := #[45] } (byteI s k).toNat.toUInt8) := by
  obtain ⟨n, hn, e⟩ := byteI_range s k
  rw [e]; exact beq_iff_eq.mp (List.all_eq_true.mp dash_all n (List.mem_range.mpr hn))
theorem signs_is (s : ByteArray) (k : Nat) : hasB { data := #[45, 95, 46] } (byteI s k) = decide (0 ≤ firstIdx { data := #[45, 95, 46] } (byteI s k).toNat.toUInt8) := by
  obtain ⟨n, hn, e⟩ := byteI_range s k
  rw [e]; exact beq_iff_eq.mp (List.all_eq_true.mp signs_all n (List.mem_range.mpr hn))
theorem named_word {P : Int → Bool} {sg edge within s : ByteArray} (hs : s.size ≤ 63) (hE : ∀ k, hasB edge (byteI s k) = P (byteI s k)) (hS : ∀ k, hasB within (byteI s k) = decide (0 ≤ firstIdx sg (byteI s k).toNat.toUInt8)) :
    namedI edge within s = if wordB P sg s = true then 0 else 6 := by
  by_cases h0 : s.size = 0
  · rw [named_e h0, word_f1 (by omega)]; rfl
  · by_cases hw : WordP P sg s
    · rw [wordB_iff.mpr hw, if_pos rfl]
      refine named_t h0 fun k hk => ?_
      unfold fitB
      rw [hE, hS]
      have hok := hw.2.2.2.2 k hk
      unfold okB at hok
      cases hp : P (byteI s k) with
      | true => rfl
      | false =>
        rw [hp, Bool.false_or] at hok
        have n0 : k ≠ 0 := fun e => by rw [e, hw.2.2.1] at hp; cases hp
        have n1 : k + 1 ≠ s.size := fun e => by
          have e' : k = s.size - 1 := by omega
          rw [e', hw.2.2.2.1] at hp; cases hp
        rw [hok]
        simp [n0, n1]
    · rw [wordB_false hw]
      show _ = (6 : Int)
      apply Classical.byContradiction
      intro hn
      apply hw
      have hall : ∀ k, k < s.size → fitB edge within s k = true := by
        intro k hk
        cases hf : fitB edge within s k with
        | true => rfl
        | false => exact absurd (named_f hk hf) hn
      have hpl : ∀ k, k < s.size → (k = 0 ∨ k + 1 = s.size) → P (byteI s k) = true := by
        intro k hk he
        have := hall k hk
        unfold fitB at this
        rw [hE] at this
        cases hp : P (byteI s k) with
        | true => rfl
        | false =>
          rw [hp] at this
          rcases he with he | he <;> simp [he] at this
      refine ⟨by omega, hs, hpl 0 (by omega) (.inl rfl), hpl (s.size - 1) (by omega) (.inr (by omega)), fun k hk => ?_⟩
      have := hall k hk
      unfold fitB at this
      rw [hE, hS] at this
      unfold okB
      cases hp : P (byteI s k) with
      | true => rfl
      | false =>
        rw [hp, Bool.false_or, Bool.and_eq_true] at this
        rw [this.2]; rfl
theorem named_name {s : ByteArray} (hs : s.size ≤ 63) : namedI lowT { data := #[45] } s = if nameB s = true then 0 else 6 := named_word hs (low_is s) (dash_is s)
theorem named_last {s : ByteArray} (hs : s.size ≤ 63) : namedI bothT { data := #[45, 95, 46] } s = if lastB s = true then 0 else 6 := named_word hs (both_is s) (signs_is s)
open Go.RowKit
theorem has_any (t s : ByteArray) (k : Nat) (w : World) (h : k < s.size) : Calls Tryz.prog 84 #[.string t, .string (s.extract k (k + 1))] w fun e w' => e = .returned (.bool (hasB t (byteI s k))) ∧ w' = w := by
  rw [extract_one s k h]
  exact Tryz.strings_Contains_one t (byteI s k).toNat.toUInt8 w
set_option maxHeartbeats 2000000 in
theorem named_any (s edge within : ByteArray) (w : World) (hs : s.size ≤ maxLen) : Calls Tryz.prog 54 #[.string s, .string edge, .string within] w fun e w' => e = .returned (.int .i64 (namedI edge within s)) ∧ w' = w := by
  unfold maxLen at hs
  by_cases h0 : s.size = 0
  · rw [named_e h0, toList_empty_eq h0]
    go_enter Tryz.func54, Tryz.ntmps54
    go_wp2_with fail
    go_ret
    exact ⟨rfl, rfl⟩
  have he := size_cons_ne h0
  go_enter Tryz.func54, Tryz.ntmps54
  go_wp2_with fail
  go_loop [13] (fun i => ∃ k : Nat, k ≤ s.size ∧ i = .int .i64 k ∧ ∀ j, j < k → fitB edge within s j = true) (fun i => s.size - (intOf i).toNat)
  case atStart => exact ⟨0, Nat.zero_le _, rfl, fun j hj => absurd hj (Nat.not_lt_zero _)⟩
  case round =>
    obtain ⟨k, hk, rfl, hall⟩ := hrel
    have HA : Hid (∀ j, j < k → fitB edge within s j = true) := hall
    clear hall
    by_cases hlt : k < s.size
    · have HN : Hid (fitB edge within s k = true → ∀ j, j < k + 1 → fitB edge within s j = true) := fun hf j hj => by
        rcases Nat.lt_succ_iff_lt_or_eq.mp hj with hj | rfl
        · exact HA.out j hj
        · exact hf
      cases hE : hasB edge (byteI s k) with
      | true =>
        go_wp2_with fail
        refine (has_any _ _ _ _ hlt).mono ?_; rintro e w' ⟨rfl, rfl⟩
        go_wp2_with fail
        go_round
        case rel => exact ⟨k + 1, by omega, by go_num, HN.out (by simp [fitB, hE])⟩
        case measure => simp [intOf]; omega
      | false =>
        by_cases hz : k = 0
        · have hf : fitB edge within s k = false := by simp [fitB, hz]; rw [← hz, hE]
          have HF : Hid (namedI edge within s = 6) := named_f hlt hf
          have hkz : (((k : Nat) : Int) == 0) = true := by simp [hz]
          clear hz hf
          go_wp2_with fail
          refine (has_any _ _ _ _ hlt).mono ?_; rintro e w' ⟨rfl, rfl⟩
          go_wp2_with fail
          go_ret
          exact ⟨ret_int HF.out.symm, rfl⟩
        · have hkz : (((k : Nat) : Int) == 0) = false := by simp [hz]
          by_cases hn : k + 1 = s.size
          · have hf : fitB edge within s k = false := by simp [fitB, hE, hn]
            have HF : Hid (namedI edge within s = 6) := named_f hlt hf
            have hkn : (((k : Nat) : Int) == (s.size : Int) - 1) = true := by simp; omega
            clear hz hn hf
            go_wp2_with fail
            refine (has_any _ _ _ _ hlt).mono ?_; rintro e w' ⟨rfl, rfl⟩
            go_wp2_with fail
            go_ret
            exact ⟨ret_int HF.out.symm, rfl⟩
          · have hkn : (((k : Nat) : Int) == (s.size : Int) - 1) = false := by simp; omega
            cases hS : hasB within (byteI s k) with
            | true =>
              have HF : Hid (fitB edge within s k = true) := by show fitB edge within s k = true; simp [fitB, hE, hS, hz, hn]
              clear hz hn
              go_wp2_with fail
              refine (has_any _ _ _ _ hlt).mono ?_; rintro e w' ⟨rfl, rfl⟩
              go_wp2_with fail
              refine (has_any _ _ _ _ hlt).mono ?_; rintro e w' ⟨rfl, rfl⟩
              go_wp2_with fail
              go_round
              case rel => exact ⟨k + 1, by omega, by go_num, HN.out HF.out⟩
              case measure => simp [intOf]; omega
            | false =>
              have hf : fitB edge within s k = false := by simp [fitB, hE, hS]
              have HF : Hid (namedI edge within s = 6) := named_f hlt hf
              clear hz hn hf
              go_wp2_with fail
              refine (has_any _ _ _ _ hlt).mono ?_; rintro e w' ⟨rfl, rfl⟩
              go_wp2_with fail
              refine (has_any _ _ _ _ hlt).mono ?_; rintro e w' ⟨rfl, rfl⟩
              go_wp2_with fail
              go_ret
              exact ⟨ret_int HF.out.symm, rfl⟩
    · have hkk : k = s.size := by omega
      have HT : Hid (namedI edge within s = 0) := named_t h0 (by rw [← hkk]; exact HA.out)
      clear hkk
      go_wp2_with fail
      go_ret
      exact ⟨ret_int HT.out.symm, rfl⟩
theorem named_low (s : ByteArray) (w : World) (hs : s.size ≤ 63) : Calls Tryz.prog 54 #[.string s, .string { data := #[97, 98, 99, 100, 101, 102, 103, 104, 105, 106, 107, 108, 109, 110, 111, 112, 113, 114, 115, 116, 117, 118, 119, 120, 121, 122, 48, 49, 50, 51, 52, 53, 54, 55, 56, 57] }, .string { data := #[45] }] w
    fun e w' => e = .returned (.int .i64 (checkI s)) ∧ w' = w := by
  have h := named_any s lowT { data := #[45] } w (by unfold maxLen; omega)
  have e : namedI lowT { data := #[45] } s = checkI s := by rw [named_name hs]; unfold checkI; rw [if_neg (show ¬ 63 < s.size by omega)]
  rw [e] at h
  exact h
set_option maxHeartbeats 400000 in
theorem nameR_any (s : ByteArray) (w : World) (hs : s.size ≤ maxLen) : Calls Tryz.prog 31 #[.string s] w fun e w' => e = .returned (.int .i64 (checkI s)) ∧ w' = w := by
  unfold maxLen at hs
  by_cases h : (63 : Int) < s.size
  · have HF : Hid (checkI s = 2) := checkI_large h
    go_enter Tryz.func31, Tryz.ntmps31
    go_wp2_with fail
    go_ret
    exact ⟨ret_int HF.out.symm, rfl⟩
  · go_enter Tryz.func31, Tryz.ntmps31
    go_wp2_with fail
    refine (named_low _ _ (by omega)).mono ?_; rintro e w' ⟨rfl, rfl⟩
    go_wp2_with fail
    go_ret
    exact ⟨rfl, rfl⟩
end Go.Proofs.YtmbpjbghhimedaaGreatDoor
/- Contracts over this translation of the document's TokenUser, Has, outside. -/
namespace Go.Proofs.YtmbpjbghhimedaaGreatDoor
open Go.RowKit
set_option linter.unusedVariables false
set_option linter.unusedSimpArgs false
set_option maxHeartbeats 1000000 in
theorem rfhas_any (v : Value) (l : List Bs) (s : Bs) (w : World) (hv : Strs w v l) :
    Calls Tryz.prog 32 #[v, .string (Ba s)] w fun e w' => e = .returned (.bool (decide (s ∈ l))) ∧ w' = w := by
  obtain ⟨p, c, rfl, hn, hcell⟩ := hv.open
  have HC : Hid (∀ k (hk : k < l.length), ∃ g o, p = some ⟨g, o, none⟩ ∧ l.length ≤ c ∧ w.cell? ⟨g, o + k, none⟩ = some (.string (Ba l[k]))) := fun k hk => by
    obtain ⟨g, o, h1, h2, h3⟩ := hcell k hk
    exact ⟨g, o, h1, h2, h3 w (Below.refl _ _)⟩
  have HT : Hid (∀ k (hk : k < l.length), s = l[k] → decide (s ∈ l) = true) := fun k hk h => by
    have : s ∈ l := by rw [h]; exact List.getElem_mem hk
    simp [this]
  have HF : Hid ((∀ k (hk : k < l.length), s ≠ l[k]) → decide (s ∈ l) = false) := fun h => by
    have : s ∉ l := fun hm => by
      obtain ⟨k, hk, he⟩ := List.getElem_of_mem hm
      exact h k hk he.symm
    simp [this]
  clear hcell hv
  generalize hr : decide (s ∈ l) = r at *
  clear hr
  unfold maxLen at hn
  go_enter Tryz.func32, Tryz.ntmps32
  go_wp2_with fail
  go_loop [9] (fun i => ∃ k : Nat, k ≤ l.length ∧ i = .int .i64 k ∧ ∀ j (hj : j < l.length), j < k → s ≠ l[j]) (fun i => l.length - (intOf i).toNat)
  case atStart => exact ⟨0, Nat.zero_le _, rfl, fun j _ h => absurd h (Nat.not_lt_zero _)⟩
  case round =>
    obtain ⟨k, hk, rfl, hall⟩ := hrel
    have HA : Hid (∀ j (hj : j < l.length), j < k → s ≠ l[j]) := hall
    clear hall
    by_cases hlt : k < l.length
    · obtain ⟨g, o, rfl, hlc, hc⟩ := HC.out k hlt
      have hb := ba_beq s l[k]
      by_cases hx : s = l[k]
      · have HX : Hid (r = true) := HT.out k hlt hx
        rw [decide_eq_true hx] at hb
        clear hx HA HF HT
        generalize Ba l[k] = y at *
        generalize Ba s = z at *
        go_wp2_with fail
        go_ret
        exact ⟨by rw [HX.out]; rfl, rfl⟩
      · have HX : Hid (s ≠ l[k]) := hx
        rw [decide_eq_false hx] at hb
        clear hx HF HT
        generalize Ba l[k] = y at *
        generalize Ba s = z at *
        go_wp2_with fail
        go_round
        case rel => exact ⟨k + 1, by omega, by go_num, (fun j hj h => by
          rcases Nat.lt_succ_iff_lt_or_eq.1 h with h | h
          · exact HA.out j hj h
          · subst h; exact HX.out)⟩
        case measure => simp [intOf]; omega
    · have HX : Hid (r = false) := HF.out (fun j hj => HA.out j hj (by omega))
      go_wp2_with fail
      go_ret
      exact ⟨by rw [HX.out]; rfl, rfl⟩
theorem outside_any (t : Int) (w : World) : Calls Tryz.prog 18 #[.int .i64 t, .int .i64 0, .int .i64 1099511627776] w fun e w' => e = .returned (.bool (!timeB t)) ∧ w' = w := by
  have HE : Hid (timeB t = (decide (0 ≤ t) && decide (t ≤ 1099511627776))) := rfl
  generalize timeB t = res at *
  by_cases h0 : 0 ≤ t
  · have h0' : ¬ t < 0 := by omega
    by_cases h1 : t ≤ 1099511627776
    · have HX : Hid (res = true) := by show _ = _; rw [HE.out]; simp [h0, h1]
      have h1' : ¬ 1099511627776 < t := by omega
      clear HE
      go_enter Tryz.func18, Tryz.ntmps18
      go_wp2_with fail
      go_ret
      exact ⟨by rw [HX.out]; rfl, rfl⟩
    · have HX : Hid (res = false) := by show _ = _; rw [HE.out]; simp [h0, h1]
      have h1' : 1099511627776 < t := by omega
      clear HE
      go_enter Tryz.func18, Tryz.ntmps18
      go_wp2_with fail
      go_ret
      exact ⟨by rw [HX.out]; rfl, rfl⟩
  · have HX : Hid (res = false) := by show _ = _; rw [HE.out]; simp [h0]
    have h0' : t < 0 := by omega
    clear HE
    go_enter Tryz.func18, Tryz.ntmps18
    go_wp2_with fail
    go_ret
    exact ⟨by rw [HX.out]; rfl, rfl⟩
theorem nm_bad {s : Bs} (h : checkI (Ba s) ≠ 0) : nmI s = checkI (Ba s) := by rw [nmI, if_pos h]
theorem nm_long {s : Bs} (h : checkI (Ba s) = 0) (g : 20 < s.length) : nmI s = 2 := by rw [nmI, if_neg (by simp [h]), if_pos g]
theorem nm_good {s : Bs} (h : checkI (Ba s) = 0) (g : ¬ 20 < s.length) : nmI s = 0 := by rw [nmI, if_neg (by simp [h]), if_neg g]
set_option maxRecDepth 100000 in
set_option maxHeartbeats 4000000 in
theorem rfuser_any (n : Bs) (v : Value) (gs : List Bs) (w : World) (hn : n.length ≤ maxLen) (hv : Strs w v gs) (hg : ∀ g ∈ gs, g.length ≤ maxLen) :
    Calls Tryz.prog 12 #[.agg #[.string (Ba n), v]] w fun e w' => e = .returned (.int .i64 (userI n gs)) ∧ Below w.heap.size w w' := by
  have HN : Hid (∀ w, Calls Tryz.prog 31 #[.string (Ba n)] w fun e w' => e = .returned (.int .i64 (checkI (Ba n))) ∧ w' = w) := fun w => nameR_any (Ba n) w (by rw [ba_size]; exact hn)
  obtain ⟨p, c, rfl, hln, hcell⟩ := hv.open
  have HC : Hid (∀ k (hk : k < gs.length), ∃ g o, p = some ⟨g, o, none⟩ ∧ gs.length ≤ c ∧ ∀ w1, Below w.heap.size w w1 → w1.cell? ⟨g, o + k, none⟩ = some (.string (Ba gs[k]))) := hcell
  have HT : Hid (∀ k (hk : k < gs.length) w1, Below w.heap.size w w1 → Calls Tryz.prog 32 #[.slice p k c, .string (Ba gs[k])] w1 fun e w' => e = .returned (.bool (decide (gs[k] ∈ gs.take k))) ∧ w' = w1) := fun k hk w1 hb =>
    rfhas_any _ _ _ w1 ((hv.below hb).take (by omega))
  have HG : Hid (∀ k (hk : k < gs.length) w, Calls Tryz.prog 31 #[.string (Ba gs[k])] w fun e w' => e = .returned (.int .i64 (checkI (Ba gs[k]))) ∧ w' = w) := fun k hk w => nameR_any _ w (by rw [ba_size]; exact hg _ (List.getElem_mem hk))
  have HGl : Hid (∀ k (hk : k < gs.length), gs[k].length ≤ maxLen) := fun k hk => hg _ (List.getElem_mem hk)
  have HE : Hid (userI n gs = if nmI n ≠ 0 then nmI n else if 6 < gs.length then 2 else grpI (gs.take 0) (gs.drop 0)) := rfl
  have hB : Below w.heap.size w (w.alloc (.cells #[.string (Ba n), .slice p gs.length c] 24)) := (Below.refl _ _).alloc (Nat.le_refl _) _
  have HB : Hid (Below w.heap.size w (w.alloc (.cells #[.string (Ba n), .slice p gs.length c] 24))) := hB
  have hsz : (Ba n).size = n.length := ba_size n
  clear hB hcell hv hg
  generalize userI n gs = res at *
  unfold maxLen at hn hln
  by_cases h1 : checkI (Ba n) = 0
  · have hn1 : (checkI (Ba n) != 0) = false := by simp [h1]
    by_cases h20 : 20 < n.length
    · have HX : Hid (res = 2) := by
        have e := nm_long h1 h20
        show _ = _
        rw [HE.out, if_pos (by rw [e]; decide), e]
      have hI : (20 : Int) < (n.length : Int) := by omega
      clear HE
      generalize checkI (Ba n) = c1 at *
      generalize Ba n = yn at *
      go_enter Tryz.func12, Tryz.ntmps12
      go_wp2_with fail
      refine Calls.mono (HN.out _) ?_
      rintro e w1 ⟨rfl, rfl⟩
      go_wp2_with fail
      go_ret
      exact ⟨by rw [HX.out]; rfl, HB.out⟩
    · have e := nm_good h1 h20
      have h20I : ¬ (20 : Int) < (n.length : Int) := by omega
      by_cases h6 : 6 < gs.length
      · have HX : Hid (res = 2) := by show _ = _; rw [HE.out, if_neg (by simp [e]), if_pos h6]
        have hI : (6 : Int) < (gs.length : Int) := by omega
        clear HE e
        generalize checkI (Ba n) = c1 at *
        generalize Ba n = yn at *
        go_enter Tryz.func12, Tryz.ntmps12
        go_wp2_with fail
        refine Calls.mono (HN.out _) ?_
        rintro e w1 ⟨rfl, rfl⟩
        go_wp2_with fail
        go_ret
        exact ⟨by rw [HX.out]; rfl, HB.out⟩
      · have HX : Hid (res = grpI (gs.take 0) (gs.drop 0)) := by show _ = _; rw [HE.out, if_neg (by simp [e]), if_neg h6]
        have hI : ¬ (6 : Int) < (gs.length : Int) := by omega
        clear HE e
        generalize checkI (Ba n) = c1 at *
        generalize Ba n = yn at *
        go_enter Tryz.func12, Tryz.ntmps12
        go_wp2_with fail
        refine Calls.mono (HN.out _) ?_
        rintro e w1 ⟨rfl, rfl⟩
        go_wp2_with fail
        go_loopw [26] (fun i wr => ∃ k : Nat, k ≤ gs.length ∧ i = .int .i64 k ∧ res = grpI (gs.take k) (gs.drop k) ∧ wr = w.alloc (.cells #[.string yn, .slice p gs.length c] 24)) (fun i _ => gs.length - (intOf i).toNat)
        case atStart => exact ⟨0, Nat.zero_le _, rfl, HX.out, rfl⟩
        case round =>
          obtain ⟨k, hk, rfl, hres, rfl⟩ := hrel
          have HR : Hid (res = grpI (gs.take k) (gs.drop k)) := hres
          clear hres
          by_cases hlt : k < gs.length
          · obtain ⟨g, o, rfl, hlc, hc⟩ := HC.out k hlt
            have hc1 := hc _ HB.out
            have HCt := HT.out k hlt _ HB.out
            have HCt' : Hid (_) := HCt
            have HGk : Hid (∀ w, Calls Tryz.prog 31 #[.string (Ba gs[k])] w fun e w' => e = .returned (.int .i64 (checkI (Ba gs[k]))) ∧ w' = w) := HG.out k hlt
            have hgl := HGl.out k hlt
            have hgs : (Ba gs[k]).size = gs[k].length := ba_size _
            have HN1 : Hid (nmI gs[k] ≠ 0 → res = nmI gs[k]) := fun h => by show _ = _; rw [HR.out, grp_name hlt h]
            have HN2 : Hid (nmI gs[k] = 0 → gs[k] ∈ gs.take k → res = 5) := fun h g => by show _ = _; rw [HR.out, grp_twice hlt h g]
            have HN3 : Hid (nmI gs[k] = 0 → gs[k] ∉ gs.take k → res = grpI (gs.take (k + 1)) (gs.drop (k + 1))) := fun h g => by show _ = _; rw [HR.out, grp_step hlt h g]
            unfold maxLen at hgl
            clear hc HCt
            by_cases hz : checkI (Ba gs[k]) = 0
            · have hz1 : (checkI (Ba gs[k]) != 0) = false := by simp [hz]
              by_cases hl20 : 20 < gs[k].length
              · have ez := nm_long hz hl20
                have HX2 : Hid (res = 2) := by have := HN1.out (by rw [ez]; decide); rw [ez] at this; exact this
                have hlI : (20 : Int) < (gs[k].length : Int) := by omega
                clear HN1 HN2 HN3 HCt' ez
                generalize checkI (Ba gs[k]) = d1 at *
                generalize Ba gs[k] = y at *
                go_wp2_with fail
                refine Calls.mono (HGk.out _) ?_
                rintro e w1 ⟨rfl, rfl⟩
                go_wp2_with fail
                go_ret
                exact ⟨by rw [HX2.out]; rfl, HB.out⟩
              · have ez := nm_good hz hl20
                have hlI : ¬ (20 : Int) < (gs[k].length : Int) := by omega
                by_cases hm : gs[k] ∈ gs.take k
                · have HX2 : Hid (res = 5) := HN2.out ez hm
                  have hd : decide (gs[k] ∈ gs.take k) = true := decide_eq_true hm
                  rw [hd] at HCt'
                  clear hm hd HN1 HN2 HN3 ez
                  generalize checkI (Ba gs[k]) = d1 at *
                  generalize Ba gs[k] = y at *
                  go_wp2_with fail
                  refine Calls.mono (HGk.out _) ?_
                  rintro e w1 ⟨rfl, rfl⟩
                  go_wp2_with fail
                  refine Calls.mono HCt'.out ?_
                  rintro e w1 ⟨rfl, rfl⟩
                  go_wp2_with fail
                  go_ret
                  exact ⟨by rw [HX2.out]; rfl, HB.out⟩
                · have HX2 : Hid (res = grpI (gs.take (k + 1)) (gs.drop (k + 1))) := HN3.out ez hm
                  have hd : decide (gs[k] ∈ gs.take k) = false := decide_eq_false hm
                  rw [hd] at HCt'
                  clear hm hd HN1 HN2 HN3 ez
                  generalize checkI (Ba gs[k]) = d1 at *
                  generalize Ba gs[k] = y at *
                  go_wp2_with fail
                  refine Calls.mono (HGk.out _) ?_
                  rintro e w1 ⟨rfl, rfl⟩
                  go_wp2_with fail
                  refine Calls.mono HCt'.out ?_
                  rintro e w1 ⟨rfl, rfl⟩
                  go_wp2_with fail
                  go_roundw
                  case rel => exact ⟨k + 1, by omega, by go_num, HX2.out, by trivial⟩
                  case measure => simp [intOf]; omega
            · have hz1 : (checkI (Ba gs[k]) != 0) = true := by simp [hz]
              have HX2 : Hid (res = checkI (Ba gs[k])) := by have := HN1.out (by rw [nm_bad hz]; exact hz); rw [nm_bad hz] at this; exact this
              clear HN1 HN2 HN3 HCt'
              generalize checkI (Ba gs[k]) = d1 at *
              generalize Ba gs[k] = y at *
              go_wp2_with fail
              refine Calls.mono (HGk.out _) ?_
              rintro e w1 ⟨rfl, rfl⟩
              go_wp2_with fail
              go_ret
              exact ⟨by rw [HX2.out]; rfl, HB.out⟩
          · have HX2 : Hid (res = 0) := by show _ = _; rw [HR.out, grp_end (by omega)]
            have hkn : ¬ ((k : Int) < (gs.length : Int)) := by omega
            go_wp2_with fail
            go_ret
            exact ⟨by rw [HX2.out]; rfl, HB.out⟩
  · have hn1 : (checkI (Ba n) != 0) = true := by simp [h1]
    have HX : Hid (res = checkI (Ba n)) := by show _ = _; rw [HE.out, if_pos (by rw [nm_bad h1]; exact h1), nm_bad h1]
    clear HE
    generalize checkI (Ba n) = c1 at *
    go_enter Tryz.func12, Tryz.ntmps12
    go_wp2_with fail
    refine Calls.mono (HN.out _) ?_
    rintro e w1 ⟨rfl, rfl⟩
    go_wp2_with fail
    go_ret
    exact ⟨by rw [HX.out]; rfl, HB.out⟩
end Go.Proofs.YtmbpjbghhimedaaGreatDoor
