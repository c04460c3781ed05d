/- Several texts in one: TkRfTime, TkRfDig. -/
import Derived.Test.YtmbpjbghhimedaaGreatDoorTkRu
import Derived.Test.YtmbpjbghhimedaaGreatDoorTkOb
import Derived.Test.YtmbpjbghhimedaaGreatDoorSlRfBits
import Derived.Test.YtmbpjbghhimedaaGreatDoorTkNum
import Derived.IntWalk
/- Contract over this translation of the document's time. -/
namespace Go.Proofs.YtmbpjbghhimedaaGreatDoor
open Go.RowKit
set_option linter.unusedVariables false
set_option linter.unusedSimpArgs false
/-- a time as the document reads it -/
def timeI (s : Bs) : Int := match timeP s with
  | some u => (u : Int)
  | none => -1
theorem timeI_none {s : Bs} (h : timeP s = none) : timeI s = -1 := by rw [timeI, h]
theorem timeI_some {s : Bs} {u : Nat} (h : timeP s = some u) : timeI s = (u : Int) := by rw [timeI, h]
theorem time_no {s : Bs} (h : ∀ u, u ≤ 1099511627776 → s ≠ Lib.decDigits u) : timeP s = none := by
  cases ht : timeP s with
  | none => rfl
  | some u =>
    obtain ⟨h1, h2⟩ := time_some ht
    exact absurd h2 (h u h1)
theorem nDig_key (k v : Nat) (hv : k + 1 ≤ Lib.nDigits v) : k = 0 ∨ 10 ^ k ≤ v := by
  revert v
  induction k with
  | zero => intro v _; exact Or.inl rfl
  | succ k ih =>
    intro v hv
    right
    by_cases hs : v < 10
    · rw [Lib.nDigits_small hs] at hv; omega
    · rw [Lib.nDigits_big hs] at hv
      rcases ih (v / 10) (by omega) with h0 | h0
      · subst h0; omega
      · have : 10 ^ (k + 1) = 10 ^ k * 10 := Nat.pow_succ 10 k
        omega
theorem dec_nought {u : Nat} {r : Bs} (h : Lib.decDigits u = 48 :: r) : r = [] := by
  have hd := dec_digs u
  have hv := dec_val u
  have hl := Lib.decDigits_length u
  rw [h] at hd hv hl
  have hr : decP 0 r = u := by
    have : decP 0 (48 :: r) = decP (10 * 0 + ((48 : UInt8).toNat - 48)) r := rfl
    rw [this] at hv
    exact hv
  have hlt := decP_lt r 0 (fun c hc => hd c (by simp [hc]))
  rw [hr] at hlt
  rcases nDig_key r.length u (by rw [← hl]; simp) with h0 | h0
  · exact List.length_eq_zero_iff.1 h0
  · exfalso
    generalize 10 ^ r.length = P at *
    omega
theorem tm_empty : timeP [] = none := time_no (fun u _ e => dec_ne u e.symm)
theorem tm_long {s : Bs} (h : 13 < s.length) : timeP s = none := time_no (fun u hu e => by
  have := dec_len u hu
  rw [← e] at this
  omega)
theorem tm_nought {s : Bs} (h0 : 0 < s.length) (h : s[0] = 48) (h2 : s ≠ [48]) : timeP s = none := time_no (fun u hu e => by
  cases s with
  | nil => simp at h0
  | cons a r =>
    simp only [List.getElem_cons_zero] at h
    subst h
    have := dec_nought e.symm
    subst this
    exact h2 rfl)
theorem tm_sign {s : Bs} {c : UInt8} (hc : c ∈ s) (h : ¬ isDig c) : timeP s = none := time_no (fun u hu e => h (dec_digs u c (by rw [← e]; exact hc)))
theorem tm_all {s : Bs} (hn : s ≠ []) (hd : ∀ c ∈ s, isDig c) (h0 : s.head? = some 48 → s = [48]) : timeP s = if decP 0 s ≤ 1099511627776 then some (decP 0 s) else none := by
  have he := dec_lead s.length s (Nat.le_refl _) hn hd h0
  split
  · rename_i h
    have := time_dec _ h
    rw [he] at this
    exact this
  · rename_i h
    exact time_no (fun u hu e => by
      have hv := dec_val u
      rw [← e] at hv
      omega)
theorem head_at {s : Bs} (h : 0 < s.length) : s.head? = some s[0] := by
  cases s with
  | nil => simp at h
  | cons a r => rfl
set_option maxRecDepth 100000 in
set_option maxHeartbeats 4000000 in
theorem rftime_any (s : Bs) (w : World) (hs : s.length ≤ maxLen) : Calls Tryz.prog 27 #[.string (Ba s)] w fun e w' => e = .returned (.int .i64 (timeI s)) ∧ w' = w := by
  have hsz : (Ba s).size = s.length := ba_size s
  unfold maxLen at hs
  have hbq : ((Ba s).toList == []) = decide (s = []) := by
    rw [ba_list, Bool.eq_iff_iff, beq_iff_eq, decide_eq_true_iff]
  have hbz : ((Ba s).toList == [48]) = decide (s = [48]) := by
    rw [ba_list, Bool.eq_iff_iff, beq_iff_eq, decide_eq_true_iff]
  have HTI : Hid (∀ h : timeP s = none, timeI s = -1) := timeI_none
  have HTS : Hid (∀ u, timeP s = some u → timeI s = (u : Int)) := fun u h => timeI_some h
  generalize timeI s = res at *
  by_cases hn : s = []
  · have HX : Hid (res = -1) := HTI.out (by rw [hn]; exact tm_empty)
    rw [decide_eq_true hn] at hbq
    clear hn hbz HTI HTS
    generalize Ba s = y at *
    go_enter Tryz.func27, Tryz.ntmps27
    go_wp2_with fail
    go_ret
    exact ⟨by rw [HX.out]; rfl, rfl⟩
  · rw [decide_eq_false hn] at hbq
    have h0 : 0 < s.length := by
      cases s with
      | nil => exact absurd rfl hn
      | cons a r => simp
    by_cases h13 : 13 < s.length
    · have HX : Hid (res = -1) := HTI.out (tm_long h13)
      have hI : (13 : Int) < (s.length : Int) := by omega
      clear hn hbz HTI HTS
      generalize Ba s = y at *
      go_enter Tryz.func27, Tryz.ntmps27
      go_wp2_with fail
      go_ret
      exact ⟨by rw [HX.out]; rfl, rfl⟩
    · have hI : ¬ (13 : Int) < (s.length : Int) := by omega
      obtain ⟨y, hyB, hyk⟩ : ∃ y : ByteArray, y = Ba s ∧ ∀ k (hk : k < s.length), ∃ h : k < y.size, y[k]'h = s[k] := ⟨Ba s, rfl, fun k hk => ⟨by rw [ba_size]; exact hk, ba_get s k hk⟩⟩
      have hgk : Hid (∀ k (hk : k < s.length), ∃ h : k < y.size, y[k]'h = s[k]) := hyk
      rw [← hyB] at hbq hbz hsz ⊢
      clear hyB hyk
      obtain ⟨hy0, hg0⟩ := hgk.out 0 h0
      have HSg : Hid (∀ k (hk : k < s.length), ¬ isDig s[k] → timeP s = none) := fun k hk h => tm_sign (List.getElem_mem hk) h
      have HSn : Hid (∀ k (h : k < s.length), decP 0 (s.take (k + 1)) = 10 * decP 0 (s.take k) + (s[k].toNat - 48)) := fun k h => decP_snoc s k h
      have HLw : Hid (∀ k, (∀ c ∈ s.take k, isDig c) → decP 0 (s.take k) < 10000000000000) := fun k h => decP_small h (by rw [List.length_take]; omega)
      have HD0 : Hid (decP 0 (s.take 0) = 0) := rfl
      by_cases h48 : s[0] = 48
      · have hc48 : ((s[0].toNat : Int) == 48) = true := by rw [h48]; rfl
        by_cases hz : s = [48]
        · rw [decide_eq_true hz] at hbz
          have HAl : Hid ((∀ c ∈ s, isDig c) → timeP s = if decP 0 s ≤ 1099511627776 then some (decP 0 s) else none) := fun hd => tm_all hn hd (fun _ => hz)
          clear hn hz h48
          generalize hx0 : s[0] = x0 at *
          clear hx0
          go_enter Tryz.func27, Tryz.ntmps27
          go_wp2_with fail
          go_loopw [3, 23] (fun nv iv wr => ∃ k : Nat, k ≤ s.length ∧ iv = .int .i64 k ∧ nv = .int .i64 (decP 0 (s.take k) : Nat) ∧ (∀ c ∈ s.take k, isDig c) ∧ wr = w) (fun _ iv _ => s.length - (intOf iv).toNat)
          case atStart => exact ⟨0, Nat.zero_le _, rfl, rfl, fun c hc => by simp at hc, rfl⟩
          case round =>
            obtain ⟨k, hk, rfl, rfl, hall, rfl⟩ := hrel
            have HA : Hid (∀ c ∈ s.take k, isDig c) := hall
            have hlow := HLw.out k hall
            clear hall
            by_cases hlt : k < s.length
            · have hkI : (k : Int) < (s.length : Int) := by omega
              obtain ⟨hyk, hgt⟩ := hgk.out k hlt
              have hsn := HSn.out k hlt
              have HSk : Hid (decP 0 (s.take (k + 1)) = 10 * decP 0 (s.take k) + (s[k].toNat - 48)) := hsn
              have HN : Hid (¬ isDig s[k] → res = -1) := fun h => HTI.out (HSg.out k hlt h)
              have HAn : Hid (isDig s[k] → ∀ c ∈ s.take (k + 1), isDig c) := fun h c hc => by
                rw [List.take_succ_eq_append_getElem hlt] at hc
                rcases List.mem_append.1 hc with hc | hc
                · exact HA.out c hc
                · rw [List.mem_singleton.1 hc]
                  exact h
              have hch := s[k].toNat_lt
              clear hsn
              generalize hde : decP 0 (s.take (k + 1)) = d2 at *
              generalize decP 0 (s.take k) = d1 at *
              generalize s[k] = ch at *
              unfold isDig at HN HAn
              by_cases hlo : ch.toNat < 48
              · have hloI : (ch.toNat : Int) < 48 := by omega
                have HX : Hid (res = -1) := HN.out (by omega)
                clear HN HAn HSk HAl HTI HTS hgk HSg HSn HLw
                go_wp2_with fail
                go_ret
                exact ⟨by rw [HX.out]; rfl, rfl⟩
              · have hloI : ¬ (ch.toNat : Int) < 48 := by omega
                by_cases hhi : 57 < ch.toNat
                · have hhiI : (57 : Int) < (ch.toNat : Int) := by omega
                  have HX : Hid (res = -1) := HN.out (by omega)
                  clear HN HAn HSk HAl HTI HTS hgk HSg HSn HLw
                  go_wp2_with fail
                  go_ret
                  exact ⟨by rw [HX.out]; rfl, rfl⟩
                · have hhiI : ¬ (57 : Int) < (ch.toNat : Int) := by omega
                  have HA2 : Hid (∀ c ∈ s.take (k + 1), isDig c) := HAn.out (by omega)
                  have hw8 : IntKind.u8.wrap ((ch.toNat : Int) - 48) = ((ch.toNat - 48 : Nat) : Int) := by rw [IntKind.wrap_u8']; omega
                  have hw8' : ((ch.toNat : Int) - 48) % 256 = ((ch.toNat - 48 : Nat) : Int) := by omega
                  have hsum : 10 * (d1 : Int) + ((ch.toNat - 48 : Nat) : Int) = (d2 : Int) := by rw [HSk.out]; omega
                  have hd2 : d2 < 1000000000000000 := by rw [HSk.out]; omega
                  have he9 : ch.toNat - 48 ≤ 9 := by omega
                  clear HN HAn HSk
                  generalize ch.toNat - 48 = e1 at *
                  go_wp2_with fail
                  go_roundw
                  case rel => exact ⟨k + 1, by omega, by go_num, by rw [hde], HA2.out, by trivial⟩
                  case measure => simp [intOf]; omega
            · have hke : s.take k = s := List.take_of_length_le (by omega)
              have hkI : ¬ ((k : Int) < (s.length : Int)) := by omega
              have hA := HA.out
              rw [hke] at hA hlow ⊢
              have hT := HAl.out hA
              clear hA HA HAl hke
              generalize decP 0 s = dd at *
              by_cases hmax : dd ≤ 1099511627776
              · rw [if_pos hmax] at hT
                have HX : Hid (res = (dd : Int)) := HTS.out dd hT
                have hmI : ¬ (1099511627776 : Int) < (dd : Int) := by omega
                clear hT
                go_wp2_with fail
                go_ret
                exact ⟨by rw [HX.out]; rfl, rfl⟩
              · rw [if_neg hmax] at hT
                have HX : Hid (res = -1) := HTI.out hT
                have hmI : (1099511627776 : Int) < (dd : Int) := by omega
                clear hT
                go_wp2_with fail
                go_ret
                exact ⟨by rw [HX.out]; rfl, rfl⟩
        · have HX : Hid (res = -1) := HTI.out (tm_nought h0 h48 hz)
          rw [decide_eq_false hz] at hbz
          clear hn hz h48 HTI HTS hgk HSg HSn HLw
          generalize hx0 : s[0] = x0 at *
          clear hx0
          go_enter Tryz.func27, Tryz.ntmps27
          go_wp2_with fail
          go_ret
          exact ⟨by rw [HX.out]; rfl, rfl⟩
      · have hc48 : ((s[0].toNat : Int) == 48) = false := by
          rw [beq_eq_false_iff_ne]
          intro e
          exact h48 (UInt8.toNat_inj.1 (by have : (48 : UInt8).toNat = 48 := rfl; omega))
        have HAl : Hid ((∀ c ∈ s, isDig c) → timeP s = if decP 0 s ≤ 1099511627776 then some (decP 0 s) else none) := fun hd => tm_all hn hd (fun h => by
          rw [head_at h0] at h
          injection h with h
          exact absurd h h48)
        clear hn h48 hbz
        generalize hx0 : s[0] = x0 at *
        clear hx0
        go_enter Tryz.func27, Tryz.ntmps27
        go_wp2_with fail
        go_loopw [3, 23] (fun nv iv wr => ∃ k : Nat, k ≤ s.length ∧ iv = .int .i64 k ∧ nv = .int .i64 (decP 0 (s.take k) : Nat) ∧ (∀ c ∈ s.take k, isDig c) ∧ wr = w) (fun _ iv _ => s.length - (intOf iv).toNat)
        case atStart => exact ⟨0, Nat.zero_le _, rfl, rfl, fun c hc => by simp at hc, rfl⟩
        case round =>
          obtain ⟨k, hk, rfl, rfl, hall, rfl⟩ := hrel
          have HA : Hid (∀ c ∈ s.take k, isDig c) := hall
          have hlow := HLw.out k hall
          clear hall
          by_cases hlt : k < s.length
          · have hkI : (k : Int) < (s.length : Int) := by omega
            obtain ⟨hyk, hgt⟩ := hgk.out k hlt
            have hsn := HSn.out k hlt
            have HSk : Hid (decP 0 (s.take (k + 1)) = 10 * decP 0 (s.take k) + (s[k].toNat - 48)) := hsn
            have HN : Hid (¬ isDig s[k] → res = -1) := fun h => HTI.out (HSg.out k hlt h)
            have HAn : Hid (isDig s[k] → ∀ c ∈ s.take (k + 1), isDig c) := fun h c hc => by
              rw [List.take_succ_eq_append_getElem hlt] at hc
              rcases List.mem_append.1 hc with hc | hc
              · exact HA.out c hc
              · rw [List.mem_singleton.1 hc]
                exact h
            have hch := s[k].toNat_lt
            clear hsn
            generalize hde : decP 0 (s.take (k + 1)) = d2 at *
            generalize decP 0 (s.take k) = d1 at *
            generalize s[k] = ch at *
            unfold isDig at HN HAn
            by_cases hlo : ch.toNat < 48
            · have hloI : (ch.toNat : Int) < 48 := by omega
              have HX : Hid (res = -1) := HN.out (by omega)
              clear HN HAn HSk HAl HTI HTS hgk HSg HSn HLw
              go_wp2_with fail
              go_ret
              exact ⟨by rw [HX.out]; rfl, rfl⟩
            · have hloI : ¬ (ch.toNat : Int) < 48 := by omega
              by_cases hhi : 57 < ch.toNat
              · have hhiI : (57 : Int) < (ch.toNat : Int) := by omega
                have HX : Hid (res = -1) := HN.out (by omega)
                clear HN HAn HSk HAl HTI HTS hgk HSg HSn HLw
                go_wp2_with fail
                go_ret
                exact ⟨by rw [HX.out]; rfl, rfl⟩
              · have hhiI : ¬ (57 : Int) < (ch.toNat : Int) := by omega
                have HA2 : Hid (∀ c ∈ s.take (k + 1), isDig c) := HAn.out (by omega)
                have hw8 : IntKind.u8.wrap ((ch.toNat : Int) - 48) = ((ch.toNat - 48 : Nat) : Int) := by rw [IntKind.wrap_u8']; omega
                have hw8' : ((ch.toNat : Int) - 48) % 256 = ((ch.toNat - 48 : Nat) : Int) := by omega
                have hsum : 10 * (d1 : Int) + ((ch.toNat - 48 : Nat) : Int) = (d2 : Int) := by rw [HSk.out]; omega
                have hd2 : d2 < 1000000000000000 := by rw [HSk.out]; omega
                have he9 : ch.toNat - 48 ≤ 9 := by omega
                clear HN HAn HSk
                generalize ch.toNat - 48 = e1 at *
                go_wp2_with fail
                go_roundw
                case rel => exact ⟨k + 1, by omega, by go_num, by rw [hde], HA2.out, by trivial⟩
                case measure => simp [intOf]; omega
          · have hke : s.take k = s := List.take_of_length_le (by omega)
            have hkI : ¬ ((k : Int) < (s.length : Int)) := by omega
            have hA := HA.out
            rw [hke] at hA hlow ⊢
            have hT := HAl.out hA
            clear hA HA HAl hke
            generalize decP 0 s = dd at *
            by_cases hmax : dd ≤ 1099511627776
            · rw [if_pos hmax] at hT
              have HX : Hid (res = (dd : Int)) := HTS.out dd hT
              have hmI : ¬ (1099511627776 : Int) < (dd : Int) := by omega
              clear hT
              go_wp2_with fail
              go_ret
              exact ⟨by rw [HX.out]; rfl, rfl⟩
            · rw [if_neg hmax] at hT
              have HX : Hid (res = -1) := HTI.out hT
              have hmI : (1099511627776 : Int) < (dd : Int) := by omega
              clear hT
              go_wp2_with fail
              go_ret
              exact ⟨by rw [HX.out]; rfl, rfl⟩
end Go.Proofs.YtmbpjbghhimedaaGreatDoor
/- Contract over this translation of the reference's Digits. -/
namespace Go.Proofs.YtmbpjbghhimedaaGreatDoor
open Go.RowKit
set_option linter.unusedVariables false
set_option linter.unusedSimpArgs false
theorem chr_at (c : UInt8) (w : World) (x : Int) (h : x = (c.toNat : Int)) :
    Calls Tryz.prog 43 #[.int .i64 x] w fun e w' => e = .returned (.string ⟨#[c]⟩) ∧ Below w.heap.size w w' := by
  subst h
  exact chr_any c w
theorem str_snoc (a : Bs) (c : UInt8) : (⟨a.toArray⟩ : ByteArray) ++ ⟨#[c]⟩ = ⟨(a ++ [c]).toArray⟩ := by
  apply ByteArray.ext
  simp
theorem nDig_le (u : Nat) (h : u < 18446744073709551616) : (Lib.decDigits u).length ≤ 40 := by
  rw [Lib.decDigits_length]
  rcases Nat.lt_or_ge (Lib.nDigits u) 21 with h' | h'
  · omega
  · have h1 := Lib.lt_pow_nDigits (u / 10)
    exfalso
    have key : ∀ k v : Nat, k + 1 ≤ Lib.nDigits v → k = 0 ∨ 10 ^ k ≤ v := by
      intro k
      induction k with
      | zero => intro v _; exact Or.inl rfl
      | succ k ih =>
        intro v hv
        right
        by_cases hs : v < 10
        · rw [Lib.nDigits_small hs] at hv; omega
        · rw [Lib.nDigits_big hs] at hv
          rcases ih (v / 10) (by omega) with h0 | h0
          · subst h0; omega
          · have : 10 ^ (k + 1) = 10 ^ k * 10 := Nat.pow_succ 10 k
            omega
    rcases key 20 u (by omega) with h0 | h0
    · omega
    · omega
set_option maxRecDepth 100000 in
set_option maxHeartbeats 1000000 in
theorem rfdigits_any : ∀ (u : Nat), u < 18446744073709551616 → ∀ (w : World), Calls Tryz.prog 40 #[.int .u64 u] w fun e w' => e = .returned (.string ⟨(Lib.decDigits u).toArray⟩) ∧ Below w.heap.size w w' := by
  intro u
  induction u using Nat.strongRecOn with
  | _ u ih =>
    intro hu w
    by_cases hs : u < 10
    · have hI : (u : Int) < 10 := by omega
      obtain ⟨c, hcc⟩ : ∃ c, c = UInt8.ofNat (48 + u) := ⟨_, rfl⟩
      have HD : Hid (Lib.decDigits u = [c]) := by show _ = _; rw [hcc]; exact Lib.decDigits_one hs
      have HC : Hid ((48 + (u : Int)) = (c.toNat : Int)) := by
        show _ = _
        rw [hcc, UInt8.toNat_ofNat']
        omega
      clear hcc ih
      go_enter Tryz.func40, Tryz.ntmps40
      go_wp2_with fail
      refine Calls.mono (chr_at c w _ HC.out) ?_
      rintro e w1 ⟨rfl, b1⟩
      have HB : Hid (Below w.heap.size w w1) := b1
      clear b1
      go_wp2_with fail
      go_ret
      exact ⟨by rw [HD.out]; rfl, HB.out⟩
    · have hI : ¬ (u : Int) < 10 := by omega
      obtain ⟨c, hcc⟩ : ∃ c, c = UInt8.ofNat (48 + u % 10) := ⟨_, rfl⟩
      have HD : Hid (Lib.decDigits u = Lib.decDigits (u / 10) ++ [c]) := by
        show Lib.decDigits u = _
        rw [hcc, Lib.decDigits, dif_neg hs]
      have HC : Hid ((48 + ((u : Int) % 10)) = (c.toNat : Int)) := by
        show _ = _
        rw [hcc, UInt8.toNat_ofNat']
        omega
      have hq1 : Op.intDiv .quo .u64 (u : Int) 10 = pure (.int .u64 ((u / 10 : Nat) : Int)) := by
        have h9 := Go.IntWalk.u64_quo (u : Int) 10 (by omega)
        simp only [Op.intDiv]
        rw [if_neg (by decide), h9]
        rfl
      have hq2 : Op.intDiv .rem .u64 (u : Int) 10 = pure (.int .u64 ((u : Int) % 10)) := by
        simp only [Op.intDiv]
        rw [if_neg (by decide), Int.tmod_eq_emod_of_nonneg (by omega)]
      have HIh : Hid (∀ (w : World), Calls Tryz.prog 40 #[.int .u64 ((u : Int) / 10)] w fun e w' => e = .returned (.string ⟨(Lib.decDigits (u / 10)).toArray⟩) ∧ Below w.heap.size w w') := by
        intro w
        have h9 := ih (u / 10) (by omega) (by omega) w
        have e9 : ((u / 10 : Nat) : Int) = (u : Int) / 10 := by omega
        rw [e9] at h9
        exact h9
      have hq3 : Op.intDiv .quo .u64 (u : Int) 10 = pure (.int .u64 ((u : Int) / 10)) := by
        rw [hq1]
        have e9 : ((u / 10 : Nat) : Int) = (u : Int) / 10 := by omega
        rw [e9]
      have hl := nDig_le (u / 10) (by omega)
      clear ih hcc hq1
      go_enter Tryz.func40, Tryz.ntmps40
      go_wp2_with fail
      refine (HIh.out w).mono ?_
      rintro e w1 ⟨rfl, b1⟩
      have HB1 : Hid (Below w.heap.size w w1) := b1
      have HZl : Hid ((⟨(Lib.decDigits (u / 10)).toArray⟩ : ByteArray).size ≤ 40) := by show _ ≤ _; simpa [ByteArray.size] using hl
      have HS : Hid ((⟨(Lib.decDigits (u / 10)).toArray⟩ : ByteArray) ++ ⟨#[c]⟩ = ⟨(Lib.decDigits u).toArray⟩) := by
        show _ = _
        rw [HD.out, str_snoc]
      clear b1 hl
      generalize (⟨(Lib.decDigits (u / 10)).toArray⟩ : ByteArray) = x at *
      go_wp2_with fail
      refine Calls.mono (chr_at c w1 _ HC.out) ?_
      rintro e w2 ⟨rfl, b2⟩
      have HB2 : Hid (Below w.heap.size w w2) := HB1.out.trans (b2.mono HB1.out.size)
      have hz := HZl.out
      have q1 : ¬ 9223372036854775807 < x.size + 1 := by omega
      clear b2
      go_wp2_with fail
      go_ret
      exact ⟨by rw [← HS.out]; rfl, HB2.out⟩
set_option maxRecDepth 100000 in
set_option maxHeartbeats 1000000 in
theorem rfDigits_any (i : Int) (h1 : -9223372036854775808 ≤ i) (h2 : i ≤ 9223372036854775807) (w : World) : Calls Tryz.prog 20 #[.int .i64 i] w fun e w' => e = .returned (.string ⟨(Lib.itoa i).toArray⟩) ∧ Below w.heap.size w w' := by
  by_cases hn : i < 0
  · have HD : Hid (Lib.itoa i = 45 :: Lib.decDigits i.natAbs) := by show Lib.itoa i = _; rw [Lib.itoa, if_pos hn]
    have hl := nDig_le i.natAbs (by omega)
    have HW : Hid (IntKind.u64.wrap (-IntKind.u64.wrap i) = (i.natAbs : Int)) := by
      show _ = _
      first
        | (rw [IntKind.wrap_u64, IntKind.wrap_u64]; omega)
        | (simp only [IntKind.wrap]; simp; omega)
    go_enter Tryz.func20, Tryz.ntmps20
    go_wp2_with fail
    rw [HW.out]
    refine (rfdigits_any i.natAbs (by omega) w).mono ?_
    rintro e w1 ⟨rfl, b1⟩
    have HB1 : Hid (Below w.heap.size w w1) := b1
    have HZl : Hid ((⟨(Lib.decDigits i.natAbs).toArray⟩ : ByteArray).size ≤ 40) := by show _ ≤ _; simpa [ByteArray.size] using hl
    have HS : Hid ((⟨#[45]⟩ : ByteArray) ++ ⟨(Lib.decDigits i.natAbs).toArray⟩ = ⟨(Lib.itoa i).toArray⟩) := by
      show _ = _
      rw [HD.out]
      apply ByteArray.ext
      simp [ByteArray.data_append]
    clear b1 hl
    generalize (⟨(Lib.decDigits i.natAbs).toArray⟩ : ByteArray) = x at *
    have hz := HZl.out
    have q1 : ¬ 9223372036854775807 < 1 + x.size := by omega
    go_wp2_with fail
    go_ret
    exact ⟨by rw [← HS.out]; rfl, HB1.out⟩
  · have HD : Hid (Lib.itoa i = Lib.decDigits i.toNat) := by show Lib.itoa i = _; rw [Lib.itoa, if_neg hn]
    have HI : Hid ((i.toNat : Int) = i) := by show _ = _; omega
    have h9 := rfdigits_any i.toNat (by omega) w
    rw [HI.out] at h9
    have H9 : Hid (Calls Tryz.prog 40 #[.int .u64 i] w fun e w' => e = .returned (.string ⟨(Lib.decDigits i.toNat).toArray⟩) ∧ Below w.heap.size w w') := h9
    clear h9
    go_enter Tryz.func20, Tryz.ntmps20
    go_wp2_with fail
    refine Calls.mono H9.out ?_
    rintro e w1 ⟨rfl, b1⟩
    have HB1 : Hid (Below w.heap.size w w1) := b1
    rw [← HD.out]
    obtain ⟨x, hx⟩ : ∃ x, x = (⟨(Lib.itoa i).toArray⟩ : ByteArray) := ⟨_, rfl⟩
    rw [← hx]
    have HXx : Hid (x = (⟨(Lib.itoa i).toArray⟩ : ByteArray)) := hx
    clear b1 hx
    go_wp2_with fail
    go_ret
    exact ⟨by rw [← HXx.out]; rfl, HB1.out⟩
end Go.Proofs.YtmbpjbghhimedaaGreatDoor
