/- Contract over this translation of the document's answer for Join. -/
import Derived.Test.YthdgfehfoidnbaaDoorPtrEq
namespace Go.Proofs.YthdgfehfoidnbaaDoor
open Go.RowKit
set_option linter.unusedVariables false
set_option linter.unusedSimpArgs false
theorem written_snoc (s : Bs) (c : UInt8) : written (s ++ [c]) = written s ++ esc c := by simp [written]
/-- a text behind another, so far -/
def soFar (a : Bs) (s : ByteArray) (k : Nat) : Bs := a ++ 47 :: written (s.data.toList.take k)
theorem soFar_step (a : Bs) (s : ByteArray) (k : Nat) (h : k < s.size) : soFar a s (k + 1) = soFar a s k ++ esc s[k] := by
  unfold soFar
  have h' : k < s.data.toList.length := by simpa using h
  rw [List.take_succ_eq_append_getElem h', written_snoc]
  simp
  rfl
theorem soFar_len (a : Bs) (s : ByteArray) (k : Nat) : (soFar a s k).length ≤ a.length + 1 + 2 * s.size := by
  unfold soFar
  have h := written_len (s.data.toList.take k)
  have h2 : (s.data.toList.take k).length ≤ s.size := by simp; omega
  simp only [List.length_append, List.length_cons]
  omega
theorem soFar_all (a x : Bs) : soFar a ⟨x.toArray⟩ (⟨x.toArray⟩ : ByteArray).size = a ++ 47 :: written x := by
  unfold soFar
  have e : (⟨x.toArray⟩ : ByteArray).data.toList = x := by simp
  rw [e, size_of, List.take_length]
theorem ba_add (x y : Bs) : (⟨x.toArray⟩ : ByteArray) ++ ⟨y.toArray⟩ = ⟨(x ++ y).toArray⟩ := by
  apply ByteArray.ext
  simp [ByteArray.data_append]
theorem one_at (s : ByteArray) (k : Nat) (h : k < s.size) : s.extract k (k + 1) = ⟨[s[k]].toArray⟩ := by
  have e : (s.extract k (k + 1)).data.toList = [s[k]] := by
    simp
    have h' : k < s.data.toList.length := by simpa using h
    rw [List.drop_eq_getElem_cons h']
    simp
    rfl
  rw [← e, ba_self]
set_option maxRecDepth 100000 in
set_option maxHeartbeats 2000000 in
theorem refJoin_any (v : Value) (l : List Bs) (w : World) (hv : Strs w v l) (hlen : l.length ≤ 8000000) (hsum : (l.map List.length).sum ≤ 8000000) :
    Calls Tryd.prog 8 #[v] w fun e w' => e = .returned (.tuple (joinA l)) ∧ w' = w := by
  rcases hv with ⟨rfl, p, c, rfl⟩ | ⟨g, o, cap, rfl, hlc, hcm, hg, hcell⟩
  · go_enter Tryd.func8, Tryd.ntmps8
    go_wp2_with fail
    go_loopw [4, 13] (fun x i wr => x = .string ByteArray.empty ∧ i = .int .i64 0 ∧ wr = w) (fun _ _ _ => 0)
    case atStart => exact ⟨rfl, rfl, rfl⟩
    case round =>
      obtain ⟨rfl, rfl, rfl⟩ := hrel
      go_wp2_with fail
      go_ret2
      exact ⟨rfl, rfl⟩
  · by_cases h10 : 10 < l.length
    · have hI : (10 : Int) < (l.length : Int) := by omega
      have HE : Hid (joinA l = #[.string ByteArray.empty, .int .i64 2]) := by
        show joinA l = _
        unfold joinA
        rw [if_pos h10]
      unfold maxLen at hcm
      clear hcell
      go_enter Tryd.func8, Tryd.ntmps8
      go_wp2_with fail
      go_ret2
      exact ⟨by rw [HE.out]; rfl, rfl⟩
    · have hI : ¬ (10 : Int) < (l.length : Int) := by omega
      have HE : Hid (joinA l = #[.string ⟨(joinB l).toArray⟩, .int .i64 0]) := by
        show joinA l = _
        unfold joinA
        rw [if_neg h10]
      have HC : Hid (∀ k (hk : k < l.length), w.cell? ⟨g, o + k, none⟩ = some (.string ⟨l[k].toArray⟩)) := fun k hk => hcell k _ (List.getElem?_eq_getElem hk)
      have HZ : Hid (∀ k, (joinB (l.take k)).length ≤ 16000010) := fun k => by
        have h1 := joinB_len (l.take k)
        have h2 := sum_take_le l k
        have h3 : (l.take k).length ≤ l.length := by simp; omega
        omega
      have HS : Hid (∀ k (hk : k < l.length), joinB (l.take (k + 1)) = joinB (l.take k) ++ 47 :: written l[k]) := fun k hk => by
        rw [List.take_succ_eq_append_getElem hk, joinB_snoc]
      have HL : Hid (∀ k (hk : k < l.length), l[k].length ≤ 8000000) := fun k hk => by
        have := len_le_sum l k hk
        omega
      have HAll : Hid (∀ k, l.length ≤ k → joinB (l.take k) = joinB l) := fun k hk => by rw [List.take_of_length_le hk]
      unfold maxLen at hcm
      clear hcell hsum h10
      go_enter Tryd.func8, Tryd.ntmps8
      go_wp2_with fail
      go_loopw [4, 13] (fun x i wr => ∃ k : Nat, k ≤ l.length ∧ i = .int .i64 k ∧ x = .string ⟨(joinB (l.take k)).toArray⟩ ∧ wr = w) (fun _ i _ => l.length - (intOf i).toNat)
      case atStart => exact ⟨0, Nat.zero_le _, rfl, by simp [joinB], rfl⟩
      case round =>
        obtain ⟨k, hk, rfl, rfl, rfl⟩ := hrel
        by_cases hlt : k < l.length
        · have hc := HC.out k hlt
          have hzk := HZ.out k
          have hlk := HL.out k hlt
          have hs3 : (⟨l[k].toArray⟩ : ByteArray).size ≤ 8000000 := by rw [size_of]; exact hlk
          have HN : Hid (joinB (l.take (k + 1)) = soFar (joinB (l.take k)) ⟨l[k].toArray⟩ (⟨l[k].toArray⟩ : ByteArray).size) := by
            show _ = _
            rw [HS.out k hlt, soFar_all]
          have H0 : Hid ((⟨(joinB (l.take k)).toArray⟩ : ByteArray) ++ ⟨#[47]⟩ = ⟨(soFar (joinB (l.take k)) ⟨l[k].toArray⟩ 0).toArray⟩) := by
            show _ = _
            have := ba_add (joinB (l.take k)) [47]
            rw [show (⟨#[47]⟩ : ByteArray) = ⟨([47] : Bs).toArray⟩ from rfl, this]
            simp [soFar, written]
          have hx2 : (⟨(joinB (l.take k)).toArray⟩ : ByteArray).size ≤ 16000010 := by rw [size_of]; exact hzk
          have hq1 : ¬ 9223372036854775807 < (⟨(joinB (l.take k)).toArray⟩ : ByteArray).size + 1 := by omega
          generalize ha : joinB (l.take k) = a at *
          generalize (⟨l[k].toArray⟩ : ByteArray) = s at *
          generalize hx : (⟨a.toArray⟩ : ByteArray) = x at *
          go_wp2_with fail
          rw [H0.out]
          go_loop [4, 21] (fun y i => ∃ q : Nat, q ≤ s.size ∧ i = .int .i64 q ∧ y = .string ⟨(soFar a s q).toArray⟩) (fun _ i => s.size - (intOf i).toNat)
          case atStart => exact ⟨0, Nat.zero_le _, rfl, rfl⟩
          case round =>
            obtain ⟨q, hq, rfl, rfl⟩ := hrel
            by_cases hqt : q < s.size
            · have hsl := soFar_len a s q
              have HSt := soFar_step a s q hqt
              have hy : (⟨(soFar a s q).toArray⟩ : ByteArray).size ≤ 40000010 := by rw [size_of]; omega
              have hr1 : ¬ 9223372036854775807 < (⟨(soFar a s q).toArray⟩ : ByteArray).size + 2 := by omega
              have hr2 : ¬ 9223372036854775807 < (⟨(soFar a s q).toArray⟩ : ByteArray).size + 1 := by omega
              by_cases h126 : s[q] = 126
              · have HY : Hid ((⟨(soFar a s q).toArray⟩ : ByteArray) ++ ⟨#[126, 48]⟩ = ⟨(soFar a s (q + 1)).toArray⟩) := by
                  show _ = _
                  rw [HSt, h126, show (⟨#[126, 48]⟩ : ByteArray) = ⟨([126, 48] : Bs).toArray⟩ from rfl, ba_add]
                  rfl
                have hb : ((s[q].toNat : Int) == 126) = true := by rw [h126]; rfl
                clear h126 HSt hsl
                generalize (⟨(soFar a s q).toArray⟩ : ByteArray) = y at *
                go_wp2_with fail
                rw [HY.out]
                go_round
                case rel => exact ⟨q + 1, by omega, by go_num, rfl⟩
                case measure => simp [intOf]; omega
              · have hb : ((s[q].toNat : Int) == 126) = false := by
                  rw [beq_eq_false_iff_ne]
                  intro e
                  exact h126 (UInt8.toNat_inj.1 (by show s[q].toNat = 126; omega))
                by_cases h47 : s[q] = 47
                · have HY : Hid ((⟨(soFar a s q).toArray⟩ : ByteArray) ++ ⟨#[126, 49]⟩ = ⟨(soFar a s (q + 1)).toArray⟩) := by
                    show _ = _
                    rw [HSt, h47, show (⟨#[126, 49]⟩ : ByteArray) = ⟨([126, 49] : Bs).toArray⟩ from rfl, ba_add]
                    rfl
                  have hb2 : ((s[q].toNat : Int) == 47) = true := by rw [h47]; rfl
                  clear h126 HSt hsl h47
                  generalize (⟨(soFar a s q).toArray⟩ : ByteArray) = y at *
                  go_wp2_with fail
                  rw [HY.out]
                  go_round
                  case rel => exact ⟨q + 1, by omega, by go_num, rfl⟩
                  case measure => simp [intOf]; omega
                · have HY : Hid ((⟨(soFar a s q).toArray⟩ : ByteArray) ++ s.extract q (q + 1) = ⟨(soFar a s (q + 1)).toArray⟩) := by
                    show _ = _
                    rw [HSt, one_at s q hqt, ba_add]
                    unfold esc
                    rw [if_neg h126, if_neg h47]
                  have hb2 : ((s[q].toNat : Int) == 47) = false := by
                    rw [beq_eq_false_iff_ne]
                    intro e
                    exact h47 (UInt8.toNat_inj.1 (by show s[q].toNat = 47; omega))
                  have hes : (s.extract q (q + 1)).size = 1 := by simp; omega
                  have hle : (q : Int) + 1 ≤ (s.size : Int) := by omega
                  have hr3 : ¬ 9223372036854775807 < (⟨(soFar a s q).toArray⟩ : ByteArray).size + (s.extract q (q + 1)).size := by omega
                  clear h126 HSt hsl h47
                  generalize (⟨(soFar a s q).toArray⟩ : ByteArray) = y at *
                  go_wp2_with fail
                  rw [HY.out]
                  go_round
                  case rel => exact ⟨q + 1, by omega, by go_num, rfl⟩
                  case measure => simp [intOf]; omega
            · have hqe : q = s.size := by omega
              subst hqe
              rw [← HN.out]
              go_wp2_with fail
              go_roundw
              case rel => exact ⟨k + 1, by omega, by go_num, rfl, trivial⟩
              case measure => simp [intOf]; omega
        · have HA' : Hid (joinB (l.take k) = joinB l) := HAll.out k (by omega)
          go_wp2_with fail
          go_ret2
          exact ⟨by rw [HE.out, HA'.out]; rfl, rfl⟩
end Go.Proofs.YthdgfehfoidnbaaDoor
