/- Contract over this translation: slices.Reverse at parts of selectors of one's own. -/
import Derived.Test.YtglmffplnglkdaaDoorQRevP
import Derived.RegionTactic
import Derived.BigRegion
namespace Go.Proofs.YtglmffplnglkdaaDoor
open Go.RowKit
set_option linter.unusedVariables false
set_option linter.unusedSimpArgs false
set_option maxRecDepth 100000 in
set_option maxHeartbeats 4000000 in
theorem rev_any (B g cap : Nat) (L : List (Rq × Value)) (w w0 : World) (hr : RowAt w g L) (hsl : ∀ p ∈ L, ∃ q n c, p.2 = .slice q n c) (hlc : L.length ≤ cap) (hcm : cap ≤ maxLen) (hB : B ≤ g) (hw0 : Below B w0 w) :
    Calls Tryd.prog 22 #[.slice (some ⟨g, 0, none⟩) L.length cap] w fun e w' => e = .returned (.tuple #[]) ∧ RowAt w' g L.reverse ∧ Below B w0 w' := by
  have HS : Hid (∀ p ∈ L, ∃ q n c, p.2 = .slice q n c) := hsl
  have HR : Hid (RowAt w g L) := hr
  have HB0 : Hid (Below B w0 w) := hw0
  have H0 : Hid (RevK L L 0) := ⟨rfl, fun i hi => by rw [if_neg (by omega)]⟩
  have HE : Hid (∀ M k, RevK L M k → ¬ (k : Int) < (L.length : Int) - 1 - k → M = L.reverse) := fun M k h hk => revK_end h hk
  have HSt : Hid (∀ M (k j : Nat) p q, RevK L M k → j = L.length - 1 - k → k < j → M[k]? = some p → M[j]? = some q → RevK L ((M.set k q).set j p) (k + 1)) := fun M k j p q h a b c d => revK_step h a b c d
  have HM : Hid (∀ M k (i : Nat), RevK L M k → i < L.length → ∃ p, M[i]? = some p ∧ ∃ q n c, p.2 = .slice q n c) := fun M k i h hi => by
    have := h.2 i hi
    by_cases c : i < k ∨ L.length - k ≤ i
    · have h9 : L.length - 1 - i < L.length := by omega
      rw [if_pos c, List.getElem?_eq_getElem h9] at this
      exact ⟨_, this, HS.out _ (List.getElem_mem _)⟩
    · rw [if_neg c, List.getElem?_eq_getElem hi] at this
      exact ⟨_, this, HS.out _ (List.getElem_mem _)⟩
  have HML : Hid (∀ M k, RevK L M k → M.length = L.length) := fun M k h => h.1
  unfold maxLen at hcm
  clear hr hsl hw0
  go_enter Tryd.func22, Tryd.ntmps22
  go_wp2_with fail
  go_loopw [2, 3] (fun x y wr => ∃ (k : Nat) (M : List (Rq × Value)), k ≤ L.length ∧ x = .int .i64 k ∧ y = .int .i64 ((L.length : Int) - 1 - k) ∧ RevK L M k ∧ RowAt wr g M ∧ Below B w0 wr) (fun x _ _ => L.length + 1 - (intOf x).toNat)
  case atStart => exact ⟨0, L, Nat.zero_le _, rfl, by go_num, H0.out, HR.out, HB0.out⟩
  case round =>
    obtain ⟨k, M, hk, rfl, rfl, hrk, hra, hbel⟩ := hrel
    have HRK : Hid (RevK L M k) := hrk
    have HRA : Hid (RowAt wr g M) := hra
    have HBr : Hid (Below B w0 wr) := hbel
    clear hrk hra hbel
    by_cases hlt : (k : Int) < (L.length : Int) - 1 - k
    · obtain ⟨j, hj⟩ : ∃ j : Nat, j = L.length - 1 - k := ⟨_, rfl⟩
      have hji : (L.length : Int) - 1 - k = (j : Int) := by omega
      have hkj : k < j := by omega
      obtain ⟨p, hp, q1, n1, d1, hp2⟩ := HM.out M k k HRK.out (by omega)
      obtain ⟨q, hq, q2, n2, d2, hq2⟩ := HM.out M k j HRK.out (by omega)
      obtain ⟨⟨c0, c1, c2⟩, f0, f1, f2⟩ := HRA.out.2 k p hp
      obtain ⟨⟨e0, e1, e2⟩, h0, h1, h2⟩ := HRA.out.2 j q hq
      have HRK2 : Hid (RevK L ((M.set k q).set j p) (k + 1)) := HSt.out M k j p q HRK.out hj hkj hp hq
      have hml := HML.out M k HRK.out
      have HRA2 : Hid (RowAt (set3 (set3 wr g (k * 3) q) g (j * 3) p) g ((M.set k q).set j p)) := rowAt_set (rowAt_set HRA.out (by omega)) (by simp; omega)
      have HB2 : Hid (Below B w0 (set3 (set3 wr g (k * 3) q) g (j * 3) p)) := set3_below (set3_below HBr.out hB) hB
      obtain ⟨⟨pk, pd, pv⟩, pu⟩ := p
      obtain ⟨⟨qk, qd, qv⟩, qu⟩ := q
      dsimp only at c0 c1 c2 e0 e1 e2 hp2 hq2
      subst hp2 hq2
      unfold set3 at HRA2 HB2
      dsimp only at HRA2 HB2
      rw [hji] at hlt ⊢
      have hkn : (k : Int) < (L.length : Int) := by omega
      have hjI : (j : Int) < (L.length : Int) := by omega
      have hLn : L.length ≤ 9223372036854775807 := by omega
      have HJ : Hid (j = L.length - 1 - k) := hj
      clear hp hq hml hj hji
      generalize Ba pk = b1 at *
      generalize Ba qk = b2 at *
      go_wp2_with fail
      go_region
      generalize (((((wr.setCell ⟨g, k * 3, none⟩ (.string b2)).setCell ⟨g, k * 3 + 1, none⟩ (.int .i64 qd)).setCell ⟨g, k * 3 + 2, none⟩ (.slice q2 n2 d2)).setCell ⟨g, j * 3, none⟩ (.string b1)).setCell ⟨g, j * 3 + 1, none⟩ (.int .i64 pd)).setCell ⟨g, j * 3 + 2, none⟩ (.slice q1 n1 d1) = W at *
      clear c0 c1 c2 e0 e1 e2 f0 f1 f2 h0 h1 h2
      go_wp2_with fail
      go_roundw
      case rel => exact ⟨k + 1, _, by omega, by go_num, by have := HJ.out; go_num, HRK2.out, HRA2.out, HB2.out.drew⟩
      case measure => simp [intOf]; omega
    · have he := HE.out M k HRK.out (by omega)
      have HF : Hid (RowAt wr g L.reverse) := by rw [← he]; exact HRA.out
      clear he
      go_wp2_with fail
      go_end0
      exact ⟨rfl, HF.out, HBr.out⟩
end Go.Proofs.YtglmffplnglkdaaDoor
