/- Contract over this translation: the document's primes. -/
import Derived.Test.YtmbpjbghhimedaaGreatDoorSlRfPrP
namespace Go.Proofs.YtmbpjbghhimedaaGreatDoor
open Go.RowKit
set_option linter.unusedVariables false
set_option linter.unusedSimpArgs false
theorem info_u64 : (Tryz.prog.info? 66).map (fun i => (i.zero, i.size, i.bytes)) = some (some (.int .u64 0), 1, 8) := by kernel_rfl
theorem own_at {w : World} {B : Nat} {e : TypeId} {v : Value} {n : Nat} {xs : List Value} (h : w.ownsRow B e 1 v n xs) (hx : xs.length = n) {k : Nat} (hk : k < n) :
    ∃ g cap, v = .slice (some ⟨g, 0, none⟩) n cap ∧ n ≤ cap ∧ B ≤ g ∧ w.cell? ⟨g, k, none⟩ = xs[k]? := by
  rcases h.2 with ⟨_, h0⟩ | ⟨g, cap, cur, hv, hB, hh, hle, hm, hs, htk⟩
  · omega
  · refine ⟨g, cap, hv, hle, hB, ?_⟩
    rw [cell_of_row _ _ _ _ _ _ hh]
    have h2 : (cur.toList.take (n * 1))[k]? = xs[k]? := by rw [htk]
    rw [List.getElem?_take, if_pos (by omega), Array.getElem?_toList] at h2
    exact h2
theorem own_form {w : World} {B : Nat} {e : TypeId} {v : Value} {n : Nat} {xs : List Value} (h : w.ownsRow B e 1 v n xs) : ∃ g cap, v = .slice g n cap := by
  rcases h.2 with ⟨hv, h0⟩ | ⟨g, cap, cur, hv, _⟩
  · exact ⟨none, 0, by rw [hv, h0]⟩
  · exact ⟨_, _, hv⟩
theorem pr_step (p : Nat) : ∃ t, prP (p + 1) = prP p ++ t := by
  show ∃ t, (if 2 ≤ p ∧ isP (prP p) p = true then prP p ++ [p] else prP p) = prP p ++ t
  split
  · exact ⟨[p], rfl⟩
  · exact ⟨[], by simp⟩
theorem pr_mono {p q : Nat} (h : p ≤ q) : ∃ t, prP q = prP p ++ t := by
  induction q with
  | zero =>
    have : p = 0 := by omega
    subst this
    exact ⟨[], by simp⟩
  | succ q ih =>
    by_cases hp : p = q + 1
    · subst hp
      exact ⟨[], by simp⟩
    · obtain ⟨t, ht⟩ := ih (by omega)
      obtain ⟨s, hs⟩ := pr_step q
      exact ⟨t ++ s, by rw [hs, ht, List.append_assoc]⟩
theorem is_snoc (l : List Nat) (p k : Nat) (h : k < l.length) : isP (l.take (k + 1)) p = (isP (l.take k) p && decide (0 < p % l[k])) := by
  unfold isP
  rw [List.take_succ_eq_append_getElem h, List.all_append]
  simp
set_option maxRecDepth 100000 in
set_option maxHeartbeats 8000000 in
theorem primes_any (w : World) : Calls Tryz.prog 64 #[.int .i64 64] w fun e w' => ∃ v, e = .returned v ∧ w'.ownsRow w.heap.size 66 1 v 64 (V64 (prP 312)) ∧ Below w.heap.size w w' := by
  obtain ⟨i0, hi, hz0, hz1, hz2⟩ := info_parts info_u64
  go_enter Tryz.func64, Tryz.ntmps64
  go_wp2_with fail
  go_loopw [3, 4] (fun sv pv wr => ∃ (p n : Nat) (g : Option Addr) (cap : Nat), 2 ≤ p ∧ p ≤ 312 ∧ pv = .int .u64 (p : Nat) ∧ sv = .slice g n cap ∧ n = (prP p).length ∧ wr.ownsRow w.heap.size 66 1 (.slice g n cap) n (V64 (prP p)) ∧ Below w.heap.size w wr) (fun _ pv _ => 312 - (intOf pv).toNat)
  case atStart => exact ⟨2, 0, none, 0, Nat.le_refl _, by decide, rfl, rfl, rfl, World.ownsRow_nil _ _ _ _, Below.refl _ _⟩
  case round =>
    obtain ⟨p, n, g, cap, hp2, hp, rfl, rfl, hn, hown, hbel⟩ := hrel
    have HO : Hid (wr.ownsRow w.heap.size 66 1 (.slice g n cap) n (V64 (prP p))) := hown
    have HB : Hid (Below w.heap.size w wr) := hbel
    by_cases hlt : n < 64
    · have hp312 : p < 312 := pr_few ⟨p, by omega⟩ (by show (prP p).length < 64; omega)
      have hnI : (n : Int) < 64 := by omega
      have HEl : Hid (∀ k (h : k < (prP p).length), ∃ g' , g = some ⟨g', 0, none⟩ ∧ n ≤ cap ∧ wr.cell? ⟨g', k, none⟩ = some (.int .u64 ((prP p)[k] : Nat))) := fun k h => by
        obtain ⟨g', cap', hv, hle, _, hc⟩ := own_at hown (by rw [List.length_map]; exact hn.symm) (k := k) (by omega)
        injection hv with e1 e2 e3
        subst e1
        subst e3
        refine ⟨g', rfl, hle, ?_⟩
        rw [hc]
        simp [V64, h]
      have HQ : Hid (∀ k (h : k < (prP p).length), 2 ≤ (prP p)[k]) := fun k h => (pr_two p _ (List.getElem_mem h)).1
      have HIs : Hid (∀ k (h : k < (prP p).length), isP ((prP p).take (k + 1)) p = (isP ((prP p).take k) p && decide (0 < p % (prP p)[k]))) := fun k h => is_snoc _ _ _ h
      have HI0 : Hid (true = isP ((prP p).take 0) p) := rfl
      have HN : Hid (n = (prP p).length) := hn
      clear hown hbel hn
      go_wp2_with fail
      obtain ⟨wA, hwA⟩ : ∃ wA, wA = wr := ⟨_, rfl⟩
      rw [← hwA]
      have HWA : Hid (wA = wr) := hwA
      clear hwA
      go_loopw [5, 16] (fun iv kv w2 => ∃ k : Nat, k ≤ n ∧ kv = .int .i64 k ∧ iv = .bool (isP ((prP p).take k) p) ∧ w2 = wA) (fun _ kv _ => n - (intOf kv).toNat)
      case atStart => exact ⟨0, Nat.zero_le _, rfl, rfl, rfl⟩
      case round =>
        obtain ⟨k, hk, rfl, rfl, hwr⟩ := hrel
        rw [hwr]
        clear hwr
        by_cases hlt2 : k < n
        · have hkl : k < (prP p).length := by have := HN.out; omega
          obtain ⟨g', rfl, hnc, hcell⟩ := HEl.out k hkl
          have hcell2 : wA.cell? ⟨g', k, none⟩ = some (.int .u64 ((prP p)[k] : Nat)) := by rw [HWA.out]; exact hcell
          have hq2 := HQ.out k hkl
          have hst := HIs.out k hkl
          have hkI : (k : Int) < (n : Int) := by omega
          clear hcell
          generalize (prP p)[k] = q at *
          have hqI : ¬ ((q : Int) = 0) := by omega
          have hqb : ((q : Int) == 0) = false := by simpa using hqI
          obtain ⟨r, hr⟩ : ∃ r, r = p % q := ⟨_, rfl⟩
          have hr1 : ((p : Int) % (q : Int)) = (r : Int) := by rw [hr]; rfl
          have hr2 : ((p : Int).tmod (q : Int)) = (r : Int) := by rw [Int.tmod_eq_emod_of_nonneg (by omega)]; exact hr1
          rw [← hr] at hst
          have HST : Hid (isP ((prP p).take (k + 1)) p = (isP ((prP p).take k) p && decide (0 < r))) := hst
          clear hst hr
          cases hc : isP ((prP p).take k) p with
          | false =>
            have HS2 : Hid (isP ((prP p).take (k + 1)) p = false) := by show _ = _; rw [HST.out, hc]; rfl
            clear hc
            go_wp2_with fail
            go_roundw
            case rel => exact ⟨k + 1, by omega, by go_num, by rw [HS2.out], trivial⟩
            case measure => simp [intOf]; omega
          | true =>
            have HS2 : Hid (isP ((prP p).take (k + 1)) p = decide (0 < r)) := by show _ = _; rw [HST.out, hc]; rfl
            clear hc
            go_wp2_with fail
            go_roundw
            case rel => exact ⟨k + 1, by omega, by go_num, by rw [HS2.out], trivial⟩
            case measure => simp [intOf]; omega
        · have hke : k = n := by omega
          have hall : (prP p).take k = prP p := by rw [hke, HN.out, List.take_length]
          rw [hall]
          have hkN : ¬ ((k : Int) < (n : Int)) := by omega
          have HOA : Hid (wA.ownsRow w.heap.size 66 1 (.slice g n cap) n (V64 (prP p))) := by rw [HWA.out]; exact HO.out
          have HBA : Hid (Below w.heap.size w wA) := by rw [HWA.out]; exact HB.out
          have hpw : IntKind.u64.wrap ((p : Int) + 1) = ((p + 1 : Nat) : Int) := by rw [IntKind.wrap_u64]; omega
          have hpw2 : ((p : Int) + 1) % 18446744073709551616 = ((p + 1 : Nat) : Int) := by omega
          clear hall hke
          cases hc : isP (prP p) p with
          | false =>
            have HS : Hid (prP (p + 1) = prP p) := by
              show (if 2 ≤ p ∧ isP (prP p) p = true then prP p ++ [p] else prP p) = _
              rw [hc, if_neg (by simp)]
            clear hc
            go_wp2_with fail
            go_roundw
            case rel => exact ⟨p + 1, n, g, cap, by omega, by omega, by go_num, rfl, by rw [HS.out]; exact HN.out, by rw [HS.out]; exact HOA.out, HBA.out⟩
            case measure => simp [intOf]; omega
          | true =>
            have HS : Hid (prP (p + 1) = prP p ++ [p]) := by
              show (if 2 ≤ p ∧ isP (prP p) p = true then prP p ++ [p] else prP p) = _
              rw [hc, if_pos ⟨hp2, rfl⟩]
            clear hc
            have hown2 := HOA.out
            go_wp2_with (at_builtin; refine wpList_append_own _ rfl _ _ 83 rfl w.heap.size 66 i0 (.int .u64 0) 1 8 Tryz.underlying83 hi hz0 hz1 hz2 rfl (by decide) _ _ _ rfl (hown2.alloc _) ⟨wA.heap.size, 0, none⟩ 1 1 [.int .u64 (p : Nat)] rfl rfl ?g1 ?g2 ?g3 ?g4 ?g5 ?_)
            case g2 => rfl
            case g3 => unfold maxLen; omega
            case g4 => omega
            case g5 => have := HBA.out.size; simp; omega
            intro v' w3 hown' hgrow _
            obtain ⟨g3, cap3, rfl⟩ := own_form hown'
            have HO3 : Hid (w3.ownsRow w.heap.size 66 1 (.slice g3 (n + 1) cap3) (n + 1) (V64 (prP (p + 1)))) := by
              show World.ownsRow _ _ _ _ _ _ _
              rw [HS.out]
              simpa [V64] using hown'
            have HB3 : Hid (Below w.heap.size w w3) := (HBA.out.alloc HBA.out.size _).grown hgrow (by have := HBA.out.size; simp; omega) (fun j hj => (hown2.lt j hj).1)
            have HN3 : Hid (n + 1 = (prP (p + 1)).length) := by show _ = _; rw [HS.out, List.length_append, ← HN.out]; rfl
            clear hown2 hown' hgrow
            go_wp2_with fail
            go_roundw
            case rel => exact ⟨p + 1, n + 1, g3, cap3, by omega, by omega, by go_num, rfl, HN3.out, HO3.out, HB3.out⟩
            case measure => simp [intOf]; omega
    · have hp312 : prP p = prP 312 := by
        by_cases h : p < 312
        · have : (prP p).length < 64 ∨ 64 ≤ (prP p).length := by omega
          have h64 : (prP p).length = 64 := by
            rcases this with h1 | h1
            · omega
            · have := pr_mono (show p ≤ 312 by omega)
              obtain ⟨t, ht⟩ := this
              have hl : (prP 312).length = 64 := by rw [pr_all]; rfl
              rw [ht, List.length_append] at hl
              omega
          obtain ⟨t, ht⟩ := pr_mono (show p ≤ 312 by omega)
          have hl : (prP 312).length = 64 := by rw [pr_all]; rfl
          rw [ht, List.length_append] at hl
          have : t = [] := List.length_eq_zero_iff.1 (by omega)
          rw [ht, this, List.append_nil]
        · rw [show p = 312 by omega]
      have hn64 : n = 64 := by rw [hn, hp312, pr_all]; rfl
      have HR : Hid (wr.ownsRow w.heap.size 66 1 (.slice g n cap) 64 (V64 (prP 312))) := by
        have h := hown
        rw [hp312] at h
        show World.ownsRow _ _ _ _ _ _ _
        rw [← hn64]
        exact h
      have hnN : ¬ ((n : Int) < 64) := by omega
      clear hown hbel hn hn64 hp312
      go_wp2_with fail
      go_ret
      exact ⟨_, rfl, HR.out, HB.out⟩
end Go.Proofs.YtmbpjbghhimedaaGreatDoor
