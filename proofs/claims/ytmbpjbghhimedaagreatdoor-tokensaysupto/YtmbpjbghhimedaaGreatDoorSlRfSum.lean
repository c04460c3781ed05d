/- Contract over this translation: what the document's Sum answers. -/
import Derived.Test.YtmbpjbghhimedaaGreatDoorSlRfSumD
namespace Go.Proofs.YtmbpjbghhimedaaGreatDoor
open Go.RowKit
set_option linter.unusedVariables false
set_option linter.unusedSimpArgs false
set_option maxRecDepth 100000 in
set_option maxHeartbeats 8000000 in
theorem refsum_any (s : Bs) (w : World) (hs : s.length ≤ 1099511627776) :
    Calls Tryz.prog 41 #[.string (Ba s)] w fun e w' => e = .returned (.string (Ba (sumP s))) ∧ Below w.heap.size w w' := by
  obtain ⟨i0, hi, hz0, hz1, hz2⟩ := info_parts info_u32
  have HSum : Hid (sumP s = bytesP (blocksP first8 ((s.length + 9 + noughts s.length) / 64) (wholeP s))) := sum_blocks s (by show _ < 18446744073709551616; omega)
  generalize sumP s = ans at *
  go_enter Tryz.func41, Tryz.ntmps41
  go_wp2_with fail
  refine Calls.mono (primes_any _) ?_
  rintro e wP ⟨v0, rfl, hown0, hbel0⟩
  obtain ⟨gp, cp, rfl, hgp, hgpl⟩ := hown0.form (by decide)
  have HP : Hid (∀ i, i < 64 → ∃ p : Nat, wP.cell? ⟨gp, i, none⟩ = some (.int .u64 (p : Int)) ∧ p < big ∧ rootP p 3 = kTab.getD i 0 ∧ (i < 8 → rootP p 2 = first8.getD i 0)) := fun i hi64 => by
    obtain ⟨p, hp, h1, h2, h3⟩ := prime_at i hi64
    refine ⟨p, ?_, h1, h2, h3⟩
    rw [hown0.cellAt i (by omega)]
    simp [V64, hp]
  have HBP : Hid (Below w.heap.size w wP) := hbel0
  have HGp : Hid (gp < wP.heap.size) := hgpl
  have HPs : Hid (w.heap.size ≤ wP.heap.size) := hbel0.size
  obtain ⟨B, hB⟩ : ∃ B, B = wP.heap.size := ⟨_, rfl⟩
  have HBB : Hid (B = wP.heap.size) := hB
  clear hown0 hbel0 hgp hgpl hB
  go_wp2_with fail
  go_loopw [3, 4, 28] (fun hv kv iv wr => ∃ (i m : Nat) (g1 g2 : Option Addr) (c1 c2 : Nat), i ≤ 64 ∧ m = min i 8 ∧ iv = .int .i64 i ∧ hv = .slice g1 m c1 ∧ kv = .slice g2 i c2 ∧ HK B wP wr (.slice g1 m c1) m (first8.take i) (.slice g2 i c2) i (kTab.take i)) (fun _ _ iv _ => 64 - (intOf iv).toNat)
  case atStart => exact ⟨0, 0, none, none, 0, 0, Nat.zero_le _, rfl, rfl, rfl, rfl, ⟨Below.refl _ _, World.ownsRow_nil _ _ _ _, World.ownsRow_nil _ _ _ _, fun j hj => by cases hj⟩⟩
  case round =>
    obtain ⟨i, m, g1, g2, c1, c2, hi64, hm, rfl, rfl, rfl, hk⟩ := hrel
    have HH : Hid (HK B wP wr (.slice g1 m c1) m (first8.take i) (.slice g2 i c2) i (kTab.take i)) := hk
    have HM : Hid (m = min i 8) := hm
    clear hk hm
    by_cases hlt : i < 64
    · obtain ⟨p, hcp, hpb, hr3, hr2⟩ := HP.out i hlt
      have hbs : Hid (B ≤ wr.heap.size) := by have := HH.out.below.size; have := HBB.out; show _ ≤ _; omega
      have hcell : wr.cell? ⟨gp, i, none⟩ = some (.int .u64 (p : Int)) := by
        rw [HH.out.below.cell (p := ⟨gp, i, none⟩) (by have := HGp.out; have := HBB.out; show gp < B; omega)]
        exact hcp
      have hltI : (i : Int) < 64 := by omega
      have HR3 : Hid (rootP p 3 = kTab.getD i 0) := hr3
      have HR2 : Hid (i < 8 → rootP p 2 = first8.getD i 0) := hr2
      have HKt : Hid (kTab.take (i + 1) = kTab.take i ++ [kTab.getD i 0]) := take_one _ _ (by rw [show kTab.length = 64 by decide +kernel]; exact hlt)
      clear hcp hr3 hr2
      by_cases h8 : i < 8
      · have h8I : (i : Int) < 8 := by omega
        have HFt : Hid (first8.take (i + 1) = first8.take i ++ [first8.getD i 0]) := take_one _ _ (by rw [show first8.length = 8 by decide +kernel]; exact h8)
        go_wp2_with fail
        refine Calls.mono (root_any p 2 _ hpb (by decide)) ?_
        rintro e w1 ⟨rfl, hb1⟩
        rw [HR2.out h8]
        obtain ⟨x, hx⟩ : ∃ x, x = first8.getD i 0 := ⟨_, rfl⟩
        rw [← hx]
        have HX : Hid (x = first8.getD i 0) := hx
        clear hx
        have HA : Hid (HK B wP (w1.alloc (.cells #[.int .u32 (x : Nat)] 85)) (.slice g1 m c1) m (first8.take i) (.slice g2 i c2) i (kTab.take i)) := HH.out.step hbs.out (hb1.alloc hb1.size _)
        have hbs1 : Hid (B ≤ (w1.alloc (.cells #[.int .u32 (x : Nat)] 85)).heap.size) := by
          have := hbs.out
          have := hb1.size
          show _ ≤ _
          simp
          omega
        clear hb1
        go_wp2_with (at_builtin; refine wpList_append_lies _ rfl _ _ 82 rfl B 85 i0 (.int .u32 0) 1 4 Tryz.underlying82 hi hz0 hz1 hz2 rfl (by decide) _ _ _ rfl (HA.out.h) ⟨w1.heap.size, 0, none⟩ 1 1 [.int .u32 (x : Nat)] rfl rfl ?g1 ?g2 (by decide) ?g3 ?g4 ?g5 _ rfl ?_)
        case g1 => exact World.news_of_block (heap_alloc_new w1 _)
        case g2 => intro u hu; rw [List.mem_singleton.1 hu]; rfl
        case g3 => have := HM.out; unfold maxLen; omega
        case g4 => have := HM.out; omega
        case g5 => exact hbs1.out
        intro g3 cap3 w3 hown' hgrow hlies _
        have hp3 := HA.out.pushH (x := x) (cap := cap3) (g := g3) hbs1.out (by simpa [Vw, List.map_take] using hown') hgrow (hlies.imp id (fun h => by rw [h]; simp))
        have hcap := HM.out
        rw [HX.out, ← HFt.out] at hp3
        have HX1 : Hid (HK B wP w3 (.slice (some ⟨g3, 0, none⟩) (m + 1) cap3) (m + 1) (first8.take (i + 1)) (.slice g2 i c2) i (kTab.take i)) := hp3
        have HM1 : Hid (m + 1 = min (i + 1) 8) := by show _ = _; omega
        have hbs3 : Hid (B ≤ w3.heap.size) := by
          have := hbs1.out
          have := hgrow.size
          show _ ≤ _
          omega
        clear hp3 hown' hgrow hlies HA hcap
        go_wp2_with fail
        refine Calls.mono (root_any p 3 _ hpb (by decide)) ?_
        rintro e w4 ⟨rfl, hb4⟩
        rw [HR3.out]
        obtain ⟨y, hy⟩ : ∃ y, y = kTab.getD i 0 := ⟨_, rfl⟩
        rw [← hy]
        have HY : Hid (y = kTab.getD i 0) := hy
        clear hy
        have HC : Hid (HK B wP (w4.alloc (.cells #[.int .u32 (y : Nat)] 85)) (.slice (some ⟨g3, 0, none⟩) (m + 1) cap3) (m + 1) (first8.take (i + 1)) (.slice g2 i c2) i (kTab.take i)) := HX1.out.step hbs3.out (hb4.alloc hb4.size _)
        have hbs4 : Hid (B ≤ (w4.alloc (.cells #[.int .u32 (y : Nat)] 85)).heap.size) := by
          have := hbs3.out
          have := hb4.size
          show _ ≤ _
          simp
          omega
        clear hb4
        go_wp2_with (at_builtin; refine wpList_append_lies _ rfl _ _ 82 rfl B 85 i0 (.int .u32 0) 1 4 Tryz.underlying82 hi hz0 hz1 hz2 rfl (by decide) _ _ _ rfl (HC.out.k) ⟨w4.heap.size, 0, none⟩ 1 1 [.int .u32 (y : Nat)] rfl rfl ?g1 ?g2 (by decide) ?g3 ?g4 ?g5 _ rfl ?_)
        case g1 => exact World.news_of_block (heap_alloc_new w4 _)
        case g2 => intro u hu; rw [List.mem_singleton.1 hu]; rfl
        case g3 => unfold maxLen; omega
        case g4 => omega
        case g5 => exact hbs4.out
        intro g5 cap5 w5 hown5 hgrow5 hlies5 _
        have hp5 := HC.out.pushK (x := y) (cap := cap5) (g := g5) hbs4.out (by simpa [Vw, List.map_take] using hown5) hgrow5 (hlies5.imp id (fun h => by rw [h]; simp))
        rw [HY.out, ← HKt.out] at hp5
        have H5 : Hid (HK B wP w5 (.slice (some ⟨g3, 0, none⟩) (m + 1) cap3) (m + 1) (first8.take (i + 1)) (.slice (some ⟨g5, 0, none⟩) (i + 1) cap5) (i + 1) (kTab.take (i + 1))) := hp5
        clear hp5 hown5 hgrow5 hlies5
        go_wp2_with fail
        have := HM1.out
        go_roundw
        case rel => exact ⟨i + 1, (m + 1), _, _, _, _, by omega, HM1.out, by go_num, rfl, rfl, H5.out⟩
        case measure => simp [intOf]; omega
      · have h8I : ¬ ((i : Int) < 8) := by omega
        have HFt : Hid (first8.take (i + 1) = first8.take i) := by
          show _ = _
          rw [List.take_of_length_le (by rw [show first8.length = 8 by decide +kernel]; omega), List.take_of_length_le (by rw [show first8.length = 8 by decide +kernel]; omega)]
        have HX1 : Hid (HK B wP wr (.slice g1 m c1) m (first8.take (i + 1)) (.slice g2 i c2) i (kTab.take i)) := by
          show HK _ _ _ _ _ _ _ _ _
          rw [HFt.out]
          exact HH.out
        have HM1 : Hid (m = min (i + 1) 8) := by have := HM.out; show _ = _; omega
        have hbs3 : Hid (B ≤ wr.heap.size) := hbs
        go_wp2_with fail
        refine Calls.mono (root_any p 3 _ hpb (by decide)) ?_
        rintro e w4 ⟨rfl, hb4⟩
        rw [HR3.out]
        obtain ⟨y, hy⟩ : ∃ y, y = kTab.getD i 0 := ⟨_, rfl⟩
        rw [← hy]
        have HY : Hid (y = kTab.getD i 0) := hy
        clear hy
        have HC : Hid (HK B wP (w4.alloc (.cells #[.int .u32 (y : Nat)] 85)) (.slice g1 m c1) m (first8.take (i + 1)) (.slice g2 i c2) i (kTab.take i)) := HX1.out.step hbs3.out (hb4.alloc hb4.size _)
        have hbs4 : Hid (B ≤ (w4.alloc (.cells #[.int .u32 (y : Nat)] 85)).heap.size) := by
          have := hbs3.out
          have := hb4.size
          show _ ≤ _
          simp
          omega
        clear hb4
        go_wp2_with (at_builtin; refine wpList_append_lies _ rfl _ _ 82 rfl B 85 i0 (.int .u32 0) 1 4 Tryz.underlying82 hi hz0 hz1 hz2 rfl (by decide) _ _ _ rfl (HC.out.k) ⟨w4.heap.size, 0, none⟩ 1 1 [.int .u32 (y : Nat)] rfl rfl ?g1 ?g2 (by decide) ?g3 ?g4 ?g5 _ rfl ?_)
        case g1 => exact World.news_of_block (heap_alloc_new w4 _)
        case g2 => intro u hu; rw [List.mem_singleton.1 hu]; rfl
        case g3 => unfold maxLen; omega
        case g4 => omega
        case g5 => exact hbs4.out
        intro g5 cap5 w5 hown5 hgrow5 hlies5 _
        have hp5 := HC.out.pushK (x := y) (cap := cap5) (g := g5) hbs4.out (by simpa [Vw, List.map_take] using hown5) hgrow5 (hlies5.imp id (fun h => by rw [h]; simp))
        rw [HY.out, ← HKt.out] at hp5
        have H5 : Hid (HK B wP w5 (.slice g1 m c1) m (first8.take (i + 1)) (.slice (some ⟨g5, 0, none⟩) (i + 1) cap5) (i + 1) (kTab.take (i + 1))) := hp5
        clear hp5 hown5 hgrow5 hlies5
        go_wp2_with fail
        have := HM1.out
        go_roundw
        case rel => exact ⟨i + 1, m, _, _, _, _, by omega, HM1.out, by go_num, rfl, rfl, H5.out⟩
        case measure => simp [intOf]; omega
    · have hie : i = 64 := by omega
      have hm8 : m = 8 := by have := HM.out; omega
      have hhk := HH.out
      rw [hie, hm8, show first8.take 64 = first8 by decide +kernel, show kTab.take 64 = kTab by decide +kernel] at hhk
      obtain ⟨gh, ch, eh, _, _⟩ := hhk.h.form (by decide)
      obtain ⟨gk, ck, ek, _, _⟩ := hhk.k.form (by decide)
      injection eh with e1 _ e2
      injection ek with e3 _ e4
      subst e1 e2 e3 e4 hie hm8
      have hBw : w.heap.size ≤ B := by have := HBB.out; have := HPs.out; omega
      have HK0 : Hid (HK w.heap.size w wr (.slice (some ⟨gh, 0, none⟩) 8 c1) 8 first8 (.slice (some ⟨gk, 0, none⟩) 64 c2) 64 kTab) :=
        ⟨HBP.out.trans (hhk.below.mono hBw), own_mono hhk.h hBw, own_mono hhk.k hBw, hhk.apart⟩
      clear hhk HH HM HP HBP HGp HPs HBB hBw
      have HC128 : Hid (∀ w, Calls Tryz.prog 43 #[.int .i64 128] w fun e w' => e = .returned (.string (Ba [128])) ∧ Below w.heap.size w w') := fun w => chr_any 128 w
      have HC0 : Hid (∀ w, Calls Tryz.prog 43 #[.int .i64 0] w fun e w' => e = .returned (.string (Ba [0])) ∧ Below w.heap.size w w') := fun w => chr_any 0 w
      obtain ⟨z, hz⟩ : ∃ z, z = noughts s.length := ⟨_, rfl⟩
      have hz64 : z < 64 := by rw [hz]; unfold noughts; omega
      have HRest : Hid (∀ w, Calls Tryz.prog 66 #[.int .i64 (-(s.length : Int) - 9), .int .i64 64] w fun e w' => e = .returned (.int .i64 (z : Nat)) ∧ w' = w) := fun w => by rw [hz]; exact rest_any _ w (by omega)
      have HRep : Hid (∀ w, Calls Tryz.prog 42 #[.string (Ba [0]), .int .i64 z] w fun e w' => e = .returned (.string (Ba (List.replicate z 0))) ∧ Below w.heap.size w w') := fun w => by
        have h := Tryz.strings_Repeat ⟨#[0]⟩ z w (by omega) (by show 1 * z ≤ _; omega)
        rw [show (⟨#[0]⟩ : ByteArray).data.toList = [0] from rfl, rep_zero] at h
        exact h
      have hn0 : IntKind.i64.wrap (-(s.length : Int)) = -(s.length : Int) := by rw [IntKind.wrap_i64]; omega
      have hn9 : IntKind.i64.wrap (-(s.length : Int) - 9) = -(s.length : Int) - 9 := by rw [IntKind.wrap_i64]; omega
      have HZ : Hid (z = noughts s.length) := hz
      clear hz
      go_wp2_with fail
      refine Calls.mono (HC128.out _) ?_
      rintro e w1 ⟨rfl, hb1⟩
      have HK1 : Hid (HK w.heap.size w w1 (.slice (some ⟨gh, 0, none⟩) 8 c1) 8 first8 (.slice (some ⟨gk, 0, none⟩) 64 c2) 64 kTab) := HK0.out.step HK0.out.below.size hb1
      clear HK0 hb1
      go_wp2_with fail
      refine Calls.mono (HC0.out _) ?_
      rintro e w2 ⟨rfl, hb2⟩
      have HK2 : Hid (HK w.heap.size w w2 (.slice (some ⟨gh, 0, none⟩) 8 c1) 8 first8 (.slice (some ⟨gk, 0, none⟩) 64 c2) 64 kTab) := HK1.out.step HK1.out.below.size hb2
      clear HK1 hb2
      go_wp2_with fail
      refine Calls.mono (HRest.out _) ?_
      rintro e w3 ⟨rfl, rfl⟩
      go_wp2_with fail
      refine Calls.mono (HRep.out _) ?_
      rintro e w4 ⟨rfl, hb4⟩
      have HK4 : Hid (HK w.heap.size w w4 (.slice (some ⟨gh, 0, none⟩) 8 c1) 8 first8 (.slice (some ⟨gk, 0, none⟩) 64 c2) 64 kTab) := HK2.out.step HK2.out.below.size hb4
      clear HK2 hb4
      go_wp2_with fail
      obtain ⟨wA, hwA⟩ : ∃ wA, wA = w4 := ⟨_, rfl⟩
      subst hwA
      obtain ⟨M, hM⟩ : ∃ M, M = 8 * s.length := ⟨_, rfl⟩
      have hMb : M < 18446744073709551616 := by omega
      have hMI : 8 * (s.length : Int) = (M : Int) := by omega
      have HMs : Hid (M = s.length * 8 % 18446744073709551616) := by show _ = _; omega
      have HE8 : Hid (∀ j, j < 8 → ((eightP M).take (j + 1)) = (eightP M).take j ++ [eightAt M j]) := fun j hj => by
        rw [List.take_add_one, eight_get hj]
        rfl
      obtain ⟨t0, ht0⟩ : ∃ t0, t0 = s ++ [128] ++ List.replicate z 0 := ⟨_, rfl⟩
      have hs0 : Ba s ++ (Ba [128] ++ Ba (List.replicate z 0)) = Ba t0 := by
        rw [ba_append, ba_append, ht0, List.append_assoc]
      have HT0 : Hid (t0 = s ++ [128] ++ List.replicate z 0 ++ (eightP M).take 0) := by
        show _ = _
        rw [List.take_zero, List.append_nil, ht0]
      clear ht0
      clear hM
      first
        | rw [hMI]
        | skip
      rw [hs0]
      clear hs0 hMI
      have HL : Hid (∀ j, (s ++ [128] ++ List.replicate z 0 ++ (eightP M).take j).length ≤ s.length + 73) := fun j => by
        have : (eightP M).length = 8 := by simp [eightP]
        simp only [List.length_append, List.length_cons, List.length_nil, List.length_replicate, List.length_take]
        omega
      go_loopw [0, 61] (fun tv iv wr => ∃ j : Nat, j ≤ 8 ∧ iv = .int .i64 j ∧ tv = .string (Ba (s ++ [128] ++ List.replicate z 0 ++ (eightP M).take j)) ∧ HK w.heap.size w wr (.slice (some ⟨gh, 0, none⟩) 8 c1) 8 first8 (.slice (some ⟨gk, 0, none⟩) 64 c2) 64 kTab) (fun _ iv _ => 8 - (intOf iv).toNat)
      case atStart => exact ⟨0, Nat.zero_le _, rfl, by rw [← HT0.out], HK4.out⟩
      case round =>
        obtain ⟨j, hj, rfl, rfl, hk⟩ := hrel
        have HKj : Hid (HK w.heap.size w wr (.slice (some ⟨gh, 0, none⟩) 8 c1) 8 first8 (.slice (some ⟨gk, 0, none⟩) 64 c2) 64 kTab) := hk
        clear hk
        by_cases hlt : j < 8
        · have hltI : (j : Int) < 8 := by omega
          obtain ⟨q, hq⟩ : ∃ q, q = 8 * j := ⟨_, rfl⟩
          obtain ⟨sf, hsf⟩ : ∃ sf, sf = 56 - 8 * j := ⟨_, rfl⟩
          have hw1 : IntKind.i64.wrap (8 * (j : Int)) = (q : Int) := by rw [IntKind.wrap_i64]; omega
          have hw2 : IntKind.i64.wrap (56 - (q : Int)) = (sf : Int) := by rw [IntKind.wrap_i64]; omega
          have HArg : Hid (wrap64 (bits .and .u64 ((M : Int) / 2 ^ (min sf 64)) 255) = ((eightAt M j).toNat : Int)) := by
            show _ = _
            have hd : ((M : Int) / 2 ^ (min sf 64)) = ((M / 2 ^ sf : Nat) : Int) := by
              rw [show min sf 64 = sf by omega, Int.natCast_ediv, Int.natCast_pow]
              rfl
            have hea : eightAt M j = (M / 2 ^ sf).toUInt8 := by rw [hsf]; rfl
            rw [hd, hea, low8 (M / 2 ^ sf) (Nat.lt_of_le_of_lt (Nat.div_le_self _ _) hMb), Nat.toUInt8_eq, UInt8.toNat_ofNat']
            have hb2 : M / 2 ^ sf % 256 < 256 := Nat.mod_lt _ (by decide)
            generalize M / 2 ^ sf % 256 = yy at *
            simp only [wrap64]
            omega
          have HT : Hid (s ++ [128] ++ List.replicate z 0 ++ (eightP M).take (j + 1) = (s ++ [128] ++ List.replicate z 0 ++ (eightP M).take j) ++ [eightAt M j]) := by
            show _ = _
            rw [HE8.out j hlt, ← List.append_assoc]
          have hLj := HL.out j
          generalize s ++ [128] ++ List.replicate z 0 ++ (eightP M).take j = tj at *
          clear hsf hq
          go_wp2_with fail
          rw [HArg.out]
          refine Calls.mono (chr_any _ _) ?_
          rintro e w5 ⟨rfl, hb5⟩
          have HK5 : Hid (HK w.heap.size w w5 (.slice (some ⟨gh, 0, none⟩) 8 c1) 8 first8 (.slice (some ⟨gk, 0, none⟩) 64 c2) 64 kTab) := HKj.out.step HKj.out.below.size hb5
          clear hb5
          go_wp2_with fail
          go_roundw
          case rel =>
            exact ⟨j + 1, by omega, by go_num, by rw [HT.out, ← ba_append], HK5.out⟩
          case measure => simp [intOf]; omega
        · have hje : j = 8 := by omega
          have hjN : ¬ ((j : Int) < 8) := by omega
          have HJ8 : Hid (j = 8) := hje
          obtain ⟨tw, htw⟩ : ∃ tw, tw = s ++ [128] ++ List.replicate z 0 ++ (eightP M).take j := ⟨_, rfl⟩
          rw [← htw]
          have HTw : Hid (tw = s ++ [128] ++ List.replicate z 0 ++ (eightP M).take j) := htw
          clear hje hlt hj htw
          go_wp2_with fail
          obtain ⟨wA, hwA⟩ : ∃ wA, wA = wr := ⟨_, rfl⟩
          subst hwA
          obtain ⟨F, hF⟩ : ∃ F, F = blocksP first8 ((s.length + 9 + noughts s.length) / 64) (wholeP s) := ⟨_, rfl⟩
          have htw := HTw.out
          have hwhole : tw = wholeP s := by
            have he8 : (eightP M).take j = eightP M := List.take_of_length_le (by rw [HJ8.out]; simp [eightP])
            rw [htw, he8, HMs.out, HZ.out]
            unfold wholeP endP
            simp only [List.append_assoc]
          have HW0 : Hid (tw.length = 64 * ((s.length + 9 + noughts s.length) / 64) ∧ blocksP first8 ((s.length + 9 + noughts s.length) / 64) tw = F) := ⟨by rw [hwhole]; exact whole_len s, by rw [hwhole, hF]⟩
          have HAns : Hid (ans = bytesP F) := by show _ = _; rw [hF]; exact HSum.out
          have HTl : Hid (tw.length ≤ s.length + 73) := by
            show _ ≤ _
            rw [htw]
            exact HL.out j
          have HFirst : Hid (St8 first8) := ⟨by decide +kernel, by decide +kernel⟩
          clear htw hwhole hF HSum HL HE8 HT0 HMs HZ HC0 HC128 HRest HRep
          go_loopw [0] (fun tv wr => ∃ (r : Nat) (t : Bs) (st : List Nat), tv = .string (Ba t) ∧ t.length = 64 * r ∧ t.length ≤ s.length + 73 ∧ St8 st ∧ blocksP st r t = F ∧ HK w.heap.size w wr (.slice (some ⟨gh, 0, none⟩) 8 c1) 8 st (.slice (some ⟨gk, 0, none⟩) 64 c2) 64 kTab) (fun tv _ => lenOf tv)
          case atStart => exact ⟨_, _, _, rfl, HW0.out.1, HTl.out, HFirst.out, HW0.out.2, HKj.out⟩
          case round =>
            obtain ⟨r, t, st, rfl, htl, htm, hst, hF, hk⟩ := hrel
            have HKr : Hid (HK w.heap.size w wr (.slice (some ⟨gh, 0, none⟩) 8 c1) 8 st (.slice (some ⟨gk, 0, none⟩) 64 c2) 64 kTab) := hk
            have HSt : Hid (St8 st) := hst
            have HF : Hid (blocksP st r t = F) := hF
            clear hk hst hF HKj HW0 HTl HFirst
            cases r with
            | zero =>
              have ht0 : t = [] := List.length_eq_zero_iff.1 (by omega)
              subst ht0
              have HFst : Hid (st = F) := HF.out
              have hbe : Ba [] = (⟨#[]⟩ : ByteArray) := rfl
              obtain ⟨wY, hwY⟩ : ∃ wY, wY = wr := ⟨_, rfl⟩
              subst hwY
              have hHF := HFst.out
              subst hHF
              have HKy : Hid (HK w.heap.size w wY (.slice (some ⟨gh, 0, none⟩) 8 c1) 8 st (.slice (some ⟨gk, 0, none⟩) 64 c2) 64 kTab) := HKr.out
              clear HF HFst
              go_wp2_with fail
              go_loopw [23, 255] (fun ov iv wr => ∃ j : Nat, j ≤ 8 ∧ iv = .int .i64 j ∧ ov = .string (Ba (bytesP (st.take j))) ∧ HK w.heap.size w wr (.slice (some ⟨gh, 0, none⟩) 8 c1) 8 st (.slice (some ⟨gk, 0, none⟩) 64 c2) 64 kTab) (fun _ iv _ => 8 - (intOf iv).toNat)
              case atStart => exact ⟨0, Nat.zero_le _, rfl, rfl, HKy.out⟩
              case round =>
                obtain ⟨j8, hj8, rfl, rfl, hk⟩ := hrel
                have HKz : Hid (HK w.heap.size w wr (.slice (some ⟨gh, 0, none⟩) 8 c1) 8 st (.slice (some ⟨gk, 0, none⟩) 64 c2) 64 kTab) := hk
                clear hk HKy HKr
                by_cases hlt : j8 < 8
                · have hjI : (j8 : Int) < 8 := by omega
                  have hcx := own_cell HKz.out.h hlt
                  have hxb : st.getD j8 0 < 4294967296 := by
                    have h := HSt.out
                    rw [List.getD_eq_getElem?_getD, List.getElem?_eq_getElem (by rw [h.1]; exact hlt)]
                    exact h.2 _ (List.getElem_mem _)
                  have HNx : Hid (bytesP (st.take (j8 + 1)) = bytesP (st.take j8) ++ fourP (st.getD j8 0)) := bytesP_take st j8 (by rw [HSt.out.1]; exact hlt)
                  have HLx : Hid ((bytesP (st.take j8)).length ≤ 32) := by
                    show _ ≤ _
                    rw [bytesP_length, List.length_take]
                    omega
                  have hLx := HLx.out
                  generalize bytesP (st.take j8) = bx at *
                  generalize st.getD j8 0 = x at *
                  have e0 : (x : Int) / 16777216 = (((x / 16777216).toUInt8.toNat : Nat) : Int) := by
                    rw [Nat.toUInt8_eq, UInt8.toNat_ofNat']
                    omega
                  have e1 : bits .and .u32 ((x : Int) / 65536) 255 = (((x / 65536).toUInt8.toNat : Nat) : Int) := by
                    rw [show (x : Int) / 65536 = ((x / 65536 : Nat) : Int) by omega, low8u (x / 65536) (by omega), Nat.toUInt8_eq, UInt8.toNat_ofNat']
                  have e2 : bits .and .u32 ((x : Int) / 256) 255 = (((x / 256).toUInt8.toNat : Nat) : Int) := by
                    rw [show (x : Int) / 256 = ((x / 256 : Nat) : Int) by omega, low8u (x / 256) (by omega), Nat.toUInt8_eq, UInt8.toNat_ofNat']
                  have e3 : bits .and .u32 (x : Int) 255 = ((x.toUInt8.toNat : Nat) : Int) := by
                    rw [low8u x hxb, Nat.toUInt8_eq, UInt8.toNat_ofNat']
                  have HFo : Hid (fourP x = [(x / 16777216).toUInt8, (x / 65536).toUInt8, (x / 256).toUInt8, x.toUInt8]) := rfl
                  generalize (x / 16777216).toUInt8 = o0 at *
                  generalize (x / 65536).toUInt8 = o1 at *
                  generalize (x / 256).toUInt8 = o2 at *
                  generalize x.toUInt8 = o3 at *
                  have f0 := o0.toNat_lt
                  have f1 := o1.toNat_lt
                  have f2 := o2.toNat_lt
                  have f3 := o3.toNat_lt
                  go_wp2_with fail
                  refine Calls.mono (chr_any o0 _) ?_
                  rintro e a0 ⟨rfl, hb0⟩
                  have HKa0 : Hid (HK w.heap.size w a0 (.slice (some ⟨gh, 0, none⟩) 8 c1) 8 st (.slice (some ⟨gk, 0, none⟩) 64 c2) 64 kTab) := HKz.out.step HKz.out.below.size hb0
                  clear hb0
                  go_wp2_with fail
                  refine Calls.mono (chr_any o1 _) ?_
                  rintro e a1 ⟨rfl, hb1⟩
                  have HKa1 : Hid (HK w.heap.size w a1 (.slice (some ⟨gh, 0, none⟩) 8 c1) 8 st (.slice (some ⟨gk, 0, none⟩) 64 c2) 64 kTab) := HKa0.out.step HKa0.out.below.size hb1
                  clear hb1
                  go_wp2_with fail
                  refine Calls.mono (chr_any o2 _) ?_
                  rintro e a2 ⟨rfl, hb2⟩
                  have HKa2 : Hid (HK w.heap.size w a2 (.slice (some ⟨gh, 0, none⟩) 8 c1) 8 st (.slice (some ⟨gk, 0, none⟩) 64 c2) 64 kTab) := HKa1.out.step HKa1.out.below.size hb2
                  clear hb2
                  go_wp2_with fail
                  refine Calls.mono (chr_any o3 _) ?_
                  rintro e a3 ⟨rfl, hb3⟩
                  have HKa3 : Hid (HK w.heap.size w a3 (.slice (some ⟨gh, 0, none⟩) 8 c1) 8 st (.slice (some ⟨gk, 0, none⟩) 64 c2) 64 kTab) := HKa2.out.step HKa2.out.below.size hb3
                  clear hb3
                  go_wp2_with fail
                  go_roundw
                  case rel => exact ⟨j8 + 1, by omega, by go_num, by rw [HNx.out, HFo.out, ba_append, ba_append, ba_append, ba_append]; rfl, HKa3.out⟩
                  case measure => simp [intOf]; omega
                · have hjN : ¬ ((j8 : Int) < 8) := by omega
                  have hje : j8 = 8 := by omega
                  have HR : Hid (bytesP (st.take j8) = ans) := by
                    show _ = _
                    rw [hje, List.take_of_length_le (by rw [HSt.out.1]; exact Nat.le_refl _), HAns.out]
                  generalize bytesP (st.take j8) = bx at *
                  clear hje
                  go_wp2_with fail
                  go_ret
                  exact ⟨by rw [HR.out]; rfl, HKz.out.below⟩
            | succ r =>
              have hbe : List.isEmpty t = false := by
                cases t with
                | nil => simp at htl
                | cons => rfl
              have HTl : Hid (t.length = 64 * (r + 1)) := htl
              have HTm : Hid (t.length ≤ s.length + 73) := htm
              obtain ⟨wB, hwB⟩ : ∃ wB, wB = wr := ⟨_, rfl⟩
              subst hwB
              have HR0 : Hid (RW wB (wAt (t.take 64) 0) (wB.alloc (.cells (Vw (List.replicate 64 0)).toArray 88))) := RW.begin wB
              clear htl htm
              go_wp2_with fail
              go_loopw [79] (fun iv wr => ∃ i : Nat, i ≤ 64 ∧ iv = .int .i64 i ∧ RW wB (wAt (t.take 64) i) wr) (fun iv _ => 64 - (intOf iv).toNat)
              case atStart => exact ⟨0, Nat.zero_le _, rfl, HR0.out⟩
              case round =>
                obtain ⟨i, hi64, rfl, hrw⟩ := hrel
                have HRW : Hid (RW wB (wAt (t.take 64) i) wr) := hrw
                clear hrw HR0
                by_cases hlt : i < 64
                · have hltI : (i : Int) < 64 := by omega
                  by_cases h16 : i < 16
                  · have h16I : (i : Int) < 16 := by omega
                    obtain ⟨q0, hq0⟩ : ∃ q, q = 4 * i := ⟨_, rfl⟩
                    obtain ⟨q4, hq4⟩ : ∃ q, q = 4 * i + 4 := ⟨_, rfl⟩
                    have hw0 : IntKind.i64.wrap (4 * (i : Int)) = (q0 : Int) := by rw [IntKind.wrap_i64]; omega
                    have hw4 : IntKind.i64.wrap ((q0 : Int) + 4) = (q4 : Int) := by rw [IntKind.wrap_i64]; omega
                    have hq4l : q4 ≤ t.length := by have := HTl.out; omega
                    have hq04 : q0 ≤ q4 := by omega
                    have HQ0 : Hid (q0 = 4 * i) := hq0
                    have HQ4 : Hid (q4 = 4 * i + 4) := hq4
                    obtain ⟨l4, hl4⟩ : ∃ l4, l4 = (t.drop q0).take 4 := ⟨_, rfl⟩
                    have hl4l : l4.length = 4 := by
                      rw [hl4, List.length_take, List.length_drop]
                      omega
                    obtain ⟨cap4, w2, cs4, fr4, hcv, hb2, hcs4, hby⟩ := conv_bytes l4 wr
                    rw [hl4l] at hcv
                    have hex : Ba l4 = (Ba t).extract q0 q4 := by
                      rw [ba_part, hl4, hq0, hq4, show 4 * i + 4 - 4 * i = 4 by omega]
                    rw [hex] at hcv
                    have HWd : Hid (wAt (t.take 64) (i + 1) = (wAt (t.take 64) i).set i (numP l4)) := by
                      show _ = _
                      rw [wAt_first _ h16, word_num h16 (by have := HTl.out; omega), hl4, hq0]
                    have HW2 : Hid (RW wB ((wAt (t.take 64) i).set i (numP (l4.take 0))) w2) := by
                      have h := HRW.out.step hb2
                      have h0 : (wAt (t.take 64) i).set i 0 = wAt (t.take 64) i := set_same (by rw [(wAt_lt _ i).1]; omega) (by
                        unfold wAt
                        rw [if_pos (by omega)]
                        exact first_zero _ i i (Nat.le_refl _))
                      show RW wB ((wAt (t.take 64) i).set i 0) w2
                      rw [h0]
                      exact h
                    obtain ⟨gb, hgb⟩ : ∃ gb, gb = wr.heap.size := ⟨_, rfl⟩
                    have HGb : Hid (wB.heap.size ≠ gb) := by
                      have := HRW.out.size
                      show _ ≠ _
                      omega
                    rw [← hgb] at hcv hcs4
                    have HCs : Hid (w2.heap[gb]? = some (.cells cs4 5 fr4)) := hcs4
                    have HBy : Hid (∀ k (h : k < 4), ∃ c : UInt8, cs4[k]? = some (.int .u8 (c.toNat : Nat)) ∧ l4.take (k + 1) = l4.take k ++ [c]) := fun k h => by
                      refine ⟨l4[k]'(by omega), hby k (by omega), ?_⟩
                      rw [List.take_succ_eq_append_getElem (by omega)]
                    have HL4 : Hid (l4.length = 4) := hl4l
                    have HLw : Hid (AllLt (wAt (t.take 64) i)) := wAt_lt _ _
                    clear hq0 hq4 hl4 hl4l hex hb2 hcs4 hby HRW hgb
                    generalize wAt (t.take 64) i = ws at *
                    obtain ⟨ws2, hws2⟩ : ∃ ws2, ws2 = wAt (t.take 64) (i + 1) := ⟨_, rfl⟩
                    rw [← hws2] at HWd
                    have HWs2 : Hid (ws2 = wAt (t.take 64) (i + 1)) := hws2
                    clear hws2
                    go_wp2_with fail
                    obtain ⟨wC, hwC⟩ : ∃ wC, wC = w2 := ⟨_, rfl⟩
                    subst hwC
                    go_loopw [93] (fun kv wr => ∃ k : Nat, k ≤ 4 ∧ kv = .int .i64 k ∧ RW wB (ws.set i (numP (l4.take k))) wr ∧ wr.heap[gb]? = some (.cells cs4 5 fr4)) (fun kv _ => 4 - (intOf kv).toNat)
                    case atStart => exact ⟨0, Nat.zero_le _, rfl, HW2.out, HCs.out⟩
                    case round =>
                      obtain ⟨k, hk4, rfl, hrk, hck⟩ := hrel
                      have HRk : Hid (RW wB (ws.set i (numP (l4.take k))) wr) := hrk
                      have HCk : Hid (wr.heap[gb]? = some (.cells cs4 5 fr4)) := hck
                      clear hrk hck HW2 HCs
                      by_cases hlt2 : k < 4
                      · have hlt2I : (k : Int) < 4 := by omega
                        obtain ⟨c, hc1, hc2⟩ := HBy.out k hlt2
                        have hcell := cell_at HCk.out hc1
                        have hlen : (l4.take k).length = k := by rw [List.length_take, HL4.out]; omega
                        have hcw := HRk.out.word i (by rw [List.length_set, HLw.out.1]; omega)
                        have hfz : wr.frozen? ⟨wB.heap.size, i, none⟩ = false := Lib.frozen_of_heap HRk.out.b i
                        have hgd : (ws.set i (numP (l4.take k))).getD i 0 = numP (l4.take k) := by
                          rw [List.getD_eq_getElem?_getD, List.getElem?_set_self (by rw [HLw.out.1]; omega)]
                          rfl
                        rw [hgd] at hcw
                        obtain ⟨x, hx⟩ : ∃ x, x = numP (l4.take k) := ⟨_, rfl⟩
                        have hxb : x < 16777216 := by
                          rw [hx]
                          refine Nat.lt_of_lt_of_le (num_lt k _ hlen) ?_
                          exact Nat.pow_le_pow_right (by decide) (show k ≤ 3 by omega)
                        have hx2 : numP (l4.take (k + 1)) = x * 256 + c.toNat := by rw [hc2, num_snoc, hx]
                        have HN : Hid (RW wB (ws.set i (numP (l4.take (k + 1)))) (wr.setCell ⟨wB.heap.size, i, none⟩ (.int .u32 ((x * 256 + c.toNat : Nat) : Int)))) := by
                          have h := HRk.out.put i (x * 256 + c.toNat)
                          rw [List.set_set] at h
                          show RW _ _ _
                          rw [hx2]
                          exact h
                        have HCn : Hid ((wr.setCell ⟨wB.heap.size, i, none⟩ (.int .u32 ((x * 256 + c.toNat : Nat) : Int))).heap[gb]? = some (.cells cs4 5 fr4)) := by
                          show _ = _
                          rw [heap_setCell_other _ _ _ _ (fun e => HGb.out e.symm)]
                          exact HCk.out
                        rw [← hx] at hcw
                        have hcb := c.toNat_lt
                        clear hx hx2 hgd hlen hc1 hc2
                        generalize c.toNat = y at *
                        obtain ⟨x2, hx2⟩ : ∃ x2, x2 = x * 256 := ⟨_, rfl⟩
                        obtain ⟨x3, hx3⟩ : ∃ x3, x3 = x * 256 + y := ⟨_, rfl⟩
                        rw [← hx3] at HN HCn
                        have hm1 : IntKind.u32.wrap ((x : Int) * 256) = (x2 : Int) := by rw [IntKind.wrap_u32']; omega
                        have hm2 : IntKind.u32.wrap (y : Int) = (y : Int) := by rw [IntKind.wrap_u32']; omega
                        have hm3 : IntKind.u32.wrap ((x2 : Int) + y) = (x3 : Int) := by rw [IntKind.wrap_u32']; omega
                        clear hx2 hx3
                        go_wp2_with fail
                        go_roundw
                        case rel => exact ⟨k + 1, by omega, by go_num, HN.out, HCn.out⟩
                        case measure => simp [intOf]; omega
                      · have hke : k = 4 := by omega
                        subst hke
                        have HE : Hid (RW wB ws2 wr) := by
                          have h := HRk.out
                          rw [List.take_of_length_le (by rw [HL4.out]; exact Nat.le_refl _)] at h
                          show RW _ _ _
                          rw [HWd.out]
                          exact h
                        clear HRk HCk
                        go_wp2_with fail
                        go_roundw
                        case rel => exact ⟨i + 1, by omega, by go_num, by rw [← HWs2.out]; exact HE.out⟩
                        case measure => simp [intOf]; omega
                  · have h16I : ¬ ((i : Int) < 16) := by omega
                    obtain ⟨q0, hq0⟩ : ∃ q, q = i - 16 := ⟨_, rfl⟩
                    obtain ⟨q1, hq1⟩ : ∃ q, q = i - 15 := ⟨_, rfl⟩
                    obtain ⟨q2, hq2⟩ : ∃ q, q = i - 7 := ⟨_, rfl⟩
                    obtain ⟨q3, hq3⟩ : ∃ q, q = i - 2 := ⟨_, rfl⟩
                    have HWs2 : Hid (wAt (t.take 64) (i + 1) = (wAt (t.take 64) i).set i (extAt (wAt (t.take 64) i) i)) := wAt_more _ (by omega)
                    have hall := wAt_lt (t.take 64) i
                    obtain ⟨ws, hws⟩ : ∃ ws, ws = wAt (t.take 64) i := ⟨_, rfl⟩
                    rw [← hws] at HWs2 HRW hall
                    have k0 := HRW.out.word q0 (by rw [hall.1]; omega)
                    have k1 := HRW.out.word q1 (by rw [hall.1]; omega)
                    have k2 := HRW.out.word q2 (by rw [hall.1]; omega)
                    have k3 := HRW.out.word q3 (by rw [hall.1]; omega)
                    have cW := HRW.out.word i (by rw [hall.1]; omega)
                    have hfz : wr.frozen? ⟨wB.heap.size, i, none⟩ = false := Lib.frozen_of_heap HRW.out.b i
                    have hw0 : IntKind.i64.wrap ((i : Int) - 16) = (q0 : Int) := by rw [IntKind.wrap_i64]; omega
                    have hw1 : IntKind.i64.wrap ((i : Int) - 15) = (q1 : Int) := by rw [IntKind.wrap_i64]; omega
                    have hw2 : IntKind.i64.wrap ((i : Int) - 7) = (q2 : Int) := by rw [IntKind.wrap_i64]; omega
                    have hw3 : IntKind.i64.wrap ((i : Int) - 2) = (q3 : Int) := by rw [IntKind.wrap_i64]; omega
                    have l0 : (q0 : Int) < 64 := by omega
                    have l1 : (q1 : Int) < 64 := by omega
                    have l2 : (q2 : Int) < 64 := by omega
                    have l3 : (q3 : Int) < 64 := by omega
                    have hexx : extAt ws i = (ws.getD q0 0 + s0P (ws.getD q1 0) + ws.getD q2 0 + s1P (ws.getD q3 0)) % 4294967296 := by rw [hq0, hq1, hq2, hq3]; rfl
                    have hb0 := hall.2 q0
                    have hb1 := hall.2 q1
                    have hb2 := hall.2 q2
                    have hb3 := hall.2 q3
                    clear hq0 hq1 hq2 hq3 hall hws
                    generalize extAt ws i = x at *
                    generalize ws.getD q0 0 = y0 at *
                    generalize ws.getD q1 0 = y1 at *
                    generalize ws.getD q2 0 = y2 at *
                    generalize ws.getD q3 0 = y3 at *
                    generalize ws.getD i 0 = old at *
                    have HT7 : Hid (∀ w, Calls Tryz.prog 67 #[.int .u32 y1, .int .i64 7] w fun e w' => e = .returned (.int .u32 (rotP 7 y1 : Nat)) ∧ ∃ m, w' = w.drewN m) := fun w => turn_any y1 7 w hb1 (by decide) (by decide)
                    have HT18 : Hid (∀ w, Calls Tryz.prog 67 #[.int .u32 y1, .int .i64 18] w fun e w' => e = .returned (.int .u32 (rotP 18 y1 : Nat)) ∧ ∃ m, w' = w.drewN m) := fun w => turn_any y1 18 w hb1 (by decide) (by decide)
                    have HT17 : Hid (∀ w, Calls Tryz.prog 67 #[.int .u32 y3, .int .i64 17] w fun e w' => e = .returned (.int .u32 (rotP 17 y3 : Nat)) ∧ ∃ m, w' = w.drewN m) := fun w => turn_any y3 17 w hb3 (by decide) (by decide)
                    have HT19 : Hid (∀ w, Calls Tryz.prog 67 #[.int .u32 y3, .int .i64 19] w fun e w' => e = .returned (.int .u32 (rotP 19 y3 : Nat)) ∧ ∃ m, w' = w.drewN m) := fun w => turn_any y3 19 w hb3 (by decide) (by decide)
                    have x1 := xor_int (rotP 7 y1) (rotP 18 y1) (rot_lt hb1) (rot_lt hb1)
                    have x2 : bits .xor .u32 ((rotP 7 y1 ^^^ rotP 18 y1 : Nat) : Int) ((y1 : Int) / 8) = ((s0P y1 : Nat) : Int) := xor_int (rotP 7 y1 ^^^ rotP 18 y1) (y1 / 8) (xor_lt (rot_lt hb1) (rot_lt hb1)) (Nat.lt_of_le_of_lt (Nat.div_le_self _ _) hb1)
                    have x3 := xor_int (rotP 17 y3) (rotP 19 y3) (rot_lt hb3) (rot_lt hb3)
                    have x4 : bits .xor .u32 ((rotP 17 y3 ^^^ rotP 19 y3 : Nat) : Int) ((y3 : Int) / 1024) = ((s1P y3 : Nat) : Int) := xor_int (rotP 17 y3 ^^^ rotP 19 y3) (y3 / 1024) (xor_lt (rot_lt hb3) (rot_lt hb3)) (Nat.lt_of_le_of_lt (Nat.div_le_self _ _) hb3)
                    have hs0b := s0_lt hb1
                    have hs1b := s1_lt hb3
                    generalize s0P y1 = t0 at *
                    generalize s1P y3 = t1 at *
                    generalize rotP 7 y1 = r7 at *
                    generalize rotP 18 y1 = r18 at *
                    generalize rotP 17 y3 = r17 at *
                    generalize rotP 19 y3 = r19 at *
                    generalize r7 ^^^ r18 = r25 at *
                    generalize r17 ^^^ r19 = r36 at *
                    obtain ⟨p1, hp1⟩ : ∃ p, p = (y0 + t0) % 4294967296 := ⟨_, rfl⟩
                    obtain ⟨p2, hp2⟩ : ∃ p, p = (p1 + y2) % 4294967296 := ⟨_, rfl⟩
                    have m1 : IntKind.u32.wrap ((y0 : Int) + t0) = (p1 : Int) := by rw [IntKind.wrap_u32']; omega
                    have m2 : IntKind.u32.wrap ((p1 : Int) + y2) = (p2 : Int) := by rw [IntKind.wrap_u32']; omega
                    have m3 : IntKind.u32.wrap ((p2 : Int) + t1) = (x : Int) := by rw [IntKind.wrap_u32']; omega
                    have HN : Hid (∀ n m, RW wB (ws.set i x) (((wr.drewN n).drewN m).setCell ⟨wB.heap.size, i, none⟩ (.int .u32 (x : Int)))) := fun n m => ((HRW.out.drewN n).drewN m).put i x
                    clear hp1 hp2 hexx hb0 hb1 hb2 hb3 hs0b hs1b
                    go_wp2_with fail
                    go_quiet (fail)
                    obtain ⟨wD, hwD⟩ : ∃ wD, wD = wr.drewN nq := ⟨_, rfl⟩
                    rw [← hwD]
                    have d0 : wD.cell? ⟨wB.heap.size, q0, none⟩ = some (.int .u32 (y0 : Nat)) := by rw [hwD]; exact k0
                    have d2 : wD.cell? ⟨wB.heap.size, q2, none⟩ = some (.int .u32 (y2 : Nat)) := by rw [hwD]; exact k2
                    have dW : wD.cell? ⟨wB.heap.size, i, none⟩ = some (.int .u32 (old : Nat)) := by rw [hwD]; exact cW
                    have dz : wD.frozen? ⟨wB.heap.size, i, none⟩ = false := by rw [hwD]; exact hfz
                    have HN2 : Hid (∀ m, RW wB (ws.set i x) ((wD.drewN m).setCell ⟨wB.heap.size, i, none⟩ (.int .u32 (x : Int)))) := fun m => by rw [hwD]; exact HN.out nq m
                    clear hwD k0 k1 k2 k3 cW hfz HN
                    go_wp2_with fail
                    refine wp_region_quiet_tail 29 (by kernel_rfl) (by kernel_rfl) ?_
                    simp only [List.take_succ_cons, List.take_zero, List.drop_succ_cons, List.drop_zero]
                    repeat (go_big_quiet_step (fail))
                    go_big_quiet_step ((go_at_call 67; exact Calls.quiet_of (HT7.out _)))
                    repeat (go_big_quiet_step (fail))
                    go_big_quiet_step ((go_at_call 67; exact Calls.quiet_of (HT18.out _)))
                    repeat (go_big_quiet_step (fail))
                    go_big_quiet_step ((go_at_call 67; exact Calls.quiet_of (HT17.out _)))
                    repeat (go_big_quiet_step (fail))
                    go_big_quiet_step ((go_at_call 67; exact Calls.quiet_of (HT19.out _)))
                    repeat (go_big_quiet_step (fail))
                    refine wpQuiet_nil ?_
                    intro w9 hw9
                    obtain ⟨n9, rfl⟩ := hw9
                    go_wp2_with fail
                    go_roundw
                    case rel => exact ⟨i + 1, by omega, by go_num, by rw [HWs2.out]; exact HN2.out n9⟩
                    case measure => simp [intOf]; omega
                · have hie : i = 64 := by omega
                  have hiN : ¬ ((i : Int) < 64) := by omega
                  have HE : Hid (RW wB (spreadP (t.take 64)) wr) := by
                    have h := HRW.out
                    rw [hie, wAt_end] at h
                    exact h
                  clear HRW hie hlt hi64
                  go_wp2_with fail
                  obtain ⟨wQ, hwQ⟩ : ∃ wQ, wQ = wr := ⟨_, rfl⟩
                  subst hwQ
                  have HKQ : Hid (HK w.heap.size w wQ (.slice (some ⟨gh, 0, none⟩) 8 c1) 8 st (.slice (some ⟨gk, 0, none⟩) 64 c2) 64 kTab) := HKr.out.step HKr.out.below.size HE.out.below
                  have HQs : Hid (w.heap.size ≤ wQ.heap.size ∧ wB.heap.size < wQ.heap.size ∧ gk < wQ.heap.size) :=
                    ⟨HKQ.out.below.size, by have := HE.out.size; omega, (HKQ.out.k.lt gk rfl).2⟩
                  obtain ⟨ws, hws⟩ : ∃ ws, ws = spreadP (t.take 64) := ⟨_, rfl⟩
                  have hall : AllLt ws := by rw [hws]; exact more_lt _ 48
                  rw [← hws] at HE
                  have HWs : Hid (ws = spreadP (t.take 64)) := hws
                  have HAll : Hid (AllLt ws) := hall
                  have HKc : Hid (∀ i, i < 64 → wQ.cell? ⟨gk, i, none⟩ = some (.int .u32 (kTab.getD i 0 : Nat))) := fun i h => by
                    rw [HKQ.out.k.cellAt i (by omega)]
                    simp [Vw, List.getD_eq_getElem?_getD, show i < kTab.length by rw [show kTab.length = 64 by decide +kernel]; exact h]
                  have HWc : Hid (∀ i, i < 64 → wQ.cell? ⟨wB.heap.size, i, none⟩ = some (.int .u32 (ws.getD i 0 : Nat))) := fun i h => HE.out.word i (by rw [HAll.out.1]; exact h)
                  clear hws hall
                  refine Calls.mono (copyU_any HKQ.out.h (by decide) (by decide)) ?_
                  rintro e wV ⟨gv, cv, rfl, hov, hbv⟩
                  have HOV : Hid (wV.ownsRow wQ.heap.size 85 1 (.slice (some ⟨gv, 0, none⟩) 8 cv) 8 (Vw (runP ws st 0))) := hov
                  have HBV : Hid (Below wQ.heap.size wQ wV) := hbv
                  clear hov hbv
                  go_wp2_with fail
                  go_loopw [15, 147] (fun vv iv wr => ∃ (i g cap : Nat), i ≤ 64 ∧ iv = .int .i64 i ∧ vv = .slice (some ⟨g, 0, none⟩) 8 cap ∧ wr.ownsRow wQ.heap.size 85 1 (.slice (some ⟨g, 0, none⟩) 8 cap) 8 (Vw (runP ws st i)) ∧ Below wQ.heap.size wQ wr) (fun _ iv _ => 64 - (intOf iv).toNat)
                  case atStart => exact ⟨0, _, _, Nat.zero_le _, rfl, rfl, HOV.out, HBV.out⟩
                  case round =>
                    obtain ⟨i, g, cap, hi64, rfl, rfl, hov, hbv⟩ := hrel
                    have HO : Hid (wr.ownsRow wQ.heap.size 85 1 (.slice (some ⟨g, 0, none⟩) 8 cap) 8 (Vw (runP ws st i))) := hov
                    have HB : Hid (Below wQ.heap.size wQ wr) := hbv
                    clear hov hbv HOV HBV
                    by_cases hlt : i < 64
                    · have hiI : (i : Int) < 64 := by omega
                      have hst8 := run_st HSt.out ws i
                      obtain ⟨va, vb, vc, vd, ve, vf, vg, vh, hv8, la, lb, lc, ld, le, lf, lg, lh⟩ := hst8.parts
                      have HO8 : Hid (wr.ownsRow wQ.heap.size 85 1 (.slice (some ⟨g, 0, none⟩) 8 cap) 8 (Vw [va, vb, vc, vd, ve, vf, vg, vh])) := by
                        have h := HO.out
                        rw [hv8] at h
                        exact h
                      have HRun : Hid (runP ws st (i + 1) = rndP [va, vb, vc, vd, ve, vf, vg, vh] (kTab.getD i 0) (ws.getD i 0)) := by
                        show rndP (runP ws st i) _ _ = _
                        rw [hv8]
                      have hcap : 8 ≤ cap := by
                        obtain ⟨g9, cap9, h9, hle, _⟩ := own_at HO8.out rfl (show 0 < 8 by decide)
                        injection h9 with _ _ e9
                        omega
                      have c0 : wr.cell? ⟨g, 0, none⟩ = some (.int .u32 (va : Nat)) := HO8.out.cellAt 0 (by decide)
                      have c1 : wr.cell? ⟨g, 1, none⟩ = some (.int .u32 (vb : Nat)) := HO8.out.cellAt 1 (by decide)
                      have c2 : wr.cell? ⟨g, 2, none⟩ = some (.int .u32 (vc : Nat)) := HO8.out.cellAt 2 (by decide)
                      have c3 : wr.cell? ⟨g, 3, none⟩ = some (.int .u32 (vd : Nat)) := HO8.out.cellAt 3 (by decide)
                      have c4 : wr.cell? ⟨g, 4, none⟩ = some (.int .u32 (ve : Nat)) := HO8.out.cellAt 4 (by decide)
                      have c5 : wr.cell? ⟨g, 5, none⟩ = some (.int .u32 (vf : Nat)) := HO8.out.cellAt 5 (by decide)
                      have c6 : wr.cell? ⟨g, 6, none⟩ = some (.int .u32 (vg : Nat)) := HO8.out.cellAt 6 (by decide)
                      have c7 : wr.cell? ⟨g, 7, none⟩ = some (.int .u32 (vh : Nat)) := HO8.out.cellAt 7 (by decide)
                      have ck : wr.cell? ⟨gk, i, none⟩ = some (.int .u32 (kTab.getD i 0 : Nat)) := by rw [HB.out.cell (p := ⟨gk, i, none⟩) HQs.out.2.2]; exact HKc.out i hlt
                      have cw : wr.cell? ⟨wB.heap.size, i, none⟩ = some (.int .u32 (ws.getD i 0 : Nat)) := by rw [HB.out.cell (p := ⟨wB.heap.size, i, none⟩) HQs.out.2.1]; exact HWc.out i hlt
                      have lk := kTab_lt i
                      have lw := HAll.out.2 i
                      clear hst8 hv8 HO
                      generalize kTab.getD i 0 = kk at *
                      generalize ws.getD i 0 = ww at *
                      have HT6 : Hid (∀ w, Calls Tryz.prog 67 #[.int .u32 ve, .int .i64 6] w fun e w' => e = .returned (.int .u32 (rotP 6 ve : Nat)) ∧ ∃ m, w' = w.drewN m) := fun w => turn_any ve 6 w le (by decide) (by decide)
                      have HT11 : Hid (∀ w, Calls Tryz.prog 67 #[.int .u32 ve, .int .i64 11] w fun e w' => e = .returned (.int .u32 (rotP 11 ve : Nat)) ∧ ∃ m, w' = w.drewN m) := fun w => turn_any ve 11 w le (by decide) (by decide)
                      have HT25 : Hid (∀ w, Calls Tryz.prog 67 #[.int .u32 ve, .int .i64 25] w fun e w' => e = .returned (.int .u32 (rotP 25 ve : Nat)) ∧ ∃ m, w' = w.drewN m) := fun w => turn_any ve 25 w le (by decide) (by decide)
                      have HT2 : Hid (∀ w, Calls Tryz.prog 67 #[.int .u32 va, .int .i64 2] w fun e w' => e = .returned (.int .u32 (rotP 2 va : Nat)) ∧ ∃ m, w' = w.drewN m) := fun w => turn_any va 2 w la (by decide) (by decide)
                      have HT13 : Hid (∀ w, Calls Tryz.prog 67 #[.int .u32 va, .int .i64 13] w fun e w' => e = .returned (.int .u32 (rotP 13 va : Nat)) ∧ ∃ m, w' = w.drewN m) := fun w => turn_any va 13 w la (by decide) (by decide)
                      have HT22 : Hid (∀ w, Calls Tryz.prog 67 #[.int .u32 va, .int .i64 22] w fun e w' => e = .returned (.int .u32 (rotP 22 va : Nat)) ∧ ∃ m, w' = w.drewN m) := fun w => turn_any va 22 w la (by decide) (by decide)
                      have x1 := xor_int (rotP 6 ve) (rotP 11 ve) (rot_lt le) (rot_lt le)
                      have x2 : bits .xor .u32 ((rotP 6 ve ^^^ rotP 11 ve : Nat) : Int) ((rotP 25 ve : Nat) : Int) = ((g1P ve : Nat) : Int) := xor_int _ _ (xor_lt (rot_lt le) (rot_lt le)) (rot_lt le)
                      have x3 := xor_int (rotP 2 va) (rotP 13 va) (rot_lt la) (rot_lt la)
                      have x4 : bits .xor .u32 ((rotP 2 va ^^^ rotP 13 va : Nat) : Int) ((rotP 22 va : Nat) : Int) = ((g0P va : Nat) : Int) := xor_int _ _ (xor_lt (rot_lt la) (rot_lt la)) (rot_lt la)
                      have y1 := and_int va vb la lb
                      have y2 := and_int va vc la lc
                      have y3 := and_int vb vc lb lc
                      have y4 := or_int (va &&& vb) (va &&& vc) (and_lt lb) (and_lt lc)
                      have y5 : bits .or .u32 (((va &&& vb) ||| (va &&& vc) : Nat) : Int) ((vb &&& vc : Nat) : Int) = ((mjP va vb vc : Nat) : Int) := or_int _ _ (or_lt (and_lt lb) (and_lt lc)) (and_lt lc)
                      have z1 := and_int ve vf le lf
                      have z2 : bits .xor .u32 IntKind.u32.max (ve : Int) = ((4294967295 ^^^ ve : Nat) : Int) := xor_int 4294967295 ve (by decide) le
                      have z3 := and_int (4294967295 ^^^ ve) vg (not_lt le) lg
                      have z4 : bits .or .u32 ((ve &&& vf : Nat) : Int) (((4294967295 ^^^ ve) &&& vg : Nat) : Int) = ((chP ve vf vg : Nat) : Int) := or_int _ _ (and_lt lf) (and_lt lg)
                      have hg1 := g1_lt le
                      have hg0 := g0_lt la
                      have hch := ch_lt (e := ve) lf lg
                      have hmj := mj_lt (a := va) lb lc
                      have hnew : rndP [va, vb, vc, vd, ve, vf, vg, vh] kk ww = [((vh + g1P ve + chP ve vf vg + kk + ww) % lim + (g0P va + mjP va vb vc) % lim) % lim, va, vb, vc, (vd + (vh + g1P ve + chP ve vf vg + kk + ww) % lim) % lim, ve, vf, vg] := rfl
                      rw [hnew] at HRun
                      clear hnew
                      generalize g1P ve = G1 at *
                      generalize g0P va = G0 at *
                      generalize chP ve vf vg = CH at *
                      generalize mjP va vb vc = MJ at *
                      generalize rotP 6 ve = r6 at *
                      generalize rotP 11 ve = r11 at *
                      generalize rotP 25 ve = r25 at *
                      generalize rotP 2 va = r2 at *
                      generalize rotP 13 va = r13 at *
                      generalize rotP 22 va = r22 at *
                      generalize r6 ^^^ r11 = s1 at *
                      generalize r2 ^^^ r13 = s2 at *
                      generalize va &&& vb = ab at *
                      generalize va &&& vc = ac at *
                      generalize vb &&& vc = bc at *
                      generalize ab ||| ac = abc at *
                      generalize ve &&& vf = ef at *
                      generalize 4294967295 ^^^ ve = ne at *
                      generalize ne &&& vg = ng at *
                      obtain ⟨p1, hp1⟩ : ∃ p, p = (vh + G1) % 4294967296 := ⟨_, rfl⟩
                      obtain ⟨p2, hp2⟩ : ∃ p, p = (p1 + CH) % 4294967296 := ⟨_, rfl⟩
                      obtain ⟨p3, hp3⟩ : ∃ p, p = (p2 + kk) % 4294967296 := ⟨_, rfl⟩
                      obtain ⟨T1, hT1⟩ : ∃ p, p = (vh + G1 + CH + kk + ww) % lim := ⟨_, rfl⟩
                      obtain ⟨T2, hT2⟩ : ∃ p, p = (G0 + MJ) % lim := ⟨_, rfl⟩
                      rw [← hT1, ← hT2] at HRun
                      obtain ⟨NA, hNA⟩ : ∃ p, p = (T1 + T2) % lim := ⟨_, rfl⟩
                      obtain ⟨ND, hND⟩ : ∃ p, p = (vd + T1) % lim := ⟨_, rfl⟩
                      rw [← hNA, ← hND] at HRun
                      simp only [lim] at hT1 hT2 hNA hND la lb lc ld le lf lg lh lk lw hg1 hg0 hch hmj
                      have m1 : IntKind.u32.wrap ((vh : Int) + G1) = (p1 : Int) := by rw [IntKind.wrap_u32']; omega
                      have m5 : IntKind.u32.wrap ((G0 : Int) + MJ) = (T2 : Int) := by rw [IntKind.wrap_u32']; omega
                      have eNA : ((p1 : Int) + CH + kk + ww + T2) % 4294967296 = (NA : Int) := by omega
                      have eND : ((vd : Int) + ((p1 : Int) + CH + kk + ww)) % 4294967296 = (ND : Int) := by omega
                      clear hp1 hp2 hp3 hT1 hT2 hNA hND la lb lc ld le lf lg lh lk lw hg1 hg0 hch hmj
                      go_wp2_with fail
                      go_quiet (fail)
                      obtain ⟨u1, hu1⟩ : ∃ x, x = wr.drewN nq := ⟨_, rfl⟩
                      rw [← hu1]
                      have c0u1 : u1.cell? ⟨g, 0, none⟩ = some (.int .u32 (va : Nat)) := by rw [hu1]; exact c0
                      have c1u1 : u1.cell? ⟨g, 1, none⟩ = some (.int .u32 (vb : Nat)) := by rw [hu1]; exact c1
                      have c2u1 : u1.cell? ⟨g, 2, none⟩ = some (.int .u32 (vc : Nat)) := by rw [hu1]; exact c2
                      have c3u1 : u1.cell? ⟨g, 3, none⟩ = some (.int .u32 (vd : Nat)) := by rw [hu1]; exact c3
                      have c4u1 : u1.cell? ⟨g, 4, none⟩ = some (.int .u32 (ve : Nat)) := by rw [hu1]; exact c4
                      have c5u1 : u1.cell? ⟨g, 5, none⟩ = some (.int .u32 (vf : Nat)) := by rw [hu1]; exact c5
                      have c6u1 : u1.cell? ⟨g, 6, none⟩ = some (.int .u32 (vg : Nat)) := by rw [hu1]; exact c6
                      have c7u1 : u1.cell? ⟨g, 7, none⟩ = some (.int .u32 (vh : Nat)) := by rw [hu1]; exact c7
                      have cku1 : u1.cell? ⟨gk, i, none⟩ = some (.int .u32 (kk : Nat)) := by rw [hu1]; exact ck
                      have cwu1 : u1.cell? ⟨wB.heap.size, i, none⟩ = some (.int .u32 (ww : Nat)) := by rw [hu1]; exact cw
                      have HOu1 : Hid (u1.ownsRow wQ.heap.size 85 1 (.slice (some ⟨g, 0, none⟩) 8 cap) 8 (Vw [va, vb, vc, vd, ve, vf, vg, vh])) := by rw [hu1]; exact HO8.out
                      have HBu1 : Hid (Below wQ.heap.size wQ u1) := by rw [hu1]; exact below_drewN HB.out nq
                      clear hu1 HO8 HB c0 c1 c2 c3 c4 c5 c6 c7 ck cw
                      go_wp2_with fail
                      go_quiet (fail)
                      obtain ⟨u2, hu2⟩ : ∃ x, x = u1.drewN nq := ⟨_, rfl⟩
                      rw [← hu2]
                      have c0u2 : u2.cell? ⟨g, 0, none⟩ = some (.int .u32 (va : Nat)) := by rw [hu2]; exact c0u1
                      have c1u2 : u2.cell? ⟨g, 1, none⟩ = some (.int .u32 (vb : Nat)) := by rw [hu2]; exact c1u1
                      have c2u2 : u2.cell? ⟨g, 2, none⟩ = some (.int .u32 (vc : Nat)) := by rw [hu2]; exact c2u1
                      have c3u2 : u2.cell? ⟨g, 3, none⟩ = some (.int .u32 (vd : Nat)) := by rw [hu2]; exact c3u1
                      have c4u2 : u2.cell? ⟨g, 4, none⟩ = some (.int .u32 (ve : Nat)) := by rw [hu2]; exact c4u1
                      have c5u2 : u2.cell? ⟨g, 5, none⟩ = some (.int .u32 (vf : Nat)) := by rw [hu2]; exact c5u1
                      have c6u2 : u2.cell? ⟨g, 6, none⟩ = some (.int .u32 (vg : Nat)) := by rw [hu2]; exact c6u1
                      have c7u2 : u2.cell? ⟨g, 7, none⟩ = some (.int .u32 (vh : Nat)) := by rw [hu2]; exact c7u1
                      have cku2 : u2.cell? ⟨gk, i, none⟩ = some (.int .u32 (kk : Nat)) := by rw [hu2]; exact cku1
                      have cwu2 : u2.cell? ⟨wB.heap.size, i, none⟩ = some (.int .u32 (ww : Nat)) := by rw [hu2]; exact cwu1
                      have HOu2 : Hid (u2.ownsRow wQ.heap.size 85 1 (.slice (some ⟨g, 0, none⟩) 8 cap) 8 (Vw [va, vb, vc, vd, ve, vf, vg, vh])) := by rw [hu2]; exact HOu1.out
                      have HBu2 : Hid (Below wQ.heap.size wQ u2) := by rw [hu2]; exact below_drewN HBu1.out nq
                      clear hu2 HOu1 HBu1 c0u1 c1u1 c2u1 c3u1 c4u1 c5u1 c6u1 c7u1 cku1 cwu1
                      go_wp2_with fail
                      refine wp_region_quiet_lit (by kernel_rfl) (by kernel_rfl) ?_
                      repeat (go_big_quiet_step (fail))
                      go_big_quiet_step ((go_at_call 67; exact Calls.quiet_of (HT6.out _)))
                      repeat (go_big_quiet_step (fail))
                      go_big_quiet_step ((go_at_call 67; exact Calls.quiet_of (HT11.out _)))
                      repeat (go_big_quiet_step (fail))
                      go_big_quiet_step ((go_at_call 67; exact Calls.quiet_of (HT25.out _)))
                      repeat (go_big_quiet_step (fail))
                      refine wpQuiet_nil ?_
                      intro w9 hw9
                      obtain ⟨nq, rfl⟩ := hw9
                      obtain ⟨u3, hu3⟩ : ∃ x, x = u2.drewN nq := ⟨_, rfl⟩
                      rw [← hu3]
                      have c0u3 : u3.cell? ⟨g, 0, none⟩ = some (.int .u32 (va : Nat)) := by rw [hu3]; exact c0u2
                      have c1u3 : u3.cell? ⟨g, 1, none⟩ = some (.int .u32 (vb : Nat)) := by rw [hu3]; exact c1u2
                      have c2u3 : u3.cell? ⟨g, 2, none⟩ = some (.int .u32 (vc : Nat)) := by rw [hu3]; exact c2u2
                      have c3u3 : u3.cell? ⟨g, 3, none⟩ = some (.int .u32 (vd : Nat)) := by rw [hu3]; exact c3u2
                      have c4u3 : u3.cell? ⟨g, 4, none⟩ = some (.int .u32 (ve : Nat)) := by rw [hu3]; exact c4u2
                      have c5u3 : u3.cell? ⟨g, 5, none⟩ = some (.int .u32 (vf : Nat)) := by rw [hu3]; exact c5u2
                      have c6u3 : u3.cell? ⟨g, 6, none⟩ = some (.int .u32 (vg : Nat)) := by rw [hu3]; exact c6u2
                      have c7u3 : u3.cell? ⟨g, 7, none⟩ = some (.int .u32 (vh : Nat)) := by rw [hu3]; exact c7u2
                      have cku3 : u3.cell? ⟨gk, i, none⟩ = some (.int .u32 (kk : Nat)) := by rw [hu3]; exact cku2
                      have cwu3 : u3.cell? ⟨wB.heap.size, i, none⟩ = some (.int .u32 (ww : Nat)) := by rw [hu3]; exact cwu2
                      have HOu3 : Hid (u3.ownsRow wQ.heap.size 85 1 (.slice (some ⟨g, 0, none⟩) 8 cap) 8 (Vw [va, vb, vc, vd, ve, vf, vg, vh])) := by rw [hu3]; exact HOu2.out
                      have HBu3 : Hid (Below wQ.heap.size wQ u3) := by rw [hu3]; exact below_drewN HBu2.out nq
                      clear hu3 HOu2 HBu2 c0u2 c1u2 c2u2 c3u2 c4u2 c5u2 c6u2 c7u2 cku2 cwu2
                      go_wp2_with fail
                      refine Calls.mono (HT2.out _) ?_
                      rintro e w8 ⟨rfl, n2, rfl⟩
                      go_wp2_with fail
                      refine Calls.mono (HT13.out _) ?_
                      rintro e w8 ⟨rfl, n13, rfl⟩
                      go_wp2_with fail
                      refine Calls.mono (HT22.out _) ?_
                      rintro e w8 ⟨rfl, n22, rfl⟩
                      obtain ⟨u4, hu4⟩ : ∃ x, x = (u3.drewN (n2 + n13)).drewN n22 := ⟨_, rfl⟩
                      rw [← hu4]
                      have HO4 : Hid (u4.ownsRow wQ.heap.size 85 1 (.slice (some ⟨g, 0, none⟩) 8 cap) 8 (Vw [va, vb, vc, vd, ve, vf, vg, vh])) := by rw [hu4]; exact HOu3.out
                      have HB4 : Hid (Below wQ.heap.size wQ u4) := by rw [hu4]; exact below_drewN (below_drewN HBu3.out _) _
                      have hc7 : (7 : Int) ≤ (cap : Int) := by omega
                      clear hu4 HOu3 HBu3 c0u3 c1u3 c2u3 c3u3 c4u3 c5u3 c6u3 c7u3 cku3 cwu3
                      go_wp2_with (at_builtin; refine wpList_append_lies _ rfl _ _ 82 rfl wQ.heap.size 85 i0 (.int .u32 0) 1 4 Tryz.underlying82 hi hz0 hz1 hz2 rfl (by decide) _ 1 [.int .u32 (NA : Nat)] rfl ?g0 ⟨g, 0, none⟩ 7 cap (Vw [va, vb, vc, vd, ve, vf, vg]) rfl rfl ?g1 ?g2 (by decide) ?g3 ?g4 ?g5 _ rfl ?_)
                      case g0 =>
                        have hlit := World.ownsRow_lit (e := 85) (size := 1) u4 #[.int .u32 (NA : Nat)] 1 HB4.out.size (by unfold maxLen; omega) rfl
                        first
                          | exact hlit
                          | (rw [eNA]; exact hlit)
                      case g1 =>
                        intro j u hu
                        refine (HO4.out.alloc _).cells rfl j u ?_
                        rw [show Vw [va, vb, vc, vd, ve, vf, vg, vh] = Vw [va, vb, vc, vd, ve, vf, vg] ++ [.int .u32 (vh : Nat)] from rfl, List.getElem?_append_left (List.getElem?_eq_some_iff.1 hu).1]
                        exact hu
                      case g2 => intro u hu; obtain ⟨x, _, rfl⟩ := List.mem_map.1 hu; rfl
                      case g3 => unfold maxLen; omega
                      case g4 => omega
                      case g5 => have := HB4.out.size; simp; omega
                      intro g5 cap5 w5 hown5 hgrow5 hlies5 hlt5
                      have HO5 : Hid (w5.ownsRow wQ.heap.size 85 1 (.slice (some ⟨g5, 0, none⟩) 8 cap5) 8 (Vw [NA, va, vb, vc, vd, ve, vf, vg])) := hown5
                      have HB5 : Hid (Below wQ.heap.size wQ w5) := (HB4.out.alloc HB4.out.size _).grown hgrow5 (by have := HB4.out.size; simp; omega) (fun k hk => by have := HB4.out.size; simp [Value.ownBlock] at hk; omega)
                      have cv4 : w5.cell? ⟨g5, 4, none⟩ = some (.int .u32 (vd : Nat)) := HO5.out.cellAt 4 (by decide)
                      have fz4 := HO5.out.frozenAt 4
                      have HO6 : Hid ((w5.setCell ⟨g5, 4, none⟩ (.int .u32 (ND : Nat))).ownsRow wQ.heap.size 85 1 (.slice (some ⟨g5, 0, none⟩) 8 cap5) 8 (Vw [NA, va, vb, vc, ND, ve, vf, vg])) := (HO5.out.stored 4 _).1
                      have HB6 : Hid (Below wQ.heap.size wQ (w5.setCell ⟨g5, 4, none⟩ (.int .u32 (ND : Nat)))) := HB5.out.setCell (p := ⟨g5, 4, none⟩) (HO5.out.lt g5 rfl).1 _
                      clear hown5 hgrow5 hlies5 hlt5 HO5 HB5 HO4 HB4
                      go_wp2_with fail
                      go_roundw
                      case rel => exact ⟨i + 1, g5, cap5, by omega, by go_num, rfl, by rw [HRun.out]; first | exact HO6.out | (rw [eND]; exact HO6.out), by first | exact HB6.out | (rw [eND]; exact HB6.out)⟩
                      case measure => simp [intOf]; omega
                    · have hie : i = 64 := by omega
                      have hiN2 : ¬ ((i : Int) < 64) := by omega
                      have HOE : Hid (wr.ownsRow wQ.heap.size 85 1 (.slice (some ⟨g, 0, none⟩) 8 cap) 8 (Vw (runP ws st 64))) := by
                        have h := HO.out
                        rw [hie] at h
                        exact h
                      clear hie hlt hi64 HO
                      have hst64 := run_st HSt.out ws 64
                      obtain ⟨v64, hv64⟩ : ∃ v64, v64 = runP ws st 64 := ⟨_, rfl⟩
                      rw [← hv64] at HOE hst64
                      have HS64 : Hid (St8 v64) := hst64
                      have HMix : Hid (zipAt st v64 8 = mixP st (t.take 64)) := by
                        show _ = _
                        rw [zip_end HSt.out HS64.out, hv64, HWs.out]
                        rfl
                      obtain ⟨wZ, hwZ⟩ : ∃ wZ, wZ = wr := ⟨_, rfl⟩
                      subst hwZ
                      have HKZ : Hid (HK w.heap.size w wZ (.slice (some ⟨gh, 0, none⟩) 8 c1) 8 (zipAt st v64 0) (.slice (some ⟨gk, 0, none⟩) 64 c2) 64 kTab) := by
                        have h := HKQ.out.step HQs.out.1 HB.out
                        show HK _ _ _ _ _ _ _ _ _
                        rw [show zipAt st v64 0 = st by simp [zipAt]]
                        exact h
                      have HGv : Hid (g ≠ gh) := by
                        have h1 := (HKQ.out.h.lt gh rfl).2
                        have h2 := (HOE.out.lt g rfl).1
                        show _ ≠ _
                        omega
                      clear hst64 hv64 HKQ HB HKc HWc HE HWs HAll
                      go_wp2_with fail
                      go_loopw [239] (fun iv wr => ∃ j : Nat, j ≤ 8 ∧ iv = .int .i64 j ∧ HK w.heap.size w wr (.slice (some ⟨gh, 0, none⟩) 8 c1) 8 (zipAt st v64 j) (.slice (some ⟨gk, 0, none⟩) 64 c2) 64 kTab ∧ wr.ownsRow wQ.heap.size 85 1 (.slice (some ⟨g, 0, none⟩) 8 cap) 8 (Vw v64)) (fun iv _ => 8 - (intOf iv).toNat)
                      case atStart => exact ⟨0, Nat.zero_le _, rfl, HKZ.out, HOE.out⟩
                      case round =>
                        obtain ⟨j, hj, rfl, hk, hv⟩ := hrel
                        have HKj : Hid (HK w.heap.size w wr (.slice (some ⟨gh, 0, none⟩) 8 c1) 8 (zipAt st v64 j) (.slice (some ⟨gk, 0, none⟩) 64 c2) 64 kTab) := hk
                        have HVj : Hid (wr.ownsRow wQ.heap.size 85 1 (.slice (some ⟨g, 0, none⟩) 8 cap) 8 (Vw v64)) := hv
                        clear hk hv HKZ HOE
                        by_cases hlt : j < 8
                        · have hjI : (j : Int) < 8 := by omega
                          have hz := zip_step HSt.out HS64.out hlt
                          have ch := own_cell HKj.out.h hlt
                          rw [hz.2] at ch
                          have cv := own_cell HVj.out hlt
                          have fz := HKj.out.h.frozenAt j
                          have hma := add_int (st.getD j 0) (v64.getD j 0)
                          have HKd := HKj.out.step HKj.out.below.size ((Below.refl _ wr).drew)
                          have HN : Hid (HK w.heap.size w (wr.drew.setCell ⟨gh, j, none⟩ (.int .u32 (((st.getD j 0 + v64.getD j 0) % lim : Nat) : Int))) (.slice (some ⟨gh, 0, none⟩) 8 c1) 8 (zipAt st v64 (j + 1)) (.slice (some ⟨gk, 0, none⟩) 64 c2) 64 kTab) := by
                            show HK _ _ _ _ _ _ _ _ _
                            rw [hz.1]
                            exact HKd.putH j _
                          have HVn : Hid ((wr.drew.setCell ⟨gh, j, none⟩ (.int .u32 (((st.getD j 0 + v64.getD j 0) % lim : Nat) : Int))).ownsRow wQ.heap.size 85 1 (.slice (some ⟨g, 0, none⟩) 8 cap) 8 (Vw v64)) :=
                            World.ownsRow.kept (row := some gh) (own_below HVj.out ((Below.refl _ wr).drew)) (HKd.h.stored j _).2 (Or.inr (fun e => HGv.out (by simpa [Value.ownBlock] using e)))
                          clear hz HKd
                          generalize (st.getD j 0 + v64.getD j 0) % lim = zz at *
                          generalize st.getD j 0 = xx at *
                          generalize v64.getD j 0 = yy at *
                          go_wp2_with fail
                          go_still_tail 9, (by kernel_rfl)
                          go_wp2_with fail
                          go_roundw
                          case rel => exact ⟨j + 1, by omega, by go_num, HN.out, HVn.out⟩
                          case measure => simp [intOf]; omega
                        · have hje : j = 8 := by omega
                          have hjN8 : ¬ ((j : Int) < 8) := by omega
                          have HKE : Hid (HK w.heap.size w wr (.slice (some ⟨gh, 0, none⟩) 8 c1) 8 (mixP st (t.take 64)) (.slice (some ⟨gk, 0, none⟩) 64 c2) 64 kTab) := by
                            have h := HKj.out
                            rw [hje, HMix.out] at h
                            exact h
                          have hex : (Ba t).extract 64 t.length = Ba (t.drop 64) := by
                            rw [ba_part, List.take_of_length_le (by simp)]
                          have h64l : 64 ≤ t.length := by have := HTl.out; omega
                          clear HKj HVj hje hlt hj
                          go_wp2_with fail
                          go_roundw
                          case rel => exact ⟨r, t.drop 64, mixP st (t.take 64), rfl, by rw [List.length_drop, HTl.out]; omega, by have := HTm.out; rw [List.length_drop]; omega, mix_st HSt.out _, HF.out, HKE.out⟩
                          case measure => simp only [lenOf, ba_size, List.length_drop]; omega
end Go.Proofs.YtmbpjbghhimedaaGreatDoor
