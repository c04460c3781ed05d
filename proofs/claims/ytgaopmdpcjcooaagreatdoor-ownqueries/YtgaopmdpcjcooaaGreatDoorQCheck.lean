/- Contracts over this translation: query.checkPart, query.Check. -/
import Derived.Test.YtgaopmdpcjcooaaGreatDoorQMem
namespace Go.Proofs.YtgaopmdpcjcooaaGreatDoor
open Go.RowKit
set_option linter.unusedVariables false
set_option linter.unusedSimpArgs false
theorem nat_beq (n : Nat) : ((n : Int) == 0) = decide (n = 0) := by
  rw [Bool.eq_iff_iff]
  simp
set_option maxHeartbeats 1000000 in
theorem fits_any (a : ByteArray) (kd : Int) (p : Option Addr) (n c : Nat) (w : World) : Calls Tryz.prog 59 #[.agg #[.string a, .int .i64 kd, .slice p n c]] w fun e w' => e = .returned (.bool (fitsB kd n)) ∧ Below w.heap.size w w' := by
  have hB : Below w.heap.size w (w.alloc (.cells #[.string a, .int .i64 kd, .slice p n c] 35)) := (Below.refl _ _).alloc (Nat.le_refl _) _
  by_cases h1 : kd = 1
  · subst h1
    go_enter Tryz.func59, Tryz.ntmps59
    go_wp2_with fail
    go_ret
    exact ⟨by simp [fitsB] <;> omega, hB⟩
  by_cases h2 : kd = 2
  · subst h2
    go_enter Tryz.func59, Tryz.ntmps59
    go_wp2_with fail
    go_ret
    exact ⟨by simp [fitsB] <;> omega, hB⟩
  by_cases h3 : kd = 3
  · subst h3
    go_enter Tryz.func59, Tryz.ntmps59
    go_wp2_with fail
    go_ret
    exact ⟨by simp [fitsB, nat_beq], hB⟩
  by_cases h4 : kd = 4
  · subst h4
    go_enter Tryz.func59, Tryz.ntmps59
    go_wp2_with fail
    go_ret
    exact ⟨by simp [fitsB, nat_beq], hB⟩
  have e1 : (kd == 1) = false := by simpa using h1
  have e2 : (kd == 2) = false := by simpa using h2
  have e3 : (kd == 3) = false := by simpa using h3
  have e4 : (kd == 4) = false := by simpa using h4
  go_enter Tryz.func59, Tryz.ntmps59
  go_wp2_with fail
  go_ret
  exact ⟨by simp [fitsB, h1, h2, h3, h4], hB⟩
set_option maxHeartbeats 2000000 in
theorem part_any (r : Rq) (v : Value) (w : World) (hv : Strs w v r.2.2) (hf : Fit r) (hR : Room w) :
    Calls Tryz.prog 32 #[.agg #[.string (Ba r.1), .int .i64 r.2.1, v]] w fun e w' => e = .returned (.int .i64 (partI r)) ∧ Below w.heap.size w w' := by
  obtain ⟨key, kd, vs⟩ := r
  obtain ⟨p, c, rfl, hn, hcell⟩ := hv.open
  have HC : Hid (∀ k (hk : k < vs.length), ∃ g o, p = some ⟨g, o, none⟩ ∧ vs.length ≤ c ∧ ∀ w1, Below w.heap.size w w1 → w1.cell? ⟨g, o + k, none⟩ = some (.string (Ba vs[k]))) := hcell
  have HF : Hid (∀ k (hk : k < vs.length), vs[k].length ≤ maxLen) := fun k hk => hf.2 _ (List.getElem_mem hk)
  have hb0 : Below w.heap.size w (w.alloc (.cells #[.string (Ba key), .int .i64 kd, .slice p vs.length c] 35)) := (Below.refl _ _).alloc (Nat.le_refl _) _
  have HK : Hid (∀ w1, Below w.heap.size w w1 → Calls Tryz.prog 58 #[.string (Ba key)] w1 fun e w' => e = .returned (.int .i64 (kI key)) ∧ Below w1.heap.size w1 w') := fun w1 hb => kI_any key w1 hf.1 (hR.below hb)
  have HE : Hid (partI (key, kd, vs) = if kI key ≠ 0 then kI key else if fitsB kd vs.length = false then 1 else if 8 < vs.length then 2 else firstE vI (vs.drop 0)) := rfl
  have HB0 : Hid (Below w.heap.size w (w.alloc (.cells #[.string (Ba key), .int .i64 kd, .slice p vs.length c] 35))) := hb0
  clear hcell hf hR hv hb0
  generalize partI (key, kd, vs) = res at *
  unfold maxLen at hn
  by_cases h1 : kI key = 0
  · have hn1 : (kI key != 0) = false := by simp [h1]
    cases h2 : fitsB kd vs.length with
    | false =>
      have HX : Hid (res = 1) := by show _ = _; rw [HE.out, if_neg (by simp [h1]), if_pos h2]
      clear HE HC HF
      go_enter Tryz.func32, Tryz.ntmps32
      go_wp2_with fail
      refine Calls.mono (HK.out _ HB0.out) ?_
      rintro e w1 ⟨rfl, b1⟩
      have HB1 : Hid (Below w.heap.size w w1) := HB0.out.trans (b1.mono HB0.out.size)
      obtain ⟨k0, k1, k2⟩ := box3 b1
      clear b1
      go_wp2_with fail
      refine (fits_any _ _ _ _ _ _).mono ?_
      rintro e w2 ⟨rfl, b2⟩
      have HB2 : Hid (Below w.heap.size w w2) := HB1.out.trans (b2.mono HB1.out.size)
      clear b2 k0 k1 k2
      go_wp2_with fail
      go_ret
      exact ⟨by rw [HX.out]; rfl, HB2.out⟩
    | true =>
      by_cases h3 : 8 < vs.length
      · have hI : (8 : Int) < (vs.length : Int) := by omega
        have HX : Hid (res = 2) := by show _ = _; rw [HE.out, if_neg (by simp [h1]), if_neg (by simp [h2]), if_pos h3]
        clear HE HC HF
        go_enter Tryz.func32, Tryz.ntmps32
        go_wp2_with fail
        refine Calls.mono (HK.out _ HB0.out) ?_
        rintro e w1 ⟨rfl, b1⟩
        have HB1 : Hid (Below w.heap.size w w1) := HB0.out.trans (b1.mono HB0.out.size)
        obtain ⟨k0, k1, k2⟩ := box3 b1
        have g1 : w.heap.size < w1.heap.size := by have := b1.size; simp at this; omega
        have HG1 : Hid (w.heap.size < w1.heap.size) := g1
        clear b1 g1
        go_wp2_with fail
        refine (fits_any _ _ _ _ _ _).mono ?_
        rintro e w2 ⟨rfl, b2⟩
        have HB2 : Hid (Below w.heap.size w w2) := HB1.out.trans (b2.mono HB1.out.size)
        have j2 : w2.cell? ⟨w.heap.size, 2, none⟩ = some (.slice p vs.length c) := by rw [b2.cell (p := ⟨w.heap.size, 2, none⟩) HG1.out]; exact k2
        clear b2 k0 k1 k2
        go_wp2_with fail
        go_ret
        exact ⟨by rw [HX.out]; rfl, HB2.out⟩
      · have hI : ¬ (8 : Int) < (vs.length : Int) := by omega
        have HX : Hid (res = firstE vI (vs.drop 0)) := by show _ = _; rw [HE.out, if_neg (by simp [h1]), if_neg (by simp [h2]), if_neg h3]
        clear HE
        go_enter Tryz.func32, Tryz.ntmps32
        go_wp2_with fail
        refine Calls.mono (HK.out _ HB0.out) ?_
        rintro e w1 ⟨rfl, b1⟩
        have HB1 : Hid (Below w.heap.size w w1) := HB0.out.trans (b1.mono HB0.out.size)
        obtain ⟨k0, k1, k2⟩ := box3 b1
        have g1 : w.heap.size < w1.heap.size := by have := b1.size; simp at this; omega
        have HG1 : Hid (w.heap.size < w1.heap.size) := g1
        clear b1 g1
        go_wp2_with fail
        refine (fits_any _ _ _ _ _ _).mono ?_
        rintro e w2 ⟨rfl, b2⟩
        have HB2 : Hid (Below w.heap.size w w2) := HB1.out.trans (b2.mono HB1.out.size)
        have j2 : w2.cell? ⟨w.heap.size, 2, none⟩ = some (.slice p vs.length c) := by rw [b2.cell (p := ⟨w.heap.size, 2, none⟩) HG1.out]; exact k2
        clear b2 k0 k1 k2
        go_wp2_with fail
        go_loop [23] (fun i => ∃ k : Nat, k ≤ vs.length ∧ i = .int .i64 k ∧ firstE vI (vs.drop 0) = firstE vI (vs.drop k)) (fun i => vs.length - (intOf i).toNat)
        case atStart => exact ⟨0, Nat.zero_le _, rfl, rfl⟩
        case round =>
          obtain ⟨k, hk, rfl, hall⟩ := hrel
          have HA : Hid (firstE vI (vs.drop 0) = firstE vI (vs.drop k)) := hall
          clear hall
          by_cases hlt : k < vs.length
          · obtain ⟨g, o, rfl, hlc, hc0⟩ := HC.out k hlt
            have hc := hc0 _ HB2.out
            have hz := HF.out k hlt
            have HS : Hid (vI vs[k] = 0 → firstE vI (vs.drop k) = firstE vI (vs.drop (k + 1))) := fun h => firstE_step hlt h
            have HT : Hid (vI vs[k] ≠ 0 → firstE vI (vs.drop k) = vI vs[k]) := fun h => firstE_hit hlt h
            clear hc0
            generalize vs[k] = x at hc hz HS HT
            by_cases hx : vI x = 0
            · have hxb : (vI x != 0) = false := by simp [hx]
              go_wp2_with (go_at_call 60; refine (vI_any x _ hz).mono ?_; rintro e w' ⟨rfl, rfl⟩)
              go_round
              case rel => exact ⟨k + 1, by omega, by go_num, HA.out.trans (HS.out hx)⟩
              case measure => simp [intOf]; omega
            · have hxb : (vI x != 0) = true := by simpa using hx
              have HX2 : Hid (res = vI x) := by show _ = _; rw [HX.out, HA.out, HT.out hx]
              go_wp2_with (go_at_call 60; refine (vI_any x _ hz).mono ?_; rintro e w' ⟨rfl, rfl⟩)
              go_ret
              exact ⟨by rw [HX2.out]; rfl, HB2.out⟩
          · have HX2 : Hid (res = 0) := by show _ = _; rw [HX.out, HA.out, firstE_end (by omega)]
            go_wp2_with fail
            go_ret
            exact ⟨by rw [HX2.out]; rfl, HB2.out⟩
  · have hn1 : (kI key != 0) = true := by simpa using h1
    have HX : Hid (res = kI key) := by show _ = _; rw [HE.out, if_pos h1]
    clear HE HC HF
    go_enter Tryz.func32, Tryz.ntmps32
    go_wp2_with fail
    refine Calls.mono (HK.out _ HB0.out) ?_
    rintro e w1 ⟨rfl, b1⟩
    have HB1 : Hid (Below w.heap.size w w1) := HB0.out.trans (b1.mono HB0.out.size)
    clear b1
    go_wp2_with fail
    go_ret
    exact ⟨by rw [HX.out]; rfl, HB1.out⟩
theorem chk_long {l : List Rq} (h : 8 < l.length) : chkI l = 2 := if_pos h
theorem chk_short {l : List Rq} (h : ¬ 8 < l.length) : chkI l = firstE partI (l.drop 0) := if_neg h
set_option maxHeartbeats 2000000 in
theorem chk_any (v : Value) (l : List Rq) (w : World) (hv : Reqs w v l) (hf : ∀ r ∈ l, Fit r) (hR : Room w) :
    Calls Tryz.prog 20 #[v] w fun e w' => e = .returned (.int .i64 (chkI l)) ∧ Below w.heap.size w w' := by
  obtain ⟨p, c, rfl, hn, hcell⟩ := hv.open
  have HC : Hid (∀ k (hk : k < l.length), ∃ g o q d, p = some ⟨g, o, none⟩ ∧ l.length ≤ c ∧ ∀ w1, Below w.heap.size w w1 → w1.cell? ⟨g, o + k * 3, none⟩ = some (.string (Ba l[k].1)) ∧ w1.cell? ⟨g, o + k * 3 + 1, none⟩ = some (.int .i64 l[k].2.1) ∧ w1.cell? ⟨g, o + k * 3 + 2, none⟩ = some (.slice q l[k].2.2.length d) ∧
      ∀ w2, Below w1.heap.size w1 w2 → Calls Tryz.prog 32 #[.agg #[.string (Ba l[k].1), .int .i64 l[k].2.1, .slice q l[k].2.2.length d]] w2 fun e w' => e = .returned (.int .i64 (partI l[k])) ∧ Below w2.heap.size w2 w') := by
    intro k hk
    obtain ⟨g, o, q, d, h1, h2, h3⟩ := hcell k hk
    refine ⟨g, o, q, d, h1, h2, fun w1 hb => ?_⟩
    obtain ⟨c1, c2, c3, c4⟩ := h3 w1 hb
    exact ⟨c1, c2, c3, fun w2 hb2 => part_any l[k] _ w2 (c4.below hb2) (hf _ (List.getElem_mem hk)) ((hR.below hb).below hb2)⟩
  have HL : Hid (8 < l.length → chkI l = 2) := chk_long
  have HS : Hid (¬ 8 < l.length → chkI l = firstE partI (l.drop 0)) := chk_short
  clear hcell hf hR hv
  generalize chkI l = res at *
  unfold maxLen at hn
  by_cases h8 : 8 < l.length
  · have hI : (8 : Int) < (l.length : Int) := by omega
    have HX : Hid (res = 2) := HL.out h8
    clear HC HL HS
    go_enter Tryz.func20, Tryz.ntmps20
    go_wp2_with fail
    go_ret
    exact ⟨by rw [HX.out]; rfl, Below.refl _ _⟩
  · have hI : ¬ (8 : Int) < (l.length : Int) := by omega
    have HX : Hid (res = firstE partI (l.drop 0)) := HS.out h8
    clear HL HS
    go_enter Tryz.func20, Tryz.ntmps20
    go_wp2_with fail
    go_loopw [11] (fun i wr => ∃ k : Nat, k ≤ l.length ∧ i = .int .i64 k ∧ firstE partI (l.drop 0) = firstE partI (l.drop k) ∧ Below w.heap.size w wr) (fun i _ => l.length - (intOf i).toNat)
    case atStart => exact ⟨0, Nat.zero_le _, rfl, rfl, Below.refl _ _⟩
    case round =>
      obtain ⟨k, hk, rfl, hall, hbel⟩ := hrel
      have HA : Hid (firstE partI (l.drop 0) = firstE partI (l.drop k)) := hall
      have HB : Hid (Below w.heap.size w wr) := hbel
      clear hall hbel
      by_cases hlt : k < l.length
      · obtain ⟨g, o, q, d, rfl, hlc, hc0⟩ := HC.out k hlt
        obtain ⟨c1, c2, c3, hcall⟩ := hc0 wr HB.out
        have HP : Hid (∀ w2, Below wr.heap.size wr w2 → Calls Tryz.prog 32 #[.agg #[.string (Ba l[k].1), .int .i64 l[k].2.1, .slice q l[k].2.2.length d]] w2 fun e w' => e = .returned (.int .i64 (partI l[k])) ∧ Below w2.heap.size w2 w') := hcall
        have HS : Hid (partI l[k] = 0 → firstE partI (l.drop k) = firstE partI (l.drop (k + 1))) := fun h => firstE_step hlt h
        have HT : Hid (partI l[k] ≠ 0 → firstE partI (l.drop k) = partI l[k]) := fun h => firstE_hit hlt h
        clear hc0 hcall
        generalize partI l[k] = pr at HP HS HT
        generalize l[k] = x at c1 c2 c3 HP
        obtain ⟨xk, xd, xv⟩ := x
        dsimp only at c1 c2 c3 HP
        generalize xv.length = nv at c3 HP
        have hb2 : Below wr.heap.size wr (wr.alloc (.cells #[.string (Ba xk), .int .i64 xd, .slice q nv d] 35)) := (Below.refl _ _).alloc (Nat.le_refl _) _
        have HB2 : Hid (Below wr.heap.size wr (wr.alloc (.cells #[.string (Ba xk), .int .i64 xd, .slice q nv d] 35))) := hb2
        clear hb2
        by_cases hx : pr = 0
        · have hxb : (pr != 0) = false := by simp [hx]
          go_wp2_with fail
          refine Calls.mono (HP.out _ HB2.out) ?_
          rintro e w1 ⟨rfl, b1⟩
          have HB1 : Hid (Below w.heap.size w w1) := HB.out.trans ((HB2.out.trans (b1.mono HB2.out.size)).mono HB.out.size)
          clear b1
          go_wp2_with fail
          go_roundw
          case rel => exact ⟨k + 1, by omega, by go_num, HA.out.trans (HS.out hx), HB1.out⟩
          case measure => simp [intOf]; omega
        · have hxb : (pr != 0) = true := by simpa using hx
          have HX2 : Hid (res = pr) := by show _ = _; rw [HX.out, HA.out, HT.out hx]
          go_wp2_with fail
          refine Calls.mono (HP.out _ HB2.out) ?_
          rintro e w1 ⟨rfl, b1⟩
          have HB1 : Hid (Below w.heap.size w w1) := HB.out.trans ((HB2.out.trans (b1.mono HB2.out.size)).mono HB.out.size)
          clear b1
          go_wp2_with fail
          go_ret
          exact ⟨by rw [HX2.out]; rfl, HB1.out⟩
      · have HX2 : Hid (res = 0) := by show _ = _; rw [HX.out, HA.out, firstE_end (by omega)]
        go_wp2_with fail
        go_ret
        exact ⟨by rw [HX2.out]; rfl, HB.out⟩
end Go.Proofs.YtgaopmdpcjcooaaGreatDoor
