/- Contracts over this translation: the document's QueryLabels. -/
import Derived.Test.YtglmffplnglkdaaDoorQRefChk
import Derived.Test.YtglmffplnglkdaaDoorQLabs
namespace Go.Proofs.YtglmffplnglkdaaDoor
open Go.RowKit
set_option linter.unusedVariables false
set_option linter.unusedSimpArgs false
def lastK (l : List Lb) (k : Nat) : Bs := (ahead l k).getD []
theorem lastK_zero (l : List Lb) : lastK l 0 = [] := rfl
theorem lastK_pos {l : List Lb} {k : Nat} (h0 : 0 < k) (hk : k - 1 < l.length) : lastK l k = l[k - 1].1 := by
  unfold lastK ahead
  rw [if_neg (by omega), List.getElem?_eq_getElem hk]
  rfl
theorem lastK_next {l : List Lb} {k : Nat} (hk : k < l.length) : lastK l (k + 1) = l[k].1 := lastK_pos (Nat.succ_pos k) hk
set_option maxRecDepth 100000 in
set_option maxHeartbeats 4000000 in
theorem qlabelsR_any (v : Value) (l : List Lb) (w : World) (hv : Labs w v l) (hf : ∀ x ∈ l, x.1.length ≤ maxLen ∧ x.2.length ≤ maxLen) (hR : Room w) :
    Calls Tryd.prog 15 #[v] w fun e w' => e = .returned (.int .i64 (labelsI l)) ∧ Below w.heap.size w w' := by
  obtain ⟨p, c, rfl, hn, hcell⟩ := hv.open
  have HC : Hid (∀ k (hk : k < l.length), ∃ g o, p = some ⟨g, o, none⟩ ∧ l.length ≤ c ∧ ∀ w1, Below w.heap.size w w1 → ∀ j (hj : j < l.length), w1.cell? ⟨g, o + j * 2, none⟩ = some (.string (Ba l[j].1)) ∧ w1.cell? ⟨g, o + j * 2 + 1, none⟩ = some (.string (Ba l[j].2))) := hcell
  have HK : Hid (∀ (s : Bs) w1, Below w.heap.size w w1 → Calls Tryd.prog 28 #[.string (Ba s)] w1 fun e w' => e = .returned (.int .i64 (kI s)) ∧ Below w1.heap.size w1 w') := fun s w1 hb => kR_any s w1 (hR.below hb)
  have HF : Hid (∀ x ∈ l, x.1.length ≤ maxLen ∧ x.2.length ≤ maxLen) := hf
  have HL : Hid (10 < l.length → labelsI l = 2) := labels_long
  have HS : Hid (¬ 10 < l.length → labelsI l = labsI (l.drop 0) (ahead l 0)) := labels_short
  clear hcell hf hR hv
  generalize labelsI l = res at *
  unfold maxLen at hn
  by_cases h8 : 10 < l.length
  · have hI : (10 : Int) < (l.length : Int) := by omega
    have HX : Hid (res = 2) := HL.out h8
    clear HC HL HS HK HF
    go_enter Tryd.func15, Tryd.ntmps15
    go_wp2_with fail
    go_ret
    exact ⟨by rw [HX.out]; rfl, Below.refl _ _⟩
  · have hI : ¬ (10 : Int) < (l.length : Int) := by omega
    have HX : Hid (res = labsI (l.drop 0) (ahead l 0)) := HS.out h8
    clear HL HS
    go_enter Tryd.func15, Tryd.ntmps15
    go_wp2_with fail
    go_loopw [3, 13] (fun y i wr => ∃ k : Nat, k ≤ l.length ∧ i = .int .i64 k ∧ y = .string (Ba (lastK l k)) ∧ labsI (l.drop 0) (ahead l 0) = labsI (l.drop k) (ahead l k) ∧ Below w.heap.size w wr) (fun _ i _ => l.length - (intOf i).toNat)
    case atStart => exact ⟨0, Nat.zero_le _, rfl, rfl, rfl, Below.refl _ _⟩
    case round =>
      obtain ⟨k, hk, rfl, rfl, hall, hbel⟩ := hrel
      have HA : Hid (labsI (l.drop 0) (ahead l 0) = labsI (l.drop k) (ahead l k)) := hall
      have HB : Hid (Below w.heap.size w wr) := hbel
      clear hall hbel
      by_cases hlt : k < l.length
      · obtain ⟨g, o, rfl, hlc, hc0⟩ := HC.out k hlt
        obtain ⟨c1, c2⟩ := hc0 wr HB.out k hlt
        have hz := (HF.out _ (List.getElem_mem hlt)).2
        have HP : Hid (∀ w2, Below wr.heap.size wr w2 → Calls Tryd.prog 28 #[.string (Ba l[k].1)] w2 fun e w' => e = .returned (.int .i64 (kI l[k].1)) ∧ Below w2.heap.size w2 w') := fun w2 hb => HK.out _ w2 (HB.out.trans (hb.mono HB.out.size))
        have HV : Hid (∀ w2, Calls Tryd.prog 29 #[.string (Ba l[k].2)] w2 fun e w' => e = .returned (.int .i64 (vI l[k].2)) ∧ w2 = w') := fun w2 => (vR_any _ w2 hz).mono fun e w' h => ⟨h.1, h.2.symm⟩
        have HN : Hid (lastK l (k + 1) = l[k].1) := lastK_next hlt
        have HN0 : Hid (∀ (h0 : 0 < k), lastK l k = (l[k - 1]'(by omega)).1) := fun h0 => lastK_pos h0 (by omega)
        have HRow : Hid (∀ (h0 : 0 < k), kI l[k].1 = 0 → vI l[k].2 = 0 → bless (lastK l k) l[k].1 = false → labsI (l.drop k) (ahead l k) = 1) := fun h0 a b f => labs_row hlt h0 a b (by rw [← HN0.out h0]; exact f)
        have HStep : Hid (kI l[k].1 = 0 → vI l[k].2 = 0 → (∀ (h0 : 0 < k), bless (lastK l k) l[k].1 = true) → labsI (l.drop k) (ahead l k) = labsI (l.drop (k + 1)) (ahead l (k + 1))) := fun a b f => labs_step hlt a b (fun h0 => by rw [← HN0.out h0]; exact f h0)
        have HKey : Hid (kI l[k].1 ≠ 0 → labsI (l.drop k) (ahead l k) = kI l[k].1) := fun a => labs_key hlt a
        have HVal : Hid (kI l[k].1 = 0 → vI l[k].2 ≠ 0 → labsI (l.drop k) (ahead l k) = vI l[k].2) := fun a b => labs_val hlt a b
        clear hc0 HN0 hz
        generalize lastK l k = lk at *
        generalize l[k] = x at c1 c2 HP HV HN HRow HStep HKey HVal
        obtain ⟨ln, xv⟩ := x
        dsimp only at c1 c2 HP HV HN HRow HStep HKey HVal
        have HN3 : Hid (Ba (lastK l (k + 1)) = Ba ln) := by show _ = _; rw [HN.out]
        have hb2 : Below wr.heap.size wr (wr.alloc (.cells #[.string (Ba ln), .string (Ba xv)] 50)) := (Below.refl _ _).alloc (Nat.le_refl _) _
        have HB2 : Hid (Below wr.heap.size wr (wr.alloc (.cells #[.string (Ba ln), .string (Ba xv)] 50))) := hb2
        clear hb2 HN
        by_cases hx : kI ln = 0
        · by_cases hy : vI xv = 0
          · by_cases h0 : 0 < k
            · have h0I : (0 : Int) < (k : Int) := by omega
              have hle := leq_bless ln lk
              cases hord : bless lk ln with
              | true =>
                have HT : Hid (labsI (l.drop k) (ahead l k) = labsI (l.drop (k + 1)) (ahead l (k + 1))) := HStep.out hx hy (fun _ => hord)
                have hxb : (kI ln != 0) = false := by simp [hx]
                have hyb : (vI xv != 0) = false := by simp [hy]
                rw [hord] at hle
                clear hx hy hord HRow HStep HKey HVal
                generalize kI ln = kx at *
                generalize vI xv = vx at *
                generalize Ba ln = sk at *
                generalize Ba xv = sv at *
                generalize Ba lk = sl at *
                go_wp2_with fail
                refine Calls.mono (HP.out _ HB2.out) ?_
                rintro e w1 ⟨rfl, b1⟩
                have HB1 : Hid (Below wr.heap.size wr w1) := HB2.out.trans (b1.mono HB2.out.size)
                have HB3 : Hid (Below w.heap.size w w1) := HB.out.trans (HB1.out.mono HB.out.size)
                obtain ⟨k0, k1⟩ := box2 b1
                clear b1
                go_wp2_with fail
                refine Calls.mono (HV.out _) ?_
                rintro e w2 ⟨rfl, rfl⟩
                go_wp2_with fail
                go_roundw
                case rel => exact ⟨k + 1, by omega, by go_num, by rw [HN3.out], HA.out.trans HT.out, HB3.out⟩
                case measure => simp [intOf]; omega
              | false =>
                have HX2 : Hid (res = 1) := by show _ = _; rw [HX.out, HA.out, HRow.out h0 hx hy hord]
                have hxb : (kI ln != 0) = false := by simp [hx]
                have hyb : (vI xv != 0) = false := by simp [hy]
                rw [hord] at hle
                clear hx hy hord HRow HStep HKey HVal
                generalize kI ln = kx at *
                generalize vI xv = vx at *
                generalize Ba ln = sk at *
                generalize Ba xv = sv at *
                generalize Ba lk = sl at *
                go_wp2_with fail
                refine Calls.mono (HP.out _ HB2.out) ?_
                rintro e w1 ⟨rfl, b1⟩
                have HB1 : Hid (Below wr.heap.size wr w1) := HB2.out.trans (b1.mono HB2.out.size)
                have HB3 : Hid (Below w.heap.size w w1) := HB.out.trans (HB1.out.mono HB.out.size)
                obtain ⟨k0, k1⟩ := box2 b1
                clear b1
                go_wp2_with fail
                refine Calls.mono (HV.out _) ?_
                rintro e w2 ⟨rfl, rfl⟩
                go_wp2_with fail
                go_ret
                exact ⟨by rw [HX2.out]; rfl, HB3.out⟩
            · have h0I : decide ((0 : Int) < (k : Int)) = false := by simp; omega
              have HT : Hid (labsI (l.drop k) (ahead l k) = labsI (l.drop (k + 1)) (ahead l (k + 1))) := HStep.out hx hy (fun h => absurd h h0)
              have hxb : (kI ln != 0) = false := by simp [hx]
              have hyb : (vI xv != 0) = false := by simp [hy]
              clear hx hy HRow HStep HKey HVal
              generalize kI ln = kx at *
              generalize vI xv = vx at *
              generalize Ba ln = sk at *
              generalize Ba xv = sv at *
              generalize Ba lk = sl at *
              go_wp2_with fail
              refine Calls.mono (HP.out _ HB2.out) ?_
              rintro e w1 ⟨rfl, b1⟩
              have HB1 : Hid (Below wr.heap.size wr w1) := HB2.out.trans (b1.mono HB2.out.size)
              have HB3 : Hid (Below w.heap.size w w1) := HB.out.trans (HB1.out.mono HB.out.size)
              obtain ⟨k0, k1⟩ := box2 b1
              clear b1
              go_wp2_with fail
              refine Calls.mono (HV.out _) ?_
              rintro e w2 ⟨rfl, rfl⟩
              go_wp2_with fail
              go_roundw
              case rel => exact ⟨k + 1, by omega, by go_num, by rw [HN3.out], HA.out.trans HT.out, HB3.out⟩
              case measure => simp [intOf]; omega
          · have HX2 : Hid (res = vI xv) := by show _ = _; rw [HX.out, HA.out, HVal.out hx hy]
            have hxb : (kI ln != 0) = false := by simp [hx]
            have hyb : (vI xv != 0) = true := by simpa using hy
            clear hx hy HRow HStep HKey HVal
            generalize kI ln = kx at *
            generalize vI xv = vx at *
            generalize Ba ln = sk at *
            generalize Ba xv = sv at *
            generalize Ba lk = sl at *
            go_wp2_with fail
            refine Calls.mono (HP.out _ HB2.out) ?_
            rintro e w1 ⟨rfl, b1⟩
            have HB1 : Hid (Below wr.heap.size wr w1) := HB2.out.trans (b1.mono HB2.out.size)
            have HB3 : Hid (Below w.heap.size w w1) := HB.out.trans (HB1.out.mono HB.out.size)
            obtain ⟨k0, k1⟩ := box2 b1
            clear b1
            go_wp2_with fail
            refine Calls.mono (HV.out _) ?_
            rintro e w2 ⟨rfl, rfl⟩
            go_wp2_with fail
            go_ret
            exact ⟨by rw [HX2.out]; rfl, HB3.out⟩
        · have HX2 : Hid (res = kI ln) := by show _ = _; rw [HX.out, HA.out, HKey.out hx]
          have hxb : (kI ln != 0) = true := by simpa using hx
          clear hx HRow HStep HKey HVal
          generalize kI ln = kx at *
          generalize vI xv = vx at *
          generalize Ba ln = sk at *
          generalize Ba xv = sv at *
          generalize Ba lk = sl at *
          go_wp2_with fail
          refine Calls.mono (HP.out _ HB2.out) ?_
          rintro e w1 ⟨rfl, b1⟩
          have HB1 : Hid (Below wr.heap.size wr w1) := HB2.out.trans (b1.mono HB2.out.size)
          have HB3 : Hid (Below w.heap.size w w1) := HB.out.trans (HB1.out.mono HB.out.size)
          obtain ⟨k0, k1⟩ := box2 b1
          clear b1
          go_wp2_with fail
          go_ret
          exact ⟨by rw [HX2.out]; rfl, HB3.out⟩
      · have HX2 : Hid (res = 0) := by show _ = _; rw [HX.out, HA.out, labs_end (by omega)]
        go_wp2_with fail
        go_ret
        exact ⟨by rw [HX2.out]; rfl, HB.out⟩
end Go.Proofs.YtglmffplnglkdaaDoor
