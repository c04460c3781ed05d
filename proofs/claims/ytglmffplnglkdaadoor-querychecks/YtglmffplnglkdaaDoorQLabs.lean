/- Contracts over this translation: query.checkLabel, query.CheckLabels. -/
import Derived.Test.YtglmffplnglkdaaDoorQMem
import Derived.Deep.QuietTactic
import Derived.BigQuiet
import Derived.Laws.Cover1
namespace Go.Proofs.YtglmffplnglkdaaDoor
open Go.RowKit
set_option linter.unusedVariables false
set_option linter.unusedSimpArgs false
def labI (x : Lb) : Int := if kI x.1 ≠ 0 then kI x.1 else vI x.2
set_option maxHeartbeats 1000000 in
theorem lab_any (x : Lb) (w : World) (hf : x.1.length ≤ maxLen ∧ x.2.length ≤ maxLen) (hR : Room w) :
    Calls Tryd.prog 30 #[.agg #[.string (Ba x.1), .string (Ba x.2)]] w fun e w' => e = .returned (.int .i64 (labI x)) ∧ Below w.heap.size w w' := by
  obtain ⟨a, b⟩ := x
  have HK : Hid (∀ w1, Below w.heap.size w w1 → Calls Tryd.prog 45 #[.string (Ba a)] w1 fun e w' => e = .returned (.int .i64 (kI a)) ∧ Below w1.heap.size w1 w') := fun w1 hb => kI_any a w1 hf.1 (hR.below hb)
  have HV : Hid (∀ w1, Calls Tryd.prog 47 #[.string (Ba b)] w1 fun e w' => e = .returned (.int .i64 (vI b)) ∧ w' = w1) := fun w1 => vI_any b w1 hf.2
  have HE : Hid (labI (a, b) = if kI a ≠ 0 then kI a else vI b) := rfl
  have HB0 : Hid (Below w.heap.size w (w.alloc (.cells #[.string (Ba a), .string (Ba b)] 50))) := (Below.refl _ _).alloc (Nat.le_refl _) _
  clear hf hR
  generalize labI (a, b) = res at *
  by_cases h1 : kI a = 0
  · have hn1 : (kI a != 0) = false := by simp [h1]
    have HX : Hid (res = vI b) := by show _ = _; rw [HE.out, if_neg (by simp [h1])]
    go_enter Tryd.func30, Tryd.ntmps30
    go_wp2_with fail
    refine Calls.mono (HK.out _ HB0.out) ?_
    rintro e w1 ⟨rfl, b1⟩
    have HB1 : Hid (Below w.heap.size w w1) := HB0.out.trans (b1.mono HB0.out.size)
    obtain ⟨k0, k1⟩ := box2 b1
    clear b1
    go_wp2_with fail
    refine Calls.mono (HV.out _) ?_
    rintro e w2 ⟨rfl, rfl⟩
    go_wp2_with fail
    go_ret
    exact ⟨by rw [HX.out]; rfl, HB1.out⟩
  · have hn1 : (kI a != 0) = true := by simpa using h1
    have HX : Hid (res = kI a) := by show _ = _; rw [HE.out, if_pos h1]
    go_enter Tryd.func30, Tryd.ntmps30
    go_wp2_with fail
    refine Calls.mono (HK.out _ HB0.out) ?_
    rintro e w1 ⟨rfl, b1⟩
    have HB1 : Hid (Below w.heap.size w w1) := HB0.out.trans (b1.mono HB0.out.size)
    clear b1
    go_wp2_with fail
    go_ret
    exact ⟨by rw [HX.out]; rfl, HB1.out⟩
theorem labels_long {l : List Lb} (h : 10 < l.length) : labelsI l = 2 := if_pos h
theorem labels_short {l : List Lb} (h : ¬ 10 < l.length) : labelsI l = labsI (l.drop 0) (ahead l 0) := if_neg h
theorem labs_hit {l : List Lb} {k : Nat} (hk : k < l.length) {p : Option Bs} (h : labI l[k] ≠ 0) : labsI (l.drop k) p = labI l[k] := by
  unfold labI at h ⊢
  by_cases h1 : kI l[k].1 = 0
  · rw [if_neg (by simp [h1])] at h ⊢
    exact labs_val hk h1 h
  · rw [if_pos h1]
    exact labs_key hk h1
theorem lab_zero {x : Lb} (h : labI x = 0) : kI x.1 = 0 ∧ vI x.2 = 0 := by
  unfold labI at h
  by_cases h1 : kI x.1 = 0
  · rw [if_neg (by simp [h1])] at h
    exact ⟨h1, h⟩
  · rw [if_pos h1] at h
    exact absurd h h1
theorem wrap_pred {k : Nat} (h : 0 < k) (h2 : k ≤ 9223372036854775807) : IntKind.i64.wrap ((k : Int) - 1) = ((k - 1 : Nat) : Int) := by
  have e : (k : Int) - 1 = ((k - 1 : Nat) : Int) := by omega
  rw [e]
  simp only [IntKind.wrap, IntKind.bits, IntKind.signed]
  simp
  omega
theorem leq_bless (a b : Bs) : (Op.bytesLess (Ba a).toList (Ba b).toList || (Ba a).toList == (Ba b).toList) = !bless b a := by
  rw [ba_list, ba_list, Bool.eq_iff_iff]
  have h1 := bless_iff a b
  have h2 := bless_iff b a
  unfold bless at h1 h2 ⊢
  rw [Bool.or_eq_true, h1, Bool.not_eq_true', ← Bool.not_eq_true, h2, beq_iff_eq]
  constructor
  · rintro (h | rfl)
    · exact List.lt_asymm h
    · exact List.lt_irrefl _
  · intro h
    by_cases g : a < b
    · exact Or.inl g
    · exact Or.inr (List.le_antisymm (List.not_lt.1 h) (List.not_lt.1 g))
set_option maxHeartbeats 2000000 in
theorem labels_any (v : Value) (l : List Lb) (w : World) (hv : Labs w v l) (hf : ∀ x ∈ l, x.1.length ≤ maxLen ∧ x.2.length ≤ maxLen) (hR : Room w) :
    Calls Tryd.prog 14 #[v] w fun e w' => e = .returned (.int .i64 (labelsI l)) ∧ Below w.heap.size w w' := by
  obtain ⟨p, c, rfl, hn, hcell⟩ := hv.open
  have HC : Hid (∀ k (hk : k < l.length), ∃ g o, p = some ⟨g, o, none⟩ ∧ l.length ≤ c ∧ ∀ w1, Below w.heap.size w w1 → ∀ j (hj : j < l.length), w1.cell? ⟨g, o + j * 2, none⟩ = some (.string (Ba l[j].1)) ∧ w1.cell? ⟨g, o + j * 2 + 1, none⟩ = some (.string (Ba l[j].2))) := hcell
  have HP : Hid (∀ w1, Below w.heap.size w w1 → ∀ k (hk : k < l.length), Calls Tryd.prog 30 #[.agg #[.string (Ba l[k].1), .string (Ba l[k].2)]] w1 fun e w' => e = .returned (.int .i64 (labI l[k])) ∧ Below w1.heap.size w1 w') :=
    fun w1 hb k hk => lab_any l[k] w1 (hf _ (List.getElem_mem hk)) (hR.below hb)
  have HL : Hid (10 < l.length → labelsI l = 2) := labels_long
  have HS : Hid (¬ 10 < l.length → labelsI l = labsI (l.drop 0) (ahead l 0)) := labels_short
  clear hcell hf hR hv
  generalize labelsI l = res at *
  unfold maxLen at hn
  by_cases h8 : 10 < l.length
  · have hI : (10 : Int) < (l.length : Int) := by omega
    have HX : Hid (res = 2) := HL.out h8
    clear HC HL HS HP
    go_enter Tryd.func14, Tryd.ntmps14
    go_wp2_with fail
    go_ret
    exact ⟨by rw [HX.out]; rfl, Below.refl _ _⟩
  · have hI : ¬ (10 : Int) < (l.length : Int) := by omega
    have HX : Hid (res = labsI (l.drop 0) (ahead l 0)) := HS.out h8
    clear HL HS
    go_enter Tryd.func14, Tryd.ntmps14
    go_wp2_with fail
    go_loopw [11] (fun i wr => ∃ k : Nat, k ≤ l.length ∧ i = .int .i64 k ∧ labsI (l.drop 0) (ahead l 0) = labsI (l.drop k) (ahead l k) ∧ Below w.heap.size w wr) (fun i _ => l.length - (intOf i).toNat)
    case atStart => exact ⟨0, Nat.zero_le _, rfl, rfl, Below.refl _ _⟩
    case round =>
      obtain ⟨k, hk, rfl, hall, hbel⟩ := hrel
      have HA : Hid (labsI (l.drop 0) (ahead l 0) = labsI (l.drop k) (ahead l k)) := hall
      have HB : Hid (Below w.heap.size w wr) := hbel
      clear hall hbel
      by_cases hlt : k < l.length
      · obtain ⟨g, o, rfl, hlc, hc0⟩ := HC.out k hlt
        have HC0 : Hid (∀ w1, Below w.heap.size w w1 → ∀ j (hj : j < l.length), w1.cell? ⟨g, o + j * 2, none⟩ = some (.string (Ba l[j].1)) ∧ w1.cell? ⟨g, o + j * 2 + 1, none⟩ = some (.string (Ba l[j].2))) := hc0
        clear hc0
        obtain ⟨c1, c2⟩ := HC0.out wr HB.out k hlt
        have hb2 : Below wr.heap.size wr (wr.alloc (.cells #[.string (Ba l[k].1), .string (Ba l[k].2)] 50)) := (Below.refl _ _).alloc (Nat.le_refl _) _
        have HB2 : Hid (Below wr.heap.size wr (wr.alloc (.cells #[.string (Ba l[k].1), .string (Ba l[k].2)] 50))) := hb2
        have HQ : Hid (Calls Tryd.prog 30 #[.agg #[.string (Ba l[k].1), .string (Ba l[k].2)]] (wr.alloc (.cells #[.string (Ba l[k].1), .string (Ba l[k].2)] 50)) fun e w' => e = .returned (.int .i64 (labI l[k])) ∧ Below (wr.alloc (.cells #[.string (Ba l[k].1), .string (Ba l[k].2)] 50)).heap.size (wr.alloc (.cells #[.string (Ba l[k].1), .string (Ba l[k].2)] 50)) w') :=
          HP.out _ (HB.out.trans (hb2.mono HB.out.size)) k hlt
        clear hb2
        by_cases hx : labI l[k] = 0
        · have hxb : (labI l[k] != 0) = false := by simp [hx]
          obtain ⟨hx1, hx2⟩ := lab_zero hx
          by_cases h0 : 0 < k
          · have h0I : (0 : Int) < (k : Int) := by omega
            have hk1 : k - 1 < l.length := by omega
            have HM : Hid (∀ w1, Below w.heap.size w w1 → w1.cell? ⟨g, o + (k - 1) * 2, none⟩ = some (.string (Ba l[k - 1].1))) := fun w1 hb => (HC0.out w1 hb (k - 1) hk1).1
            have hkb : (k : Int) - 1 = ((k - 1 : Nat) : Int) := by omega
            have hw1 : IntKind.i64.wrap ((k - 1 : Nat) : Int) = ((k - 1 : Nat) : Int) := by have := wrap_pred h0 (by omega); rwa [hkb] at this
            have hkI : ((k - 1 : Nat) : Int) < (l.length : Int) := by omega
            cases hord : bless l[k - 1].1 l[k].1 with
            | true =>
              have HT : Hid (labsI (l.drop k) (ahead l k) = labsI (l.drop (k + 1)) (ahead l (k + 1))) := labs_step hlt hx1 hx2 (fun _ => hord)
              have hle := leq_bless l[k].1 l[k - 1].1
              rw [hord] at hle
              clear hx hx1 hx2 hord HP
              generalize labI l[k] = lx at *
              generalize Ba l[k].1 = sk at *
              generalize Ba l[k].2 = sv at *
              generalize Ba l[k - 1].1 = sp at *
              go_wp2_with fail
              refine Calls.mono HQ.out ?_
              rintro e w1 ⟨rfl, b1⟩
              have HB1 : Hid (Below w.heap.size w w1) := HB.out.trans ((HB2.out.trans (b1.mono HB2.out.size)).mono HB.out.size)
              obtain ⟨k0, k1⟩ := box2 b1
              have km := HM.out w1 HB1.out
              clear b1
              go_wp2_with fail
              go_quiet (fail)
              go_wp2_with fail
              go_roundw
              case rel => exact ⟨k + 1, by omega, by go_num, HA.out.trans HT.out, below_drewN HB1.out _⟩
              case measure => simp [intOf]; omega
            | false =>
              have HX2 : Hid (res = 1) := by show _ = _; rw [HX.out, HA.out, labs_row hlt h0 hx1 hx2 hord]
              have hle := leq_bless l[k].1 l[k - 1].1
              rw [hord] at hle
              clear hx hx1 hx2 hord HP
              generalize labI l[k] = lx at *
              generalize Ba l[k].1 = sk at *
              generalize Ba l[k].2 = sv at *
              generalize Ba l[k - 1].1 = sp at *
              go_wp2_with fail
              refine Calls.mono HQ.out ?_
              rintro e w1 ⟨rfl, b1⟩
              have HB1 : Hid (Below w.heap.size w w1) := HB.out.trans ((HB2.out.trans (b1.mono HB2.out.size)).mono HB.out.size)
              obtain ⟨k0, k1⟩ := box2 b1
              have km := HM.out w1 HB1.out
              clear b1
              go_wp2_with fail
              go_quiet (fail)
              go_wp2_with fail
              go_ret
              exact ⟨by rw [HX2.out]; rfl, below_drewN HB1.out _⟩
          · have h0I : decide ((0 : Int) < (k : Int)) = false := by simp; omega
            have HT : Hid (labsI (l.drop k) (ahead l k) = labsI (l.drop (k + 1)) (ahead l (k + 1))) := labs_step hlt hx1 hx2 (fun h => absurd h h0)
            clear hx hx1 hx2 HP
            generalize labI l[k] = lx at *
            generalize Ba l[k].1 = sk at *
            generalize Ba l[k].2 = sv at *
            go_wp2_with fail
            refine Calls.mono HQ.out ?_
            rintro e w1 ⟨rfl, b1⟩
            have HB1 : Hid (Below w.heap.size w w1) := HB.out.trans ((HB2.out.trans (b1.mono HB2.out.size)).mono HB.out.size)
            obtain ⟨k0, k1⟩ := box2 b1
            clear b1
            go_wp2_with fail
            go_quiet (fail)
            go_wp2_with fail
            go_roundw
            case rel => exact ⟨k + 1, by omega, by go_num, HA.out.trans HT.out, below_drewN HB1.out _⟩
            case measure => simp [intOf]; omega
        · have hxb : (labI l[k] != 0) = true := by simpa using hx
          have HX2 : Hid (res = labI l[k]) := by show _ = _; rw [HX.out, HA.out, labs_hit hlt hx]
          clear hx HP
          generalize labI l[k] = lx at *
          generalize Ba l[k].1 = sk at *
          generalize Ba l[k].2 = sv at *
          go_wp2_with fail
          refine Calls.mono HQ.out ?_
          rintro e w1 ⟨rfl, b1⟩
          have HB1 : Hid (Below w.heap.size w w1) := HB.out.trans ((HB2.out.trans (b1.mono HB2.out.size)).mono HB.out.size)
          clear b1
          go_wp2_with fail
          go_ret
          exact ⟨by rw [HX2.out]; rfl, HB1.out⟩
      · have HX2 : Hid (res = 0) := by show _ = _; rw [HX.out, HA.out, labs_end (by omega)]
        go_wp2_with fail
        go_ret
        exact ⟨by rw [HX2.out]; rfl, HB.out⟩
end Go.Proofs.YtglmffplnglkdaaDoor
