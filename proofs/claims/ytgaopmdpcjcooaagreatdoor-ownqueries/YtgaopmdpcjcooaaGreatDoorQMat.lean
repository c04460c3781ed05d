/- Several texts in one: QClos, QIdxM, QLabs, QMatch. -/
import Derived.Test.YtgaopmdpcjcooaaGreatDoorQHolds
import Derived.Deep.RegionHeld3
import Derived.Test.YtgaopmdpcjcooaaGreatDoorQMem
import Derived.Deep.QuietTactic
import Derived.BigQuiet
import Derived.Laws.Cover1
import Derived.Test.YtgaopmdpcjcooaaGreatDoorQCheck
/- Contract over this translation: the function that query.matches hands down. -/
namespace Go.Proofs.YtgaopmdpcjcooaaGreatDoor
open Go.RowKit
set_option linter.unusedVariables false
set_option linter.unusedSimpArgs false
/-- a box of three cells, and another cell, in all worlds that have grown -/
def QSt (b c : Nat) (x y z u : Value) (w' : World) : Prop := w'.cell? ⟨b, 0, none⟩ = some x ∧ w'.cell? ⟨b, 1, none⟩ = some y ∧ w'.cell? ⟨b, 2, none⟩ = some z ∧ w'.cell? ⟨c, 0, none⟩ = some u
theorem QSt.below {b c : Nat} {x y z u : Value} {w w' : World} (h : QSt b c x y z u w) (hb : b < w.heap.size) (hc : c < w.heap.size) (e : Below w.heap.size w w') : QSt b c x y z u w' := by
  obtain ⟨h1, h2, h3, h4⟩ := h
  refine ⟨?_, ?_, ?_, ?_⟩
  · rw [e.cell (p := ⟨b, 0, none⟩) hb]; exact h1
  · rw [e.cell (p := ⟨b, 1, none⟩) hb]; exact h2
  · rw [e.cell (p := ⟨b, 2, none⟩) hb]; exact h3
  · rw [e.cell (p := ⟨c, 0, none⟩) hc]; exact h4
set_option maxRecDepth 100000 in
set_option maxHeartbeats 4000000 in
theorem matchClos_any (r : Rq) (v : Value) (vl : Value) (ls : List Lb) (cb : Nat) (w : World) (hv : Strs w v r.2.2) (hl : Labs w vl ls) (hcb : cb < w.heap.size) (hcc : w.cell? ⟨cb, 0, none⟩ = some vl) :
    Calls Tryz.prog 48 #[.agg #[.string (Ba r.1), .int .i64 r.2.1, v], .pointer (some ⟨cb, 0, none⟩)] w fun e w' => e = .returned (.bool (!holdsB r (stateB ls r.1))) ∧ Below w.heap.size w w' := by
  obtain ⟨key, kd, vs⟩ := r
  obtain ⟨p, c, rfl, hn⟩ := hv.form
  obtain ⟨p2, c2, rfl, hn2, hlx⟩ := hl.open
  clear hlx
  obtain ⟨so, hso⟩ : ∃ so, stateB ls key = so := ⟨_, rfl⟩
  have hb0 : Below w.heap.size w (w.alloc (.cells #[.string (Ba key), .int .i64 kd, .slice p vs.length c] 35)) := (Below.refl _ _).alloc (Nat.le_refl _) _
  have hq0 : QSt w.heap.size cb (.string (Ba key)) (.int .i64 kd) (.slice p vs.length c) (.slice p2 ls.length c2) (w.alloc (.cells #[.string (Ba key), .int .i64 kd, .slice p vs.length c] 35)) := by
    obtain ⟨a1, a2, a3⟩ := box3 (w := w) (a := .string (Ba key)) (b := .int .i64 kd) (c := .slice p vs.length c) (t := 35) (Below.refl _ _)
    exact ⟨a1, a2, a3, by rw [hb0.cell (p := ⟨cb, 0, none⟩) hcb]; exact hcc⟩
  have hsz : (w.alloc (.cells #[.string (Ba key), .int .i64 kd, .slice p vs.length c] 35)).heap.size = w.heap.size + 1 := by simp
  have HS : Hid (∀ w1, Below w.heap.size w w1 ∧ w.heap.size < w1.heap.size ∧ QSt w.heap.size cb (.string (Ba key)) (.int .i64 kd) (.slice p vs.length c) (.slice p2 ls.length c2) w1 →
      Calls Tryz.prog 50 #[.slice p2 ls.length c2, .string (Ba key)] w1 fun e w' => e = .returned (stV so) ∧ Below w.heap.size w w' ∧ w.heap.size < w'.heap.size ∧ QSt w.heap.size cb (.string (Ba key)) (.int .i64 kd) (.slice p vs.length c) (.slice p2 ls.length c2) w') := by
    intro w1 ⟨h1, h2, h3⟩
    refine (state_of _ ls key w1 (hl.below h1)).mono ?_
    rintro e w2 ⟨rfl, b⟩
    have := b.size
    exact ⟨by rw [hso], h1.trans (b.mono h1.size), by omega, h3.below h2 (by omega) b⟩
  have HH : Hid (∀ w1, Below w.heap.size w w1 ∧ w.heap.size < w1.heap.size ∧ QSt w.heap.size cb (.string (Ba key)) (.int .i64 kd) (.slice p vs.length c) (.slice p2 ls.length c2) w1 →
      Calls Tryz.prog 49 #[.agg #[.string (Ba key), .int .i64 kd, .slice p vs.length c], stV so] w1 fun e w' => e = .returned (.bool (holdsB (key, kd, vs) so)) ∧ Below w.heap.size w w' ∧ w.heap.size < w'.heap.size ∧ QSt w.heap.size cb (.string (Ba key)) (.int .i64 kd) (.slice p vs.length c) (.slice p2 ls.length c2) w') := by
    intro w1 ⟨h1, h2, h3⟩
    refine (holds_of (key, kd, vs) _ so w1 (hv.below h1)).mono ?_
    rintro e w2 ⟨rfl, b⟩
    have := b.size
    exact ⟨rfl, h1.trans (b.mono h1.size), by omega, h3.below h2 (by omega) b⟩
  have HP0 : Hid (Below w.heap.size w (w.alloc (.cells #[.string (Ba key), .int .i64 kd, .slice p vs.length c] 35)) ∧ w.heap.size < (w.alloc (.cells #[.string (Ba key), .int .i64 kd, .slice p vs.length c] 35)).heap.size ∧ QSt w.heap.size cb (.string (Ba key)) (.int .i64 kd) (.slice p vs.length c) (.slice p2 ls.length c2) (w.alloc (.cells #[.string (Ba key), .int .i64 kd, .slice p vs.length c] 35))) :=
    ⟨hb0, by omega, hq0⟩
  show Calls _ _ _ _ fun e w' => e = .returned (.bool (!holdsB (key, kd, vs) (stateB ls key))) ∧ Below w.heap.size w w'
  rw [hso]
  clear hso hb0 hq0 hsz hv hl hcc hn hn2
  generalize holdsB (key, kd, vs) so = res at *
  unfold stV at HS HH
  generalize so.isSome = b1 at *
  generalize Ba (so.getD []) = b2 at *
  generalize Ba key = kk at *
  generalize vs.length = nv at *
  generalize ls.length = nl at *
  go_enter Tryz.func48, Tryz.ntmps48
  go_wp2_with fail
  obtain ⟨w0, hw0⟩ : ∃ w0, w0 = w.alloc (.cells #[.string kk, .int .i64 kd, .slice p nv c] 35) := ⟨_, rfl⟩
  rw [← hw0] at HP0 ⊢
  clear hw0
  have hS0 : Below w.heap.size w w0.drew ∧ w.heap.size < w0.drew.heap.size ∧ QSt w.heap.size cb (.string kk) (.int .i64 kd) (.slice p nv c) (.slice p2 nl c2) w0.drew := ⟨HP0.out.1.drew, HP0.out.2.1, HP0.out.2.2⟩
  go_region_held3 (fun w' => w'.cell? ⟨w.heap.size, 0, none⟩ = some (.string kk) ∧ w'.cell? ⟨w.heap.size, 1, none⟩ = some (.int .i64 kd) ∧ w'.cell? ⟨w.heap.size, 2, none⟩ = some (.slice p nv c) ∧ w'.cell? ⟨cb, 0, none⟩ = some (.slice p2 nl c2)) (first | assumption | exact (And.right (And.right (by assumption : Below w.heap.size w _ ∧ w.heap.size < _ ∧ QSt w.heap.size cb (.string kk) (.int .i64 kd) (.slice p nv c) (.slice p2 nl c2) _))) | go_keep)
    (first
      | (go_at_call 50; refine Calls.mono (HS.out _ (by assumption)) ?_; rintro e w11 ⟨rfl, hS1⟩)
      | (go_at_call 49; refine Calls.mono (HH.out _ (by assumption)) ?_; rintro e w12 ⟨rfl, hS2⟩))
  all_goals
    have HHe : Hid (Below w.heap.size w w12) := hS2.1
    go_wp2_with fail
    go_ret
    exact ⟨rfl, HHe.out⟩
end Go.Proofs.YtgaopmdpcjcooaaGreatDoor
/- Contracts over this translation: slices.IndexFunc and ContainsFunc at one function that is handed down. -/
namespace Go.Proofs.YtgaopmdpcjcooaaGreatDoor
open Go.RowKit
set_option linter.unusedVariables false
set_option linter.unusedSimpArgs false
theorem mt_any_hit {F : Rq → Bool} {l : List Rq} {k : Nat} (hk : k < l.length) (h : F l[k] = true) : (l.drop k).any F = true := by
  rw [List.drop_eq_getElem_cons hk, List.any_cons, h]
  rfl
theorem mt_any_step {F : Rq → Bool} {l : List Rq} {k : Nat} (hk : k < l.length) (h : F l[k] = false) : (l.drop k).any F = (l.drop (k + 1)).any F := by
  rw [List.drop_eq_getElem_cons hk, List.any_cons, h]
  rfl
theorem mt_any_end {F : Rq → Bool} {l : List Rq} {k : Nat} (hk : l.length ≤ k) : (l.drop k).any F = false := by
  rw [List.drop_eq_nil_of_le hk]
  rfl
set_option maxHeartbeats 2000000 in
theorem mt_indexFunc (F : Rq → Bool) (v : Value) (l : List Rq) (cb : Nat) (w : World) (hv : Reqs w v l)
    (hF : ∀ w1, Below w.heap.size w w1 → ∀ r ∈ l, ∀ u, Strs w1 u r.2.2 → Calls Tryz.prog 48 #[.agg #[.string (Ba r.1), .int .i64 r.2.1, u], .pointer (some ⟨cb, 0, none⟩)] w1 fun e w' => e = .returned (.bool (F r)) ∧ Below w1.heap.size w1 w') :
    Calls Tryz.prog 73 #[v, .func (.func 48) #[] #[.pointer (some ⟨cb, 0, none⟩)]] w fun e w' => (∃ n : Int, e = .returned (.int .i64 n) ∧ decide (0 ≤ n) = l.any F) ∧ Below w.heap.size w w' := by
  obtain ⟨p, c, rfl, hn, hcell⟩ := hv.open
  have HC : Hid (∀ k (hk : k < l.length), ∃ g o q d, p = some ⟨g, o, none⟩ ∧ l.length ≤ c ∧ ∀ w1, Below w.heap.size w w1 → w1.cell? ⟨g, o + k * 3, none⟩ = some (.string (Ba l[k].1)) ∧ w1.cell? ⟨g, o + k * 3 + 1, none⟩ = some (.int .i64 l[k].2.1) ∧ w1.cell? ⟨g, o + k * 3 + 2, none⟩ = some (.slice q l[k].2.2.length d) ∧
      Calls Tryz.prog 48 #[.agg #[.string (Ba l[k].1), .int .i64 l[k].2.1, .slice q l[k].2.2.length d], .pointer (some ⟨cb, 0, none⟩)] w1 fun e w' => e = .returned (.bool (F l[k])) ∧ Below w1.heap.size w1 w') := by
    intro k hk
    obtain ⟨g, o, q, d, h1, h2, h3⟩ := hcell k hk
    refine ⟨g, o, q, d, h1, h2, fun w1 hb => ?_⟩
    obtain ⟨c1, c2, c3, c4⟩ := h3 w1 hb
    exact ⟨c1, c2, c3, hF w1 hb _ (List.getElem_mem hk) _ c4⟩
  have HX : Hid (l.any F = (l.drop 0).any F) := rfl
  clear hcell hF hv
  generalize l.any F = res at *
  unfold maxLen at hn
  go_enter Tryz.func73, Tryz.ntmps73
  go_wp2_with fail
  go_loopw [8] (fun i wr => ∃ k : Nat, k ≤ l.length ∧ i = .int .i64 k ∧ (l.drop 0).any F = (l.drop k).any F ∧ Below w.heap.size w wr) (fun i _ => l.length - (intOf i).toNat)
  case atStart => exact ⟨0, Nat.zero_le _, rfl, rfl, Below.refl _ _⟩
  case round =>
    obtain ⟨k, hk, rfl, hall, hbel⟩ := hrel
    have HA : Hid ((l.drop 0).any F = (l.drop k).any F) := hall
    have HB : Hid (Below w.heap.size w wr) := hbel
    clear hall hbel
    by_cases hlt : k < l.length
    · obtain ⟨g, o, q, d, rfl, hlc, hc0⟩ := HC.out k hlt
      obtain ⟨c1, c2, c3, hcall⟩ := hc0 wr HB.out
      have HP : Hid (Calls Tryz.prog 48 #[.agg #[.string (Ba l[k].1), .int .i64 l[k].2.1, .slice q l[k].2.2.length d], .pointer (some ⟨cb, 0, none⟩)] wr fun e w' => e = .returned (.bool (F l[k])) ∧ Below wr.heap.size wr w') := hcall
      have HS : Hid (F l[k] = false → (l.drop k).any F = (l.drop (k + 1)).any F) := fun h => mt_any_step hlt h
      have HT : Hid (F l[k] = true → (l.drop k).any F = true) := fun h => mt_any_hit hlt h
      clear hc0 hcall
      generalize F l[k] = fr at HP HS HT
      generalize l[k] = x at c1 c2 c3 HP
      obtain ⟨xk, xd, xv⟩ := x
      dsimp only at c1 c2 c3 HP
      generalize xv.length = nv at c3 HP
      cases fr with
      | false =>
        go_wp2_with fail
        refine Calls.mono HP.out ?_
        rintro e w1 ⟨rfl, b1⟩
        have HB1 : Hid (Below w.heap.size w w1) := HB.out.trans (b1.mono HB.out.size)
        clear b1
        go_wp2_with fail
        go_roundw
        case rel => exact ⟨k + 1, by omega, by go_num, HA.out.trans (HS.out (by trivial)), HB1.out⟩
        case measure => simp [intOf]; omega
      | true =>
        have HX2 : Hid (res = true) := by show _ = _; rw [HX.out, HA.out, HT.out (by trivial)]
        go_wp2_with fail
        refine Calls.mono HP.out ?_
        rintro e w1 ⟨rfl, b1⟩
        have HB1 : Hid (Below w.heap.size w w1) := HB.out.trans (b1.mono HB.out.size)
        clear b1
        go_wp2_with fail
        go_ret
        exact ⟨⟨k, rfl, by rw [HX2.out]; simp⟩, HB1.out⟩
    · have HX2 : Hid (res = false) := by show _ = _; rw [HX.out, HA.out, mt_any_end (by omega)]
      go_wp2_with fail
      go_ret
      exact ⟨⟨-1, rfl, by rw [HX2.out]; rfl⟩, HB.out⟩
set_option maxHeartbeats 1000000 in
theorem mt_containsFunc (F : Rq → Bool) (v : Value) (l : List Rq) (cb : Nat) (w : World) (hv : Reqs w v l)
    (hF : ∀ w1, Below w.heap.size w w1 → ∀ r ∈ l, ∀ u, Strs w1 u r.2.2 → Calls Tryz.prog 48 #[.agg #[.string (Ba r.1), .int .i64 r.2.1, u], .pointer (some ⟨cb, 0, none⟩)] w1 fun e w' => e = .returned (.bool (F r)) ∧ Below w1.heap.size w1 w') :
    Calls Tryz.prog 47 #[v, .func (.func 48) #[] #[.pointer (some ⟨cb, 0, none⟩)]] w fun e w' => e = .returned (.bool (l.any F)) ∧ Below w.heap.size w w' := by
  have HI : Hid (Calls Tryz.prog 73 #[v, .func (.func 48) #[] #[.pointer (some ⟨cb, 0, none⟩)]] w fun e w' => (∃ n : Int, e = .returned (.int .i64 n) ∧ decide (0 ≤ n) = l.any F) ∧ Below w.heap.size w w') := mt_indexFunc F v l cb w hv hF
  obtain ⟨p, c, rfl, hn, hcell⟩ := hv.open
  clear hv hF hcell
  generalize l.any F = r at *
  generalize l.length = nl at *
  go_enter Tryz.func47, Tryz.ntmps47
  go_wp2_with fail
  refine Calls.mono HI.out ?_
  rintro e w1 ⟨⟨n, rfl, hn⟩, b⟩
  have HB : Hid (Below w.heap.size w w1) := b
  clear b
  go_wp2_with fail
  go_ret
  exact ⟨by rw [← hn]; rfl, HB.out⟩
end Go.Proofs.YtgaopmdpcjcooaaGreatDoor
/- Contracts over this translation: query.checkLabel, query.CheckLabels. -/
namespace Go.Proofs.YtgaopmdpcjcooaaGreatDoor
open Go.RowKit
set_option linter.unusedVariables false
set_option linter.unusedSimpArgs false
def labI (x : Lb) : Int := if kI x.1 ≠ 0 then kI x.1 else vI x.2
set_option maxHeartbeats 1000000 in
theorem lab_any (x : Lb) (w : World) (hf : x.1.length ≤ maxLen ∧ x.2.length ≤ maxLen) (hR : Room w) :
    Calls Tryz.prog 46 #[.agg #[.string (Ba x.1), .string (Ba x.2)]] w fun e w' => e = .returned (.int .i64 (labI x)) ∧ Below w.heap.size w w' := by
  obtain ⟨a, b⟩ := x
  have HK : Hid (∀ w1, Below w.heap.size w w1 → Calls Tryz.prog 58 #[.string (Ba a)] w1 fun e w' => e = .returned (.int .i64 (kI a)) ∧ Below w1.heap.size w1 w') := fun w1 hb => kI_any a w1 hf.1 (hR.below hb)
  have HV : Hid (∀ w1, Calls Tryz.prog 60 #[.string (Ba b)] w1 fun e w' => e = .returned (.int .i64 (vI b)) ∧ w' = w1) := fun w1 => vI_any b w1 hf.2
  have HE : Hid (labI (a, b) = if kI a ≠ 0 then kI a else vI b) := rfl
  have HB0 : Hid (Below w.heap.size w (w.alloc (.cells #[.string (Ba a), .string (Ba b)] 31))) := (Below.refl _ _).alloc (Nat.le_refl _) _
  clear hf hR
  generalize labI (a, b) = res at *
  by_cases h1 : kI a = 0
  · have hn1 : (kI a != 0) = false := by simp [h1]
    have HX : Hid (res = vI b) := by show _ = _; rw [HE.out, if_neg (by simp [h1])]
    go_enter Tryz.func46, Tryz.ntmps46
    go_wp2_with fail
    refine Calls.mono (HK.out _ HB0.out) ?_
    rintro e w1 ⟨rfl, b1⟩
    have HB1 : Hid (Below w.heap.size w w1) := HB0.out.trans (b1.mono HB0.out.size)
    obtain ⟨k0, k1⟩ := box2 b1
    clear b1
    go_wp2_with fail
    refine Calls.mono (HV.out _) ?_
    rintro e w2 ⟨rfl, rfl⟩
    go_wp2_with fail
    go_ret
    exact ⟨by rw [HX.out]; rfl, HB1.out⟩
  · have hn1 : (kI a != 0) = true := by simpa using h1
    have HX : Hid (res = kI a) := by show _ = _; rw [HE.out, if_pos h1]
    go_enter Tryz.func46, Tryz.ntmps46
    go_wp2_with fail
    refine Calls.mono (HK.out _ HB0.out) ?_
    rintro e w1 ⟨rfl, b1⟩
    have HB1 : Hid (Below w.heap.size w w1) := HB0.out.trans (b1.mono HB0.out.size)
    clear b1
    go_wp2_with fail
    go_ret
    exact ⟨by rw [HX.out]; rfl, HB1.out⟩
theorem labels_long {l : List Lb} (h : 10 < l.length) : labelsI l = 2 := if_pos h
theorem labels_short {l : List Lb} (h : ¬ 10 < l.length) : labelsI l = labsI (l.drop 0) (ahead l 0) := if_neg h
theorem labs_hit {l : List Lb} {k : Nat} (hk : k < l.length) {p : Option Bs} (h : labI l[k] ≠ 0) : labsI (l.drop k) p = labI l[k] := by
  unfold labI at h ⊢
  by_cases h1 : kI l[k].1 = 0
  · rw [if_neg (by simp [h1])] at h ⊢
    exact labs_val hk h1 h
  · rw [if_pos h1]
    exact labs_key hk h1
theorem lab_zero {x : Lb} (h : labI x = 0) : kI x.1 = 0 ∧ vI x.2 = 0 := by
  unfold labI at h
  by_cases h1 : kI x.1 = 0
  · rw [if_neg (by simp [h1])] at h
    exact ⟨h1, h⟩
  · rw [if_pos h1] at h
    exact absurd h h1
theorem wrap_pred {k : Nat} (h : 0 < k) (h2 : k ≤ 9223372036854775807) : IntKind.i64.wrap ((k : Int) - 1) = ((k - 1 : Nat) : Int) := by
  have e : (k : Int) - 1 = ((k - 1 : Nat) : Int) := by omega
  rw [e]
  simp only [IntKind.wrap, IntKind.bits, IntKind.signed]
  simp
  omega
theorem leq_bless (a b : Bs) : (Op.bytesLess (Ba a).toList (Ba b).toList || (Ba a).toList == (Ba b).toList) = !bless b a := by
  rw [ba_list, ba_list, Bool.eq_iff_iff]
  have h1 := bless_iff a b
  have h2 := bless_iff b a
  unfold bless at h1 h2 ⊢
  rw [Bool.or_eq_true, h1, Bool.not_eq_true', ← Bool.not_eq_true, h2, beq_iff_eq]
  constructor
  · rintro (h | rfl)
    · exact List.lt_asymm h
    · exact List.lt_irrefl _
  · intro h
    by_cases g : a < b
    · exact Or.inl g
    · exact Or.inr (List.le_antisymm (List.not_lt.1 h) (List.not_lt.1 g))
set_option maxHeartbeats 2000000 in
theorem labels_any (v : Value) (l : List Lb) (w : World) (hv : Labs w v l) (hf : ∀ x ∈ l, x.1.length ≤ maxLen ∧ x.2.length ≤ maxLen) (hR : Room w) :
    Calls Tryz.prog 27 #[v] w fun e w' => e = .returned (.int .i64 (labelsI l)) ∧ Below w.heap.size w w' := by
  obtain ⟨p, c, rfl, hn, hcell⟩ := hv.open
  have HC : Hid (∀ k (hk : k < l.length), ∃ g o, p = some ⟨g, o, none⟩ ∧ l.length ≤ c ∧ ∀ w1, Below w.heap.size w w1 → ∀ j (hj : j < l.length), w1.cell? ⟨g, o + j * 2, none⟩ = some (.string (Ba l[j].1)) ∧ w1.cell? ⟨g, o + j * 2 + 1, none⟩ = some (.string (Ba l[j].2))) := hcell
  have HP : Hid (∀ w1, Below w.heap.size w w1 → ∀ k (hk : k < l.length), Calls Tryz.prog 46 #[.agg #[.string (Ba l[k].1), .string (Ba l[k].2)]] w1 fun e w' => e = .returned (.int .i64 (labI l[k])) ∧ Below w1.heap.size w1 w') :=
    fun w1 hb k hk => lab_any l[k] w1 (hf _ (List.getElem_mem hk)) (hR.below hb)
  have HL : Hid (10 < l.length → labelsI l = 2) := labels_long
  have HS : Hid (¬ 10 < l.length → labelsI l = labsI (l.drop 0) (ahead l 0)) := labels_short
  clear hcell hf hR hv
  generalize labelsI l = res at *
  unfold maxLen at hn
  by_cases h8 : 10 < l.length
  · have hI : (10 : Int) < (l.length : Int) := by omega
    have HX : Hid (res = 2) := HL.out h8
    clear HC HL HS HP
    go_enter Tryz.func27, Tryz.ntmps27
    go_wp2_with fail
    go_ret
    exact ⟨by rw [HX.out]; rfl, Below.refl _ _⟩
  · have hI : ¬ (10 : Int) < (l.length : Int) := by omega
    have HX : Hid (res = labsI (l.drop 0) (ahead l 0)) := HS.out h8
    clear HL HS
    go_enter Tryz.func27, Tryz.ntmps27
    go_wp2_with fail
    go_loopw [11] (fun i wr => ∃ k : Nat, k ≤ l.length ∧ i = .int .i64 k ∧ labsI (l.drop 0) (ahead l 0) = labsI (l.drop k) (ahead l k) ∧ Below w.heap.size w wr) (fun i _ => l.length - (intOf i).toNat)
    case atStart => exact ⟨0, Nat.zero_le _, rfl, rfl, Below.refl _ _⟩
    case round =>
      obtain ⟨k, hk, rfl, hall, hbel⟩ := hrel
      have HA : Hid (labsI (l.drop 0) (ahead l 0) = labsI (l.drop k) (ahead l k)) := hall
      have HB : Hid (Below w.heap.size w wr) := hbel
      clear hall hbel
      by_cases hlt : k < l.length
      · obtain ⟨g, o, rfl, hlc, hc0⟩ := HC.out k hlt
        have HC0 : Hid (∀ w1, Below w.heap.size w w1 → ∀ j (hj : j < l.length), w1.cell? ⟨g, o + j * 2, none⟩ = some (.string (Ba l[j].1)) ∧ w1.cell? ⟨g, o + j * 2 + 1, none⟩ = some (.string (Ba l[j].2))) := hc0
        clear hc0
        obtain ⟨c1, c2⟩ := HC0.out wr HB.out k hlt
        have hb2 : Below wr.heap.size wr (wr.alloc (.cells #[.string (Ba l[k].1), .string (Ba l[k].2)] 31)) := (Below.refl _ _).alloc (Nat.le_refl _) _
        have HB2 : Hid (Below wr.heap.size wr (wr.alloc (.cells #[.string (Ba l[k].1), .string (Ba l[k].2)] 31))) := hb2
        have HQ : Hid (Calls Tryz.prog 46 #[.agg #[.string (Ba l[k].1), .string (Ba l[k].2)]] (wr.alloc (.cells #[.string (Ba l[k].1), .string (Ba l[k].2)] 31)) fun e w' => e = .returned (.int .i64 (labI l[k])) ∧ Below (wr.alloc (.cells #[.string (Ba l[k].1), .string (Ba l[k].2)] 31)).heap.size (wr.alloc (.cells #[.string (Ba l[k].1), .string (Ba l[k].2)] 31)) w') :=
          HP.out _ (HB.out.trans (hb2.mono HB.out.size)) k hlt
        clear hb2
        by_cases hx : labI l[k] = 0
        · have hxb : (labI l[k] != 0) = false := by simp [hx]
          obtain ⟨hx1, hx2⟩ := lab_zero hx
          by_cases h0 : 0 < k
          · have h0I : (0 : Int) < (k : Int) := by omega
            have hk1 : k - 1 < l.length := by omega
            have HM : Hid (∀ w1, Below w.heap.size w w1 → w1.cell? ⟨g, o + (k - 1) * 2, none⟩ = some (.string (Ba l[k - 1].1))) := fun w1 hb => (HC0.out w1 hb (k - 1) hk1).1
            have hkb : (k : Int) - 1 = ((k - 1 : Nat) : Int) := by omega
            have hw1 : IntKind.i64.wrap ((k - 1 : Nat) : Int) = ((k - 1 : Nat) : Int) := by have := wrap_pred h0 (by omega); rwa [hkb] at this
            have hkI : ((k - 1 : Nat) : Int) < (l.length : Int) := by omega
            cases hord : bless l[k - 1].1 l[k].1 with
            | true =>
              have HT : Hid (labsI (l.drop k) (ahead l k) = labsI (l.drop (k + 1)) (ahead l (k + 1))) := labs_step hlt hx1 hx2 (fun _ => hord)
              have hle := leq_bless l[k].1 l[k - 1].1
              rw [hord] at hle
              clear hx hx1 hx2 hord HP
              generalize labI l[k] = lx at *
              generalize Ba l[k].1 = sk at *
              generalize Ba l[k].2 = sv at *
              generalize Ba l[k - 1].1 = sp at *
              go_wp2_with fail
              refine Calls.mono HQ.out ?_
              rintro e w1 ⟨rfl, b1⟩
              have HB1 : Hid (Below w.heap.size w w1) := HB.out.trans ((HB2.out.trans (b1.mono HB2.out.size)).mono HB.out.size)
              obtain ⟨k0, k1⟩ := box2 b1
              have km := HM.out w1 HB1.out
              clear b1
              go_wp2_with fail
              go_quiet (fail)
              go_wp2_with fail
              go_roundw
              case rel => exact ⟨k + 1, by omega, by go_num, HA.out.trans HT.out, below_drewN HB1.out _⟩
              case measure => simp [intOf]; omega
            | false =>
              have HX2 : Hid (res = 1) := by show _ = _; rw [HX.out, HA.out, labs_row hlt h0 hx1 hx2 hord]
              have hle := leq_bless l[k].1 l[k - 1].1
              rw [hord] at hle
              clear hx hx1 hx2 hord HP
              generalize labI l[k] = lx at *
              generalize Ba l[k].1 = sk at *
              generalize Ba l[k].2 = sv at *
              generalize Ba l[k - 1].1 = sp at *
              go_wp2_with fail
              refine Calls.mono HQ.out ?_
              rintro e w1 ⟨rfl, b1⟩
              have HB1 : Hid (Below w.heap.size w w1) := HB.out.trans ((HB2.out.trans (b1.mono HB2.out.size)).mono HB.out.size)
              obtain ⟨k0, k1⟩ := box2 b1
              have km := HM.out w1 HB1.out
              clear b1
              go_wp2_with fail
              go_quiet (fail)
              go_wp2_with fail
              go_ret
              exact ⟨by rw [HX2.out]; rfl, below_drewN HB1.out _⟩
          · have h0I : decide ((0 : Int) < (k : Int)) = false := by simp; omega
            have HT : Hid (labsI (l.drop k) (ahead l k) = labsI (l.drop (k + 1)) (ahead l (k + 1))) := labs_step hlt hx1 hx2 (fun h => absurd h h0)
            clear hx hx1 hx2 HP
            generalize labI l[k] = lx at *
            generalize Ba l[k].1 = sk at *
            generalize Ba l[k].2 = sv at *
            go_wp2_with fail
            refine Calls.mono HQ.out ?_
            rintro e w1 ⟨rfl, b1⟩
            have HB1 : Hid (Below w.heap.size w w1) := HB.out.trans ((HB2.out.trans (b1.mono HB2.out.size)).mono HB.out.size)
            obtain ⟨k0, k1⟩ := box2 b1
            clear b1
            go_wp2_with fail
            go_quiet (fail)
            go_wp2_with fail
            go_roundw
            case rel => exact ⟨k + 1, by omega, by go_num, HA.out.trans HT.out, below_drewN HB1.out _⟩
            case measure => simp [intOf]; omega
        · have hxb : (labI l[k] != 0) = true := by simpa using hx
          have HX2 : Hid (res = labI l[k]) := by show _ = _; rw [HX.out, HA.out, labs_hit hlt hx]
          clear hx HP
          generalize labI l[k] = lx at *
          generalize Ba l[k].1 = sk at *
          generalize Ba l[k].2 = sv at *
          go_wp2_with fail
          refine Calls.mono HQ.out ?_
          rintro e w1 ⟨rfl, b1⟩
          have HB1 : Hid (Below w.heap.size w w1) := HB.out.trans ((HB2.out.trans (b1.mono HB2.out.size)).mono HB.out.size)
          clear b1
          go_wp2_with fail
          go_ret
          exact ⟨by rw [HX2.out]; rfl, HB1.out⟩
      · have HX2 : Hid (res = 0) := by show _ = _; rw [HX.out, HA.out, labs_end (by omega)]
        go_wp2_with fail
        go_ret
        exact ⟨by rw [HX2.out]; rfl, HB.out⟩
end Go.Proofs.YtgaopmdpcjcooaaGreatDoor
/- Contracts over this translation: query.matches, query.Match. -/
namespace Go.Proofs.YtgaopmdpcjcooaaGreatDoor
open Go.RowKit
set_option linter.unusedVariables false
set_option linter.unusedSimpArgs false
theorem match_any_not (l : List Rq) (ls : List Lb) : (!l.any fun r => !holdsB r (stateB ls r.1)) = matchB l ls := by
  unfold matchB
  rw [List.any_eq_not_all_not]
  simp
set_option maxHeartbeats 1000000 in
theorem matches_any (v vl : Value) (l : List Rq) (ls : List Lb) (w : World) (hv : Reqs w v l) (hl : Labs w vl ls) :
    Calls Tryz.prog 28 #[v, vl] w fun e w' => e = .returned (.bool (matchB l ls)) ∧ Below w.heap.size w w' := by
  have hb0 : Below w.heap.size w (w.alloc (.cells #[vl] 23)) := (Below.refl _ _).alloc (Nat.le_refl _) _
  have HF : Hid (Calls Tryz.prog 47 #[v, .func (.func 48) #[] #[.pointer (some ⟨w.heap.size, 0, none⟩)]] (w.alloc (.cells #[vl] 23)) fun e w' => e = .returned (.bool (l.any fun r => !holdsB r (stateB ls r.1))) ∧ Below (w.alloc (.cells #[vl] 23)).heap.size (w.alloc (.cells #[vl] 23)) w') := by
    refine mt_containsFunc _ v l w.heap.size _ (hv.below hb0) fun w1 hb r _ u hu => ?_
    exact matchClos_any r u vl ls w.heap.size w1 hu ((hl.below hb0).below hb) (by have := hb.size; simp at this; omega) (box1 hb)
  have HB0 : Hid (Below w.heap.size w (w.alloc (.cells #[vl] 23))) := hb0
  obtain ⟨p, c, rfl, hn, hcell⟩ := hv.open
  obtain ⟨p2, c2, rfl, hn2, hcell2⟩ := hl.open
  clear hv hl hcell hcell2 hb0
  rw [← match_any_not]
  generalize (l.any fun r => !holdsB r (stateB ls r.1)) = res at *
  generalize l.length = nl at *
  generalize ls.length = nl2 at *
  go_enter Tryz.func28, Tryz.ntmps28
  go_wp2_with fail
  refine Calls.mono HF.out ?_
  rintro e w1 ⟨rfl, b⟩
  have HB : Hid (Below w.heap.size w w1) := HB0.out.trans (b.mono HB0.out.size)
  clear b
  go_wp2_with fail
  go_ret
  exact ⟨rfl, HB.out⟩
def FitL (ls : List Lb) : Prop := ∀ x ∈ ls, x.1.length ≤ maxLen ∧ x.2.length ≤ maxLen
set_option maxHeartbeats 1000000 in
theorem match_any (v vl : Value) (l : List Rq) (ls : List Lb) (w : World) (hv : Reqs w v l) (hf : ∀ r ∈ l, Fit r) (hl : Labs w vl ls) (hfl : FitL ls) (hR : Room w) :
    Calls Tryz.prog 13 #[v, vl] w fun e w' => e = .returned (.tuple #[.bool (matchE l ls).1, .int .i64 (matchE l ls).2]) ∧ Below w.heap.size w w' := by
  have HC : Hid (Calls Tryz.prog 20 #[v] w fun e w' => e = .returned (.int .i64 (chkI l)) ∧ Below w.heap.size w w') := chk_any v l w hv hf hR
  have HL : Hid (∀ w1, Below w.heap.size w w1 → Calls Tryz.prog 27 #[vl] w1 fun e w' => e = .returned (.int .i64 (labelsI ls)) ∧ Below w1.heap.size w1 w') := fun w1 hb => labels_any vl ls w1 (hl.below hb) hfl (hR.below hb)
  have HM : Hid (∀ w1, Below w.heap.size w w1 → Calls Tryz.prog 28 #[v, vl] w1 fun e w' => e = .returned (.bool (matchB l ls)) ∧ Below w1.heap.size w1 w') := fun w1 hb => matches_any v vl l ls w1 (hv.below hb) (hl.below hb)
  obtain ⟨p, c, rfl, hn, hcell⟩ := hv.open
  obtain ⟨p2, c2, rfl, hn2, hcell2⟩ := hl.open
  clear hv hl hcell hcell2 hf hfl hR
  by_cases h1 : chkI l = 0
  · have hn1 : (chkI l != 0) = false := by simp [h1]
    by_cases h2 : labelsI ls = 0
    · have hn3 : (labelsI ls != 0) = false := by simp [h2]
      rw [matchE_ok h1 h2]
      clear h1 h2
      generalize chkI l = ce at *
      generalize labelsI ls = le at *
      generalize matchB l ls = mb at *
      generalize l.length = nl at *
      generalize ls.length = nl2 at *
      go_enter Tryz.func13, Tryz.ntmps13
      go_wp2_with fail
      refine Calls.mono HC.out ?_
      rintro e w1 ⟨rfl, b⟩
      have HB : Hid (Below w.heap.size w w1) := b
      clear b
      go_wp2_with fail
      refine Calls.mono (HL.out _ HB.out) ?_
      rintro e w2 ⟨rfl, b⟩
      have HB2 : Hid (Below w.heap.size w w2) := HB.out.trans (b.mono HB.out.size)
      clear b
      go_wp2_with fail
      refine Calls.mono (HM.out _ HB2.out) ?_
      rintro e w3 ⟨rfl, b⟩
      have HB3 : Hid (Below w.heap.size w w3) := HB2.out.trans (b.mono HB2.out.size)
      clear b
      go_wp2_with fail
      go_ret2
      exact ⟨rfl, HB3.out⟩
    · have hn3 : (labelsI ls != 0) = true := by simpa using h2
      rw [matchE_labs h1 h2]
      clear h1 h2 HM
      generalize chkI l = ce at *
      generalize labelsI ls = le at *
      generalize l.length = nl at *
      generalize ls.length = nl2 at *
      go_enter Tryz.func13, Tryz.ntmps13
      go_wp2_with fail
      refine Calls.mono HC.out ?_
      rintro e w1 ⟨rfl, b⟩
      have HB : Hid (Below w.heap.size w w1) := b
      clear b
      go_wp2_with fail
      refine Calls.mono (HL.out _ HB.out) ?_
      rintro e w2 ⟨rfl, b⟩
      have HB2 : Hid (Below w.heap.size w w2) := HB.out.trans (b.mono HB.out.size)
      clear b
      go_wp2_with fail
      go_ret2
      exact ⟨rfl, HB2.out⟩
  · have hn1 : (chkI l != 0) = true := by simpa using h1
    rw [matchE_chk h1]
    clear h1 HM HL
    generalize chkI l = ce at *
    generalize l.length = nl at *
    generalize ls.length = nl2 at *
    go_enter Tryz.func13, Tryz.ntmps13
    go_wp2_with fail
    refine Calls.mono HC.out ?_
    rintro e w1 ⟨rfl, b⟩
    have HB : Hid (Below w.heap.size w w1) := b
    clear b
    go_wp2_with fail
    go_ret2
    exact ⟨rfl, HB.out⟩
end Go.Proofs.YtgaopmdpcjcooaaGreatDoor
