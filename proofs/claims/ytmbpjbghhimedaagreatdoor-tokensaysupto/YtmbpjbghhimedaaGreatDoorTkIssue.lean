/- Contracts over this translation: token.isKey, isTime, tell, sign, Issue. -/
import Derived.Test.YtmbpjbghhimedaaGreatDoorTkUser
namespace Go.Proofs.YtmbpjbghhimedaaGreatDoor
open Go.RowKit
set_option linter.unusedVariables false
set_option linter.unusedSimpArgs false
theorem isKey_any (key : Bs) (w : World) : Calls Tryz.prog 14 #[.string (Ba key)] w fun e w' => e = .returned (.bool (keyB key)) ∧ w' = w := by
  have hsz : (Ba key).size = key.length := ba_size key
  have hb : ((Ba key).toList == []) = decide (key = []) := by
    rw [ba_list, Bool.eq_iff_iff, beq_iff_eq, decide_eq_true_iff]
  have HE : Hid (keyB key = (decide (key ≠ []) && decide (key.length ≤ 64))) := rfl
  generalize keyB key = res at *
  by_cases h0 : key = []
  · have HX : Hid (res = false) := by show _ = _; rw [HE.out]; simp [h0]
    rw [decide_eq_true h0] at hb
    clear h0 HE
    generalize Ba key = y at *
    go_enter Tryz.func14, Tryz.ntmps14
    go_wp2_with fail
    go_ret
    exact ⟨by rw [HX.out]; rfl, rfl⟩
  · rw [decide_eq_false h0] at hb
    by_cases h1 : key.length ≤ 64
    · have HX : Hid (res = true) := by show _ = _; rw [HE.out]; simp [h0, h1]
      have hI : (key.length : Int) ≤ 64 := by omega
      clear h0 HE
      generalize Ba key = y at *
      go_enter Tryz.func14, Tryz.ntmps14
      go_wp2_with fail
      go_ret
      exact ⟨by rw [HX.out]; rfl, rfl⟩
    · have HX : Hid (res = false) := by show _ = _; rw [HE.out]; simp [h0, h1]
      have hI : ¬ (key.length : Int) ≤ 64 := by omega
      clear h0 HE
      generalize Ba key = y at *
      go_enter Tryz.func14, Tryz.ntmps14
      go_wp2_with fail
      go_ret
      exact ⟨by rw [HX.out]; rfl, rfl⟩
theorem isTime_any (t : Int) (w : World) : Calls Tryz.prog 15 #[.int .i64 t] w fun e w' => e = .returned (.bool (timeB t)) ∧ w' = w := by
  have HE : Hid (timeB t = (decide (0 ≤ t) && decide (t ≤ 1099511627776))) := rfl
  generalize timeB t = res at *
  by_cases h0 : 0 ≤ t
  · by_cases h1 : t ≤ 1099511627776
    · have HX : Hid (res = true) := by show _ = _; rw [HE.out]; simp [h0, h1]
      clear HE
      go_enter Tryz.func15, Tryz.ntmps15
      go_wp2_with fail
      go_ret
      exact ⟨by rw [HX.out]; rfl, rfl⟩
    · have HX : Hid (res = false) := by show _ = _; rw [HE.out]; simp [h0, h1]
      clear HE
      go_enter Tryz.func15, Tryz.ntmps15
      go_wp2_with fail
      go_ret
      exact ⟨by rw [HX.out]; rfl, rfl⟩
  · have HX : Hid (res = false) := by show _ = _; rw [HE.out]; simp [h0]
    clear HE
    go_enter Tryz.func15, Tryz.ntmps15
    go_wp2_with fail
    go_ret
    exact ⟨by rw [HX.out]; rfl, rfl⟩
theorem joins_any (v : Value) (vs : List Bs) (w : World) (hv : Strs w v vs) (h8 : vs.length ≤ 1000) (hl : ∀ x ∈ vs, x.length ≤ 20) :
    Calls Tryz.prog 19 #[v, .string ⟨#[44]⟩] w fun e w' => e = .returned (.string (Ba (Lib.join vs [44]))) ∧ Below w.heap.size w w' := by
  rcases hv with ⟨rfl, p, c, rfl⟩ | ⟨g, o, cap, rfl, hlc, hcm, hg, hcell⟩
  · refine (Tryz.strings_Join_none p c ⟨#[44]⟩ w).mono ?_
    rintro e w' ⟨rfl, rfl⟩
    exact ⟨rfl, Below.refl _ _⟩
  · have hm : (vs.map Ba).map (·.data.toList) = vs := by
      rw [List.map_map]
      have : ((fun x : ByteArray => x.data.toList) ∘ Ba) = id := by funext x; simp [Ba]
      rw [this, List.map_id]
    have hj := join_len20 vs hl
    have h := Tryz.strings_Join g o cap (vs.map Ba) ⟨#[44]⟩ w (fun j x hx => by
      rw [List.getElem?_map] at hx
      obtain ⟨s, hs, rfl⟩ := Option.map_eq_some_iff.1 hx
      exact hcell j s hs) hg (by rw [List.length_map]; omega) (by rw [List.length_map]; exact hlc) (by rw [hm]; show (Lib.join vs [44]).length ≤ _; omega)
    rw [hm, List.length_map] at h
    exact h
theorem itoa_any (u : Nat) (w : World) (hu : u ≤ 1099511627776) (hT : TkW w) : Calls Tryz.prog 34 #[.int .i64 (u : Int)] w fun e w' => e = .returned (.string (Ba (Lib.decDigits u))) ∧ Below w.heap.size w w' := by
  refine (Tryz.strconv_Itoa (u : Int) (by omega) (by omega) w (hT.tab w (Below.refl _ _))).mono ?_
  rintro e w' ⟨rfl, k, os, rfl⟩
  exact ⟨by rw [itoa_nat], Lib.below_grow _ _ (Nat.le_refl _) _ _⟩
set_option maxRecDepth 100000 in
set_option maxHeartbeats 4000000 in
theorem tell_any (n : Bs) (v : Value) (gs : List Bs) (u : Nat) (w : World) (hu : u ≤ 1099511627776) (hv : Strs w v gs) (hU : userI n gs = 0) (hT : TkW w) :
    Calls Tryz.prog 16 #[.agg #[.string (Ba n), v], .int .i64 (u : Int)] w fun e w' => e = .returned (.string (Ba (tellP n gs u))) ∧ Below w.heap.size w w' := by
  obtain ⟨hn0, hg6, hgs⟩ := user_ok hU
  have hnl := (nm_clean hn0).2.1
  have hjl := join_len20 gs (fun x hx => (nm_clean (hgs x hx)).2.1)
  have hdl := dec_len u hu
  obtain ⟨p, c, rfl, hln, hcell⟩ := hv.open
  obtain ⟨w0, hw0⟩ : ∃ w0, w0 = w.alloc (.cells #[.string (Ba n), .slice p gs.length c] 24) := ⟨_, rfl⟩
  have hB0 : Below w.heap.size w w0 := by rw [hw0]; exact (Below.refl _ _).alloc (Nat.le_refl _) _
  have HB0 : Hid (Below w.heap.size w w0) := hB0
  have HJ : Hid (∀ w1, Below w0.heap.size w0 w1 → Calls Tryz.prog 19 #[.slice p gs.length c, .string ⟨#[44]⟩] w1 fun e w' => e = .returned (.string (Ba (Lib.join gs [44]))) ∧ Below w0.heap.size w0 w') := fun w1 hb => by
    have b1 := hB0.trans (hb.mono hB0.size)
    refine (joins_any _ gs w1 (hv.below b1) (by omega) (fun x hx => (nm_clean (hgs x hx)).2.1)).mono ?_
    rintro e w' ⟨rfl, b⟩
    exact ⟨rfl, hb.trans (b.mono hb.size)⟩
  have HI : Hid (∀ w1, Below w0.heap.size w0 w1 → Calls Tryz.prog 34 #[.int .i64 (u : Int)] w1 fun e w' => e = .returned (.string (Ba (Lib.decDigits u))) ∧ Below w0.heap.size w0 w') := fun w1 hb => by
    have b1 := hB0.trans (hb.mono hB0.size)
    refine (itoa_any u w1 hu (hT.below b1)).mono ?_
    rintro e w' ⟨rfl, b⟩
    exact ⟨rfl, hb.trans (b.mono hb.size)⟩
  have HK : Hid (∀ w1, Below w0.heap.size w0 w1 → w1.cell? ⟨w.heap.size, 0, none⟩ = some (.string (Ba n)) ∧ w1.cell? ⟨w.heap.size, 1, none⟩ = some (.slice p gs.length c)) := fun w1 hb => by
    rw [hw0] at hb
    exact box2 hb
  have HR : Hid (Ba (tellP n gs u) = Ba n ++ ⟨#[46]⟩ ++ Ba (Lib.join gs [44]) ++ ⟨#[46]⟩ ++ Ba (Lib.decDigits u) ++ ⟨#[46]⟩) := by
    show _ = _
    rw [show (⟨#[46]⟩ : ByteArray) = Ba [46] from rfl, ba_append, ba_append, ba_append, ba_append, ba_append]
    rfl
  have hs1 : (Ba n).size ≤ 20 := by rw [ba_size]; exact hnl
  have hs2 : (Ba (Lib.join gs [44])).size ≤ 126 := by rw [ba_size]; omega
  have hs3 : (Ba (Lib.decDigits u)).size ≤ 13 := by rw [ba_size]; exact hdl
  clear hn0 hgs hnl hjl hdl hcell hv hB0 hU hT
  generalize Ba (tellP n gs u) = res at *
  generalize Ba (Lib.join gs [44]) = y2 at *
  generalize Ba (Lib.decDigits u) = y3 at *
  generalize hy1 : Ba n = y1 at *
  have z0 : (⟨#[46]⟩ : ByteArray).size = 1 := rfl
  have a1 : (y1 ++ ⟨#[46]⟩ : ByteArray).size = y1.size + 1 := by rw [ByteArray.size_append]; rfl
  have a2 : (y1 ++ ⟨#[46]⟩ ++ y2 : ByteArray).size = y1.size + 1 + y2.size := by rw [ByteArray.size_append, a1]
  have a3 : (y1 ++ ⟨#[46]⟩ ++ y2 ++ ⟨#[46]⟩ : ByteArray).size = y1.size + 1 + y2.size + 1 := by rw [ByteArray.size_append, a2]; rfl
  have a4 : (y1 ++ ⟨#[46]⟩ ++ y2 ++ ⟨#[46]⟩ ++ y3 : ByteArray).size = y1.size + 1 + y2.size + 1 + y3.size := by rw [ByteArray.size_append, a3]
  have n1 : ¬ (9223372036854775807 < y1.size + 1) := by omega
  have n2 : ¬ (9223372036854775807 < y1.size + 1 + y2.size) := by omega
  have n3 : ¬ (9223372036854775807 < y1.size + 1 + y2.size + 1) := by omega
  have n4 : ¬ (9223372036854775807 < y1.size + 1 + y2.size + 1 + y3.size) := by omega
  have n5 : ¬ (9223372036854775807 < y1.size + 1 + y2.size + 1 + y3.size + 1) := by omega
  clear a1 a2 a3 a4 z0
  go_enter Tryz.func16, Tryz.ntmps16
  go_wp2_with fail
  rw [← hw0]
  clear hw0
  have hS0 : Below w0.heap.size w0 w0.drew := (Below.refl _ _).drew

  go_region_held3 (fun w' => w'.cell? ⟨w.heap.size, 0, none⟩ = some (.string y1) ∧ w'.cell? ⟨w.heap.size, 1, none⟩ = some (.slice p gs.length c)) (first | assumption | exact HK.out _ (by assumption) | go_keep)
    (first
      | (go_at_call 19; refine Calls.mono (HJ.out _ (by assumption)) ?_; rintro e w11 ⟨rfl, hS1⟩)
      | (go_at_call 34; refine Calls.mono (HI.out _ (by assumption)) ?_; rintro e w12 ⟨rfl, hS2⟩))
  all_goals
    have HE : Hid (Below w.heap.size w w12) := HB0.out.trans (hS2.mono HB0.out.size)
    go_wp2_with fail
    go_ret
    exact ⟨by rw [HR.out]; rfl, HE.out⟩
theorem sign_any (key said : Bs) (w : World) (hk : key.length ≤ maxLen) (hs : said.length ≤ maxLen - 64) (hc : Cub w) :
    Calls Tryz.prog 17 #[.string (Ba key), .string (Ba said)] w fun e w' => e = .returned (.string (Ba (signP key said))) ∧ Below w.heap.size w w' := by
  have HM : Hid (Calls Tryz.prog 36 #[.string (Ba key), .string (Ba said)] w fun e w' => e = .returned (.string (Ba (macP key said))) ∧ Below w.heap.size w w') := mac_any key said w hk hs hc
  have HH : Hid (∀ w, Calls Tryz.prog 35 #[.string (Ba (macP key said))] w fun e w' => e = .returned (.string (Ba (signP key said))) ∧ Below w.heap.size w w') := fun w => hex_any _ w (by rw [macP_length]; decide)
  generalize Ba (signP key said) = y1 at *
  generalize Ba (macP key said) = y2 at *
  generalize Ba said = y3 at *
  generalize Ba key = y4 at *
  go_enter Tryz.func17, Tryz.ntmps17
  go_wp2_with fail
  refine Calls.mono HM.out ?_
  rintro e w1 ⟨rfl, b⟩
  have B1 : Hid (Below w.heap.size w w1) := b
  clear b
  go_wp2_with fail
  refine Calls.mono (HH.out _) ?_
  rintro e w2 ⟨rfl, b⟩
  have B2 : Hid (Below w.heap.size w w2) := B1.out.trans (b.mono B1.out.size)
  clear b B1
  go_wp2_with fail
  go_ret
  exact ⟨rfl, B2.out⟩
/-- what Issue answers, as a value -/
def issV (r : Int × Bs) : Value := .tuple #[.string (Ba r.2), .int .i64 r.1]
set_option maxRecDepth 100000 in
set_option maxHeartbeats 4000000 in
theorem issue_any (key n : Bs) (v : Value) (gs : List Bs) (u : Int) (w : World) (hk : key.length ≤ maxLen) (hn : n.length ≤ maxLen) (hv : Strs w v gs) (hg : ∀ g ∈ gs, g.length ≤ maxLen) (hT : TkW w) :
    Calls Tryz.prog 6 #[.string (Ba key), .agg #[.string (Ba n), v], .int .i64 u] w fun e w' => e = .returned (issV (issP key n gs u)) ∧ Below w.heap.size w w' := by
  have HK : Hid (∀ w, Calls Tryz.prog 14 #[.string (Ba key)] w fun e w' => e = .returned (.bool (keyB key)) ∧ w' = w) := fun w => isKey_any key w
  have HI : Hid (∀ w, Calls Tryz.prog 15 #[.int .i64 u] w fun e w' => e = .returned (.bool (timeB u)) ∧ w' = w) := fun w => isTime_any u w
  have hvf := hv.form
  obtain ⟨p, c, rfl, hln⟩ := hvf
  obtain ⟨w0, hw0⟩ : ∃ w0, w0 = w.alloc (.cells #[.string (Ba n), .slice p gs.length c] 24) := ⟨_, rfl⟩
  have hB0 : Below w.heap.size w w0 := by rw [hw0]; exact (Below.refl _ _).alloc (Nat.le_refl _) _
  have HB0 : Hid (Below w.heap.size w w0) := hB0
  have HU : Hid (Calls Tryz.prog 11 #[.agg #[.string (Ba n), .slice p gs.length c]] w0 fun e w' => e = .returned (.int .i64 (userI n gs)) ∧ Below w0.heap.size w0 w') := user_any n _ gs w0 hn (hv.below hB0) hg
  have HTl : Hid (∀ w1, Below w0.heap.size w0 w1 → userI n gs = 0 → timeB u = true → Calls Tryz.prog 16 #[.agg #[.string (Ba n), .slice p gs.length c], .int .i64 u] w1 fun e w' => e = .returned (.string (Ba (tellP n gs u.toNat))) ∧ Below w0.heap.size w0 w') := fun w1 hb h1 h2 => by
    have b1 := hB0.trans (hb.mono hB0.size)
    have ht := timeB_iff.1 h2
    have h := tell_any n (.slice p gs.length c) gs u.toNat w1 (by omega) (hv.below b1) h1 (hT.below b1)
    rw [show ((u.toNat : Nat) : Int) = u by omega] at h
    refine h.mono ?_
    rintro e w' ⟨rfl, b⟩
    exact ⟨rfl, hb.trans (b.mono hb.size)⟩
  have HS : Hid (∀ w1, Below w0.heap.size w0 w1 → userI n gs = 0 → timeB u = true → Calls Tryz.prog 17 #[.string (Ba key), .string (Ba (tellP n gs u.toNat))] w1 fun e w' => e = .returned (.string (Ba (signP key (tellP n gs u.toNat)))) ∧ Below w0.heap.size w0 w') := fun w1 hb h1 h2 => by
    have b1 := hB0.trans (hb.mono hB0.size)
    have ht := timeB_iff.1 h2
    have hl := tell_len (u := u.toNat) h1 (by omega)
    refine (sign_any key _ w1 hk (by unfold maxLen; omega) (hT.below b1).cub).mono ?_
    rintro e w' ⟨rfl, b⟩
    exact ⟨rfl, hb.trans (b.mono hb.size)⟩
  have HK0 : Hid (∀ w1, Below w0.heap.size w0 w1 → w1.cell? ⟨w.heap.size, 0, none⟩ = some (.string (Ba n)) ∧ w1.cell? ⟨w.heap.size, 1, none⟩ = some (.slice p gs.length c)) := fun w1 hb => by
    rw [hw0] at hb
    exact box2 hb
  have hk00 := HK0.out w0 (Below.refl _ _)
  have HE : Hid (issP key n gs u = if keyB key = false then (1, []) else if userI n gs ≠ 0 then (userI n gs, []) else if timeB u = false then (1, []) else (0, tellP n gs u.toNat ++ signP key (tellP n gs u.toNat))) := rfl
  have HL : Hid (userI n gs = 0 → timeB u = true → (tellP n gs u.toNat).length ≤ 200 ∧ (signP key (tellP n gs u.toNat)).length = 64) := fun h1 h2 => by
    have ht := timeB_iff.1 h2
    exact ⟨tell_len h1 (by omega), by rw [signP, hexP_length, macP_length]⟩
  have HCat : Hid (Ba (tellP n gs u.toNat ++ signP key (tellP n gs u.toNat)) = Ba (tellP n gs u.toNat) ++ Ba (signP key (tellP n gs u.toNat))) := (ba_append _ _).symm
  clear hv hg hT hB0
  generalize issP key n gs u = res at *
  unfold maxLen at hk hn hln
  obtain ⟨k00, k01⟩ := hk00
  generalize hui : userI n gs = ui at *
  clear hui
  generalize tellP n gs u.toNat = tl at *
  generalize signP key tl = sg at *
  cases hkb : keyB key with
  | false =>
    have HX : Hid (res = (1, [])) := by show _ = _; rw [HE.out, if_pos hkb]
    clear HE HTl HS HL HCat
    rw [hkb] at HK
    generalize Ba key = y1 at *
    generalize Ba n = y2 at *
    go_enter Tryz.func6, Tryz.ntmps6
    go_wp2_with fail
    rw [← hw0]
    clear hw0
    refine Calls.mono (HK.out _) ?_
    rintro e w1 ⟨rfl, rfl⟩
    go_wp2_with fail
    go_ret2
    exact ⟨by rw [HX.out]; rfl, HB0.out⟩
  | true =>
    rw [hkb] at HK
    by_cases hu0 : ui = 0
    · have hu1 : (ui != 0) = false := by simp [hu0]
      cases htb : timeB u with
      | false =>
        have HX : Hid (res = (1, [])) := by show _ = _; rw [HE.out, if_neg (by simp [hkb]), if_neg (by simp [hu0]), if_pos htb]
        clear HE HTl HS HL HCat
        rw [htb] at HI
        generalize Ba key = y1 at *
        generalize Ba n = y2 at *
        go_enter Tryz.func6, Tryz.ntmps6
        go_wp2_with fail
        rw [← hw0]
        clear hw0
        refine Calls.mono (HK.out _) ?_
        rintro e w1 ⟨rfl, rfl⟩
        go_wp2_with fail
        refine Calls.mono HU.out ?_
        rintro e w2 ⟨rfl, b⟩
        have B2 : Hid (Below w.heap.size w w2) := HB0.out.trans (b.mono HB0.out.size)
        clear b
        go_wp2_with fail
        refine Calls.mono (HI.out _) ?_
        rintro e w3 ⟨rfl, rfl⟩
        go_wp2_with fail
        go_ret2
        exact ⟨by rw [HX.out]; rfl, B2.out⟩
      | true =>
        have HX : Hid (res = (0, tl ++ sg)) := by show _ = _; rw [HE.out, if_neg (by simp [hkb]), if_neg (by simp [hu0]), if_neg (by simp [htb])]
        obtain ⟨l1, l2⟩ := HL.out hu0 htb
        have HT2 : Hid (∀ w1, Below w0.heap.size w0 w1 → Calls Tryz.prog 16 #[.agg #[.string (Ba n), .slice p gs.length c], .int .i64 u] w1 fun e w' => e = .returned (.string (Ba tl)) ∧ Below w0.heap.size w0 w') := fun w1 hb => HTl.out w1 hb hu0 htb
        have HS2 : Hid (∀ w1, Below w0.heap.size w0 w1 → Calls Tryz.prog 17 #[.string (Ba key), .string (Ba tl)] w1 fun e w' => e = .returned (.string (Ba sg)) ∧ Below w0.heap.size w0 w') := fun w1 hb => HS.out w1 hb hu0 htb
        have s1 : (Ba tl).size ≤ 200 := by rw [ba_size]; exact l1
        have s2 : (Ba sg).size = 64 := by rw [ba_size]; exact l2
        have hbig : ¬ (9223372036854775807 < (Ba tl).size + (Ba sg).size) := by omega
        clear HE HTl HS HL l1 l2
        rw [htb] at HI
        generalize hcat : Ba (tl ++ sg) = yc at *
        generalize Ba tl = yt at *
        generalize Ba sg = ys at *
        generalize Ba key = y1 at *
        generalize Ba n = y2 at *
        go_enter Tryz.func6, Tryz.ntmps6
        go_wp2_with fail
        rw [← hw0]
        clear hw0
        refine Calls.mono (HK.out _) ?_
        rintro e w1 ⟨rfl, rfl⟩
        go_wp2_with fail
        refine Calls.mono HU.out ?_
        rintro e w2 ⟨rfl, b⟩
        have B2 : Hid (Below w1.heap.size w1 w2) := b
        clear b
        obtain ⟨c0, c1⟩ := HK0.out _ B2.out
        clear k00 k01
        go_wp2_with fail
        refine Calls.mono (HI.out _) ?_
        rintro e w3 ⟨rfl, rfl⟩
        go_wp2_with fail
        refine Calls.mono (HT2.out _ B2.out) ?_
        rintro e w4 ⟨rfl, b⟩
        have B4 : Hid (Below w1.heap.size w1 w4) := b
        clear b c0 c1
        go_wp2_with fail
        refine Calls.mono (HS2.out _ B4.out) ?_
        rintro e w5 ⟨rfl, b⟩
        have B5 : Hid (Below w.heap.size w w5) := HB0.out.trans (b.mono HB0.out.size)
        clear b
        go_wp2_with fail
        go_ret2
        exact ⟨by rw [HX.out, issV, hcat, HCat.out]; rfl, B5.out⟩
    · have hu1 : (ui != 0) = true := by simp [hu0]
      have HX : Hid (res = (ui, [])) := by show _ = _; rw [HE.out, if_neg (by simp [hkb]), if_pos hu0]
      clear HE HTl HS HL HCat
      generalize Ba key = y1 at *
      generalize Ba n = y2 at *
      go_enter Tryz.func6, Tryz.ntmps6
      go_wp2_with fail
      rw [← hw0]
      clear hw0
      refine Calls.mono (HK.out _) ?_
      rintro e w1 ⟨rfl, rfl⟩
      go_wp2_with fail
      refine Calls.mono HU.out ?_
      rintro e w2 ⟨rfl, b⟩
      have B2 : Hid (Below w.heap.size w w2) := HB0.out.trans (b.mono HB0.out.size)
      clear b
      go_wp2_with fail
      go_ret2
      exact ⟨by rw [HX.out]; rfl, B2.out⟩
end Go.Proofs.YtmbpjbghhimedaaGreatDoor
