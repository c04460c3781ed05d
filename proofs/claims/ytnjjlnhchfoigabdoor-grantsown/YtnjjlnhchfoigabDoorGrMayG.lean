/- Contract over this translation: grants.MayGrant. -/
import Derived.Test.YtnjjlnhchfoigabDoorGrBey
import Derived.Test.YtnjjlnhchfoigabDoorGrTop
namespace Go.Proofs.YtnjjlnhchfoigabDoor
open Go.RowKit Go.Maps
set_option linter.unusedVariables false
set_option linter.unusedSimpArgs false
theorem rule_small {r : Rl} (hf : FitR r) (h : ruleI r = 0) : SmR r := by
  unfold ruleI at h
  have h1 := (orE_zero.1 h).1
  unfold ifE at h1
  have hb : bigB r = false := by
    cases hb : bigB r with
    | false => rfl
    | true => rw [hb] at h1; cases h1
  unfold bigB at hb
  simp only [Bool.or_eq_false_iff, decide_eq_false_iff_not] at hb
  exact ⟨hf, by omega, by omega, by omega⟩
theorem rules_each {l : List Rl} (h : rulesI l = 0) : ∀ r ∈ l, ruleI r = 0 := by
  unfold rulesI at h
  exact firstE_zero.1 (orE_zero.1 h).2
theorem roleOfG_mem {rs : List Ro} {b : Bi} {r : Rl} (h : r ∈ roleOf rs b) : ∃ x ∈ rs, r ∈ x.2.2 := by
  induction rs with
  | nil => cases h
  | cons y l ih =>
    rw [roleOf] at h
    split at h
    · exact ⟨y, List.mem_cons_self, h⟩
    · obtain ⟨x, hx, hr⟩ := ih h
      exact ⟨x, List.mem_cons_of_mem _ hx, hr⟩
theorem held_valid {rs : List Ro} {bs : List Bi} {n : Bs} {gs : List Bs} {sp : Bs} (h : grI rs bs = 0) (hf : ∀ r ∈ rs, FitO r) : ∀ r ∈ heldP rs bs n gs sp, ruleI r = 0 ∧ FitR r := fun r hr => by
  obtain ⟨b, hb, _, h2⟩ := mem_held.1 hr
  obtain ⟨x, hx, hrx⟩ := roleOfG_mem h2
  exact ⟨rules_each ((gr_ok h).2.1 x hx) r hrx, (hf x hx).2.2 r hrx⟩
def escA : Ak := ([101, 115, 99, 97, 108, 97, 116, 101], [114, 111, 108, 101, 115], [], [])
def beyB (H : List Rl) (r : Rl) : Bool := !coversP H r
def mayTail (H l : List Rl) : Int := if allB H escA = true then 0 else if l.any (beyB H) = true then 14 else 0
/-- what MayGrant answers -/
def mayGI (rs : List Ro) (bs : List Bi) (n : Bs) (gs : List Bs) (sp : Bs) (l : List Rl) : Int := orE (whyI rs bs n gs sp) (orE (rulesI l) (mayTail (heldP rs bs n gs sp) l))
theorem anyR_start {l : List Rl} (d : Rl → Bool) : l.any d = (l.drop 0).any d := rfl
theorem anyR_hit {l : List Rl} {d : Rl → Bool} {k : Nat} (hk : k < l.length) (h : d l[k] = true) : (l.drop k).any d = true := by
  rw [List.drop_eq_getElem_cons hk, List.any_cons, h]; rfl
theorem anyR_step {l : List Rl} {d : Rl → Bool} {k : Nat} (hk : k < l.length) (h : d l[k] = false) : (l.drop k).any d = (l.drop (k + 1)).any d := by
  rw [List.drop_eq_getElem_cons hk, List.any_cons, h]; rfl
theorem anyR_end {l : List Rl} {d : Rl → Bool} {k : Nat} (hk : l.length ≤ k) : (l.drop k).any d = false := by
  rw [List.drop_eq_nil_of_le hk]; rfl
/-- what the function that is handed over tells -/
abbrev TellsR (c1 : Value) (d : Rl → Bool) (w : World) (l : List Rl) : Prop := ∀ (w1 : World) (a b c : Value) (r : Rl), Below w.heap.size w w1 → r ∈ l → Strs w1 a r.1 → Strs w1 b r.2.1 → Strs w1 c r.2.2 → Calls Tryd.prog 20 #[.agg #[a, b, c], c1] w1 fun e w' => e = .returned (.bool (d r)) ∧ Below w1.heap.size w1 w'
set_option maxRecDepth 100000 in
set_option maxHeartbeats 4000000 in
theorem indexR_any (v c1 : Value) (l : List Rl) (d : Rl → Bool) (w : World) (hv : Rls w v l) (hl : l.length ≤ 1048576) (hd : TellsR c1 d w l) :
    Calls Tryd.prog 42 #[v, .func (.func 20) #[] #[c1]] w fun e w' => (∃ n : Int, e = .returned (.int .i64 n) ∧ decide (0 ≤ n) = l.any d) ∧ Below w.heap.size w w' := by
  obtain ⟨p, c, rfl, hn, hcell⟩ := rls_open hv
  have HC : Hid (∀ k (hk : k < l.length), ∃ g o, p = some ⟨g, o, none⟩ ∧ l.length ≤ c ∧ g < w.heap.size ∧ ∀ w1, Below w.heap.size w w1 → ∃ p1 n1 c1' p2 n2 c2 p3 n3 c3,
      w1.cell? ⟨g, o + k * 3, none⟩ = some (.slice p1 n1 c1') ∧ w1.cell? ⟨g, o + k * 3 + 1, none⟩ = some (.slice p2 n2 c2) ∧ w1.cell? ⟨g, o + k * 3 + 2, none⟩ = some (.slice p3 n3 c3) ∧
      Calls Tryd.prog 20 #[.agg #[.slice p1 n1 c1', .slice p2 n2 c2, .slice p3 n3 c3], c1] w1 fun e w' => e = .returned (.bool (d l[k])) ∧ Below w1.heap.size w1 w') := by
    intro k hk
    obtain ⟨g, o, h1, h2, h3, h4⟩ := hcell k hk
    refine ⟨g, o, h1, h2, h3, fun w1 hb => ?_⟩
    obtain ⟨p1, n1, c1', p2, n2, c2, p3, n3, c3, k1, k2, k3, s1, s2, s3⟩ := h4 w1 hb
    exact ⟨p1, n1, c1', p2, n2, c2, p3, n3, c3, k1, k2, k3, hd w1 _ _ _ l[k] hb (List.getElem_mem hk) s1 s2 s3⟩
  have HX : Hid (l.any d = (l.drop 0).any d) := rfl
  have HS0 : Hid (∀ k (hk : k < l.length), d l[k] = false → (l.drop k).any d = (l.drop (k + 1)).any d) := fun k hk h => anyR_step hk h
  have HT0 : Hid (∀ k (hk : k < l.length), d l[k] = true → (l.drop k).any d = true) := fun k hk h => anyR_hit hk h
  have HEnd : Hid (∀ k, l.length ≤ k → (l.drop k).any d = false) := fun k hk => anyR_end hk
  clear hcell hv hd
  generalize l.any d = res at *
  go_enter Tryd.func42, Tryd.ntmps42
  go_wp2_with fail
  go_loopw [8] (fun i wr => ∃ k : Nat, k ≤ l.length ∧ i = .int .i64 k ∧ res = (l.drop k).any d ∧ Below w.heap.size w wr) (fun i _ => l.length - (intOf i).toNat)
  case atStart => exact ⟨0, Nat.zero_le _, rfl, HX.out, Below.refl _ _⟩
  case round =>
    obtain ⟨k, hk, rfl, hall, hbel⟩ := hrel
    have HA : Hid (res = (l.drop k).any d) := hall
    have HB : Hid (Below w.heap.size w wr) := hbel
    clear hall hbel
    by_cases hlt : k < l.length
    · obtain ⟨g, o, rfl, hlc, _, hc0⟩ := HC.out k hlt
      obtain ⟨p1, n1, c1', p2, n2, c2, p3, n3, c3, k1, k2, k3, hcall⟩ := hc0 wr HB.out
      have HS := HS0.out k hlt
      have HT := HT0.out k hlt
      have hkI : (k : Int) < (l.length : Int) := by omega
      generalize d l[k] = pr at hcall HS HT
      have HP : Hid (Calls Tryd.prog 20 #[.agg #[.slice p1 n1 c1', .slice p2 n2 c2, .slice p3 n3 c3], c1] wr fun e w' => e = .returned (.bool pr) ∧ Below wr.heap.size wr w') := hcall
      clear hc0 hcall
      cases pr with
      | false =>
        have HN : Hid (res = (l.drop (k + 1)).any d) := HA.out.trans (HS rfl)
        clear HS HT
        go_wp2_with fail
        refine Calls.mono HP.out ?_
        rintro e w1 ⟨rfl, b1⟩
        have HB1 : Hid (Below w.heap.size w w1) := HB.out.trans (b1.mono HB.out.size)
        clear b1
        go_wp2_with fail
        go_roundw
        case rel => exact ⟨k + 1, by omega, by go_num, HN.out, HB1.out⟩
        case measure => simp [intOf]; omega
      | true =>
        have HX2 : Hid (res = true) := HA.out.trans (HT rfl)
        clear HS HT
        go_wp2_with fail
        refine Calls.mono HP.out ?_
        rintro e w1 ⟨rfl, b1⟩
        have HB1 : Hid (Below w.heap.size w w1) := HB.out.trans (b1.mono HB.out.size)
        clear b1
        go_wp2_with fail
        go_ret
        exact ⟨⟨k, rfl, by rw [HX2.out]; exact decide_eq_true (by omega)⟩, HB1.out⟩
    · have HX2 : Hid (res = false) := HA.out.trans (HEnd.out k (by omega))
      have hkI : ¬ ((k : Int) < (l.length : Int)) := by omega
      go_wp2_with fail
      go_ret
      exact ⟨⟨-1, rfl, by rw [HX2.out]; rfl⟩, HB.out⟩
set_option maxHeartbeats 1000000 in
theorem containsR_any (v c1 : Value) (l : List Rl) (d : Rl → Bool) (w : World) (hv : Rls w v l) (hl : l.length ≤ 1048576) (hd : TellsR c1 d w l) :
    Calls Tryd.prog 22 #[v, .func (.func 20) #[] #[c1]] w fun e w' => e = .returned (.bool (l.any d)) ∧ Below w.heap.size w w' := by
  have HI : Hid (Calls Tryd.prog 42 #[v, .func (.func 20) #[] #[c1]] w fun e w' => (∃ n : Int, e = .returned (.int .i64 n) ∧ decide (0 ≤ n) = l.any d) ∧ Below w.heap.size w w') := indexR_any v c1 l d w hv hl hd
  obtain ⟨p, c, rfl, _⟩ := hv.form
  clear hv hd
  generalize l.any d = res at *
  go_enter Tryd.func22, Tryd.ntmps22
  go_wp2_with fail
  refine Calls.mono HI.out ?_
  rintro e w1 ⟨⟨n, rfl, hn⟩, hb⟩
  have HB : Hid (Below w.heap.size w w1) := hb
  have HN : Hid (decide (0 ≤ n) = res) := hn
  clear hb hn
  go_wp2_with fail
  go_ret
  exact ⟨by rw [← HN.out]; rfl, HB.out⟩
set_option maxRecDepth 100000 in
set_option maxHeartbeats 4000000 in
theorem beyF_any (p : Nat) (a b c hv : Value) (H : List Rl) (r : Rl) (w : World) (hp : w.cell? ⟨p, 0, none⟩ = some hv) (hH : Rls w hv H) (ha : Strs w a r.1) (hb : Strs w b r.2.1) (hc : Strs w c r.2.2) (hr : SmR r) (hl : H.length ≤ 1048576) (hsm : ∀ r ∈ H, SmR r) (hT : TabW w) :
    Calls Tryd.prog 20 #[.agg #[a, b, c], .pointer (some ⟨p, 0, none⟩)] w fun e w' => e = .returned (.bool (beyB H r)) ∧ Below w.heap.size w w' := by
  obtain ⟨pa, ca, rfl, hna⟩ := ha.form
  obtain ⟨pb, cb, rfl, hnb⟩ := hb.form
  obtain ⟨pc, cc, rfl, hnc⟩ := hc.form
  obtain ⟨pv, cv, rfl, hnv⟩ := hH.form
  obtain ⟨w0, hw0⟩ : ∃ w0, w0 = w.alloc (.cells #[.slice pa r.1.length ca, .slice pb r.2.1.length cb, .slice pc r.2.2.length cc] 40) := ⟨_, rfl⟩
  have hB0 : Below w.heap.size w w0 := by rw [hw0]; exact (Below.refl _ _).alloc (Nat.le_refl _) _
  have HB0 : Hid (Below w.heap.size w w0) := hB0
  have HW0 : Hid (w0 = w.alloc (.cells #[.slice pa r.1.length ca, .slice pb r.2.1.length cb, .slice pc r.2.2.length cc] 40)) := hw0
  have HC : Hid (Calls Tryd.prog 21 #[.slice pv H.length cv, .agg #[.slice pa r.1.length ca, .slice pb r.2.1.length cb, .slice pc r.2.2.length cc]] w0 fun e w' => e = .returned (.bool (coversP H r)) ∧ Below w0.heap.size w0 w') :=
    covers_any _ _ _ _ H r w0 (Sq.below rlAt_stays hH hB0) (ha.below hB0) (hb.below hB0) (hc.below hB0) hr hl hsm (hT.below hB0)
  have hp0 : (w.alloc (.cells #[.slice pa r.1.length ca, .slice pb r.2.1.length cb, .slice pc r.2.2.length cc] 40)).cell? ⟨p, 0, none⟩ = some (.slice pv H.length cv) := by
    rw [← hw0]
    exact cell_stays hp hB0
  have HR : Hid (beyB H r = !coversP H r) := rfl
  clear hw0 hB0 hp hH ha hb hc hr hsm hT
  generalize beyB H r = res at *
  generalize coversP H r = co at *
  generalize r.1.length = n1 at *
  generalize r.2.1.length = n2 at *
  generalize r.2.2.length = n3 at *
  go_enter Tryd.func20, Tryd.ntmps20
  go_wp2_with fail
  rw [← HW0.out]
  refine Calls.mono HC.out ?_
  rintro e w1 ⟨rfl, hb1⟩
  have HB1 : Hid (Below w.heap.size w w1) := HB0.out.trans (hb1.mono HB0.out.size)
  clear hb1
  go_wp2_with fail
  go_ret
  exact ⟨by rw [HR.out]; rfl, HB1.out⟩
theorem mayG_1 {rs : List Ro} {bs : List Bi} {n : Bs} {gs : List Bs} {sp : Bs} {l : List Rl} (h : whyI rs bs n gs sp ≠ 0) : mayGI rs bs n gs sp l = whyI rs bs n gs sp := orE_l h
theorem mayG_2 {rs : List Ro} {bs : List Bi} {n : Bs} {gs : List Bs} {sp : Bs} {l : List Rl} (h : whyI rs bs n gs sp = 0) (g : rulesI l ≠ 0) : mayGI rs bs n gs sp l = rulesI l := by
  unfold mayGI
  rw [orE_r h, orE_l g]
theorem mayG_3 {rs : List Ro} {bs : List Bi} {n : Bs} {gs : List Bs} {sp : Bs} {l : List Rl} (h : whyI rs bs n gs sp = 0) (g : rulesI l = 0) : mayGI rs bs n gs sp l = mayTail (heldP rs bs n gs sp) l := by
  unfold mayGI
  rw [orE_r h, orE_r g]
theorem why_gr {rs : List Ro} {bs : List Bi} {n : Bs} {gs : List Bs} {sp : Bs} (h : whyI rs bs n gs sp = 0) : grI rs bs = 0 := (orE_zero.1 (orE_zero.1 h).1).1
theorem tail_1 {H l : List Rl} (h : allB H escA = true) : mayTail H l = 0 := by unfold mayTail; rw [if_pos h]
theorem tail_2 {H l : List Rl} (h : allB H escA = false) (g : l.any (beyB H) = true) : mayTail H l = 14 := by unfold mayTail; rw [if_neg (by simp [h]), if_pos g]
theorem tail_3 {H l : List Rl} (h : allB H escA = false) (g : l.any (beyB H) = false) : mayTail H l = 0 := by unfold mayTail; rw [if_neg (by simp [h]), if_neg (by simp [g])]
set_option maxRecDepth 100000 in
set_option maxHeartbeats 8000000 in
theorem mayGrant_any (u v x y : Value) (rs : List Ro) (bs : List Bi) (n : Bs) (gs : List Bs) (sp : Bs) (l : List Rl) (w : World) (hg : Grs w u v rs bs) (hx : Strs w x gs) (hn : n.length ≤ maxLen) (hfg : FitS gs) (hsp : sp.length ≤ maxLen) (hy : Rls w y l) (hfl : ∀ r ∈ l, FitR r) (hT : TabW w) :
    Calls Tryd.prog 6 #[.agg #[u, v], .agg #[.string (Ba n), x], .string (Ba sp), y] w fun e w' => e = .returned (.int .i64 (mayGI rs bs n gs sp l)) ∧ Below w.heap.size w w' := by
  obtain ⟨p, c, rfl, hn1⟩ := Sq.form hg.ros
  obtain ⟨p2, c2, rfl, hn2⟩ := Sq.form hg.bis
  obtain ⟨px, cx, rfl, hnx⟩ := hx.form
  obtain ⟨py, cy, rfl, hny⟩ := hy.form
  have HG : Hid (∀ w1, Below w.heap.size w w1 → Calls Tryd.prog 16 #[.agg #[.slice p rs.length c, .slice p2 bs.length c2], .agg #[.string (Ba n), .slice px gs.length cx], .string (Ba sp)] w1 fun e w' => e = .returned (.int .i64 (whyI rs bs n gs sp)) ∧ Below w1.heap.size w1 w') := fun w1 hb => heldE_any _ _ _ rs bs n gs sp w1 (hg.below hb) (hx.below hb) hn hfg hsp
  have HR : Hid (∀ w1, Below w.heap.size w w1 → Calls Tryd.prog 19 #[.slice py l.length cy] w1 fun e w' => e = .returned (.int .i64 (rulesI l)) ∧ Below w1.heap.size w1 w') := fun w1 hb => rules_any _ l w1 (Sq.below rlAt_stays hy hb) hfl
  have HE1 : Hid (whyI rs bs n gs sp ≠ 0 → mayGI rs bs n gs sp l = whyI rs bs n gs sp) := mayG_1
  have HE2 : Hid (whyI rs bs n gs sp = 0 → rulesI l ≠ 0 → mayGI rs bs n gs sp l = rulesI l) := mayG_2
  have HE3 : Hid (whyI rs bs n gs sp = 0 → rulesI l = 0 → mayGI rs bs n gs sp l = mayTail (heldP rs bs n gs sp) l) := mayG_3
  have HH : Hid (whyI rs bs n gs sp = 0 → ∀ w1, Below w.heap.size w w1 → Calls Tryd.prog 18 #[.agg #[.slice p rs.length c, .slice p2 bs.length c2], .agg #[.string (Ba n), .slice px gs.length cx], .string (Ba sp)] w1 fun e w' => ∃ pz cz, e = .returned (.slice pz (heldP rs bs n gs sp).length cz) ∧ Rls w' (.slice pz (heldP rs bs n gs sp).length cz) (heldP rs bs n gs sp) ∧ (heldP rs bs n gs sp).length ≤ 96 ∧ Below w1.heap.size w1 w') := fun h w1 hb => by
    obtain ⟨h1, _, h3⟩ := gr_ok (why_gr h)
    refine (held_any _ _ _ rs bs n gs sp w1 (hg.below hb) (hx.below hb) h1 h3).mono ?_
    rintro e w' ⟨y, L, rfl, hm, ho, hs, h96, hb1⟩
    have hr := rls_of_owns ho (hs.below hb1)
    rw [hm] at hr
    obtain ⟨pz, cz, rfl, _⟩ := hr.form
    have hle : (heldP rs bs n gs sp).length ≤ 96 := by rw [← hm, List.length_map]; exact h96
    exact ⟨pz, cz, rfl, hr, hle, hb1⟩
  have HC : Hid (whyI rs bs n gs sp = 0 → rulesI l = 0 → (heldP rs bs n gs sp).length ≤ 96 → ∀ (w2 : World) (q : Nat) (hv : Value), Below w.heap.size w w2 → w2.cell? ⟨q, 0, none⟩ = some hv → Rls w2 hv (heldP rs bs n gs sp) →
      Calls Tryd.prog 22 #[.slice py l.length cy, .func (.func 20) #[] #[.pointer (some ⟨q, 0, none⟩)]] w2 fun e w' => e = .returned (.bool (l.any (beyB (heldP rs bs n gs sp)))) ∧ Below w2.heap.size w2 w') := fun h1 h2 h3 w2 q hv hb hq hH => by
    have hvd := held_valid (n := n) (gs := gs) (sp := sp) (why_gr h1) hg.fitO
    refine containsR_any _ _ l _ w2 (Sq.below rlAt_stays hy hb) (by have := rules_len h2; omega) (fun w3 a b cc r hb3 hr s1 s2 s3 => ?_)
    exact beyF_any q a b cc hv _ r w3 (cell_stays hq hb3) (Sq.below rlAt_stays hH hb3) s1 s2 s3 (rule_small (hfl r hr) (rules_each h2 r hr)) (by omega) (fun z hz => rule_small (hvd z hz).2 (hvd z hz).1) (hT.below (hb.trans (hb3.mono hb.size)))
  have HA : Hid (∀ (w2 : World) (hv : Value), Rls w2 hv (heldP rs bs n gs sp) → Calls Tryd.prog 8 #[hv, .agg #[.string ⟨#[101, 115, 99, 97, 108, 97, 116, 101]⟩, .string ⟨#[114, 111, 108, 101, 115]⟩, .string ⟨#[]⟩, .string ⟨#[]⟩]] w2 fun e w' => e = .returned (.bool (allB (heldP rs bs n gs sp) escA)) ∧ Below w2.heap.size w2 w') := fun w2 hv hH => allows_any hv _ escA w2 hH
  have HT1 : Hid (allB (heldP rs bs n gs sp) escA = true → mayTail (heldP rs bs n gs sp) l = 0) := tail_1
  have HT2 : Hid (allB (heldP rs bs n gs sp) escA = false → l.any (beyB (heldP rs bs n gs sp)) = true → mayTail (heldP rs bs n gs sp) l = 14) := tail_2
  have HT3 : Hid (allB (heldP rs bs n gs sp) escA = false → l.any (beyB (heldP rs bs n gs sp)) = false → mayTail (heldP rs bs n gs sp) l = 0) := tail_3
  have HBx : Hid (∀ w1, Below ((w.alloc (.cells #[.slice p rs.length c, .slice p2 bs.length c2] 25)).alloc (.cells #[.string (Ba n), .slice px gs.length cx] 28)).heap.size ((w.alloc (.cells #[.slice p rs.length c, .slice p2 bs.length c2] 25)).alloc (.cells #[.string (Ba n), .slice px gs.length cx] 28)) w1 →
      w1.cell? ⟨w.heap.size, 0, none⟩ = some (.slice p rs.length c) ∧ w1.cell? ⟨w.heap.size, 1, none⟩ = some (.slice p2 bs.length c2) ∧ w1.cell? ⟨w.heap.size + 1, 0, none⟩ = some (.string (Ba n)) ∧ w1.cell? ⟨w.heap.size + 1, 1, none⟩ = some (.slice px gs.length cx)) := fun w1 h => bxs2 h
  obtain ⟨w0, hw0⟩ : ∃ w0, w0 = (w.alloc (.cells #[.slice p rs.length c, .slice p2 bs.length c2] 25)).alloc (.cells #[.string (Ba n), .slice px gs.length cx] 28) := ⟨_, rfl⟩
  have hB0 : Below w.heap.size w w0 := by rw [hw0]; exact ((Below.refl _ _).alloc (Nat.le_refl _) _).alloc (by simp) _
  have HB0 : Hid (Below w.heap.size w w0) := hB0
  rw [← hw0] at HBx
  have HW0 : Hid (w0 = (w.alloc (.cells #[.slice p rs.length c, .slice p2 bs.length c2] 25)).alloc (.cells #[.string (Ba n), .slice px gs.length cx] 28)) := hw0
  have HBt : Hid (∀ {a b : World}, Below w0.heap.size w0 a → Below a.heap.size a b → Below w0.heap.size w0 b) := fun h g => h.trans (g.mono h.size)
  have HBw : Hid (∀ {a : World}, Below w0.heap.size w0 a → Below w.heap.size w a) := fun h => hB0.trans (h.mono hB0.size)
  clear hg hx hn hfg hsp hy hfl hT hw0 hB0
  generalize mayGI rs bs n gs sp l = res at *
  generalize whyI rs bs n gs sp = e1 at *
  generalize rulesI l = e2 at *
  generalize mayTail (heldP rs bs n gs sp) l = mt at *
  generalize l.any (beyB (heldP rs bs n gs sp)) = an at *
  generalize heldP rs bs n gs sp = H at *
  generalize allB H escA = es at *
  generalize rs.length = l1 at *
  generalize bs.length = l2 at *
  generalize gs.length = l3 at *
  generalize l.length = l4 at *
  generalize H.length = l5 at *
  generalize Ba n = yn at *
  generalize Ba sp = ys at *
  unfold maxLen at hn1 hn2 hnx hny
  by_cases h1 : e1 = 0
  · have b1 : (e1 != 0) = false := by simp [h1]
    by_cases h2 : e2 = 0
    · have b2 : (e2 != 0) = false := by simp [h2]
      have HX : Hid (res = mt) := HE3.out h1 h2
      have HHc : Hid (∀ w1, Below w.heap.size w w1 → Calls Tryd.prog 18 #[.agg #[.slice p l1 c, .slice p2 l2 c2], .agg #[.string yn, .slice px l3 cx], .string ys] w1 fun e w' => ∃ pz cz, e = .returned (.slice pz l5 cz) ∧ Rls w' (.slice pz l5 cz) H ∧ l5 ≤ 96 ∧ Below w1.heap.size w1 w') := HH.out h1
      have HCc : Hid (l5 ≤ 96 → ∀ (w2 : World) (q : Nat) (hv : Value), Below w.heap.size w w2 → w2.cell? ⟨q, 0, none⟩ = some hv → Rls w2 hv H →
        Calls Tryd.prog 22 #[.slice py l4 cy, .func (.func 20) #[] #[.pointer (some ⟨q, 0, none⟩)]] w2 fun e w' => e = .returned (.bool an) ∧ Below w2.heap.size w2 w') := HC.out h1 h2
      clear HE1 HE2 HE3 HH HC h1 h2
      go_enter Tryd.func6, Tryd.ntmps6
      go_wp2_with fail
      rw [← HW0.out]
      refine Calls.mono (HG.out _ HB0.out) ?_
      rintro e w1 ⟨rfl, hb1⟩
      have HB1 : Hid (Below w0.heap.size w0 w1) := hb1
      clear hb1
      go_wp2_with fail
      refine Calls.mono (HR.out _ (HBw.out HB1.out)) ?_
      rintro e w2 ⟨rfl, hb2⟩
      have HB2 : Hid (Below w0.heap.size w0 w2) := HBt.out HB1.out hb2
      obtain ⟨z0, z1, z2, z3⟩ := HBx.out w2 HB2.out
      clear hb2
      go_wp2_with fail
      refine Calls.mono (HHc.out _ (HBw.out HB2.out)) ?_
      rintro e w3 ⟨pz, cz, rfl, hr3, h96, hb3⟩
      have hb4 := (HBt.out HB2.out hb3).alloc (HBt.out HB2.out hb3).size (.cells #[.slice pz l5 cz] 29)
      have hr4 : Rls (w3.alloc (.cells #[.slice pz l5 cz] 29)) (.slice pz l5 cz) H := Sq.below rlAt_stays hr3 ((Below.refl _ _).alloc (Nat.le_refl _) _)
      have hc4 : (w3.alloc (.cells #[.slice pz l5 cz] 29)).cell? ⟨w3.heap.size, 0, none⟩ = some (.slice pz l5 cz) := by rw [World.cell?_alloc_at _ _ _ _ rfl]; rfl
      have HB4 : Hid (Below w0.heap.size w0 (w3.alloc (.cells #[.slice pz l5 cz] 29))) := hb4
      have HR4 : Hid (Rls (w3.alloc (.cells #[.slice pz l5 cz] 29)) (.slice pz l5 cz) H) := hr4
      have HC4 : Hid ((w3.alloc (.cells #[.slice pz l5 cz] 29)).cell? ⟨w3.heap.size, 0, none⟩ = some (.slice pz l5 cz)) := hc4
      have H96 : Hid (l5 ≤ 96) := h96
      clear hb3 hb4 hr3 hr4 hc4 z0 z1 z2 z3
      go_wp2_with fail
      refine Calls.mono (HA.out _ _ HR4.out) ?_
      rintro e w5 ⟨rfl, hb5⟩
      have HB5 : Hid (Below w0.heap.size w0 w5) := HBt.out HB4.out hb5
      have HR5 : Hid (Rls w5 (.slice pz l5 cz) H) := Sq.below rlAt_stays HR4.out hb5
      have HC5 : Hid (w5.cell? ⟨w3.heap.size, 0, none⟩ = some (.slice pz l5 cz)) := cell_stays HC4.out hb5
      clear hb5
      cases es with
      | true =>
        have HX2 : Hid (mt = 0) := HT1.out rfl
        go_wp2_with fail
        go_ret
        exact ⟨by rw [HX.out, HX2.out]; rfl, HBw.out HB5.out⟩
      | false =>
        go_wp2_with fail
        refine Calls.mono (HCc.out H96.out _ _ _ (HBw.out HB5.out) HC5.out HR5.out) ?_
        rintro e w6 ⟨rfl, hb6⟩
        have HB6 : Hid (Below w0.heap.size w0 w6) := HBt.out HB5.out hb6
        clear hb6
        cases an with
        | true =>
          have HX2 : Hid (mt = 14) := HT2.out (by simp) (by simp)
          go_wp2_with fail
          go_ret
          exact ⟨by rw [HX.out, HX2.out]; rfl, HBw.out HB6.out⟩
        | false =>
          have HX2 : Hid (mt = 0) := HT3.out (by simp) (by simp)
          go_wp2_with fail
          go_ret
          exact ⟨by rw [HX.out, HX2.out]; rfl, HBw.out HB6.out⟩
    · have b2 : (e2 != 0) = true := by simpa using h2
      have HX : Hid (res = e2) := HE2.out h1 h2
      clear HE1 HE2 HE3 HH HC h1 h2
      go_enter Tryd.func6, Tryd.ntmps6
      go_wp2_with fail
      rw [← HW0.out]
      refine Calls.mono (HG.out _ HB0.out) ?_
      rintro e w1 ⟨rfl, hb1⟩
      have HB1 : Hid (Below w0.heap.size w0 w1) := hb1
      clear hb1
      go_wp2_with fail
      refine Calls.mono (HR.out _ (HBw.out HB1.out)) ?_
      rintro e w2 ⟨rfl, hb2⟩
      have HB2 : Hid (Below w0.heap.size w0 w2) := HBt.out HB1.out hb2
      clear hb2
      go_wp2_with fail
      go_ret
      exact ⟨by rw [HX.out]; rfl, HBw.out HB2.out⟩
  · have b1 : (e1 != 0) = true := by simpa using h1
    have HX : Hid (res = e1) := HE1.out h1
    clear HE1 HE2 HE3 HH HC h1
    go_enter Tryd.func6, Tryd.ntmps6
    go_wp2_with fail
    rw [← HW0.out]
    refine Calls.mono (HG.out _ HB0.out) ?_
    rintro e w1 ⟨rfl, hb1⟩
    have HB1 : Hid (Below w0.heap.size w0 w1) := hb1
    clear hb1
    go_wp2_with fail
    go_ret
    exact ⟨by rw [HX.out]; rfl, HBw.out HB1.out⟩
end Go.Proofs.YtnjjlnhchfoigabDoor
