/- Contract over this translation: grants.gap. -/
import Derived.Test.YtnjjlnhchfoigabDoorGrFrom
namespace Go.Proofs.YtnjjlnhchfoigabDoor
open Go.RowKit Go.Maps
set_option linter.unusedVariables false
set_option linter.unusedSimpArgs false
def f3W (held : List Rl) : Option W3 := if held.length = 0 then some noW else none
def f2W (l2 : List Bs) (held : List Rl) : Option W3 := findW 2 (fun x => f3W (havingP held 2 x)) l2
def f1W (l1 l2 : List Bs) (held : List Rl) : Option W3 := findW 1 (fun x => f2W l2 (havingP held 1 x)) l1
def f0W (l0 l1 l2 : List Bs) (held : List Rl) : Option W3 := findW 0 (fun x => f1W l1 l2 (havingP held 0 x)) l0
theorem findG_map {α β : Type} (f : Bs → Option α) (φ : α → β) : ∀ l, findG (fun w => (f w).map φ) l = (findG f l).map fun p => (p.1, φ p.2)
  | [] => rfl
  | w :: r => by
    unfold findG
    cases h : f w with
    | some x => simp [h]
    | none => simp [h, findG_map f φ r]
theorem f3W_eq (held : List Rl) : f3W held = (g3 held).map fun _ => noW := by
  unfold f3W g3
  split <;> rfl
theorem f2W_eq (l2 : List Bs) (held : List Rl) : f2W l2 held = (g2 held l2).map fun p => (([], [], p.1) : W3) := by
  unfold f2W g2 findW
  simp only [f3W_eq, findG_map, Option.map_map]
  rfl
theorem f1W_eq (l1 l2 : List Bs) (held : List Rl) : f1W l1 l2 held = (g1 held l1 l2).map fun p => (([], p.1, p.2.1) : W3) := by
  unfold f1W g1 findW
  simp only [f2W_eq, findG_map, Option.map_map]
  rfl
theorem f0W_eq (l0 l1 l2 : List Bs) (held : List Rl) : f0W l0 l1 l2 held = (g0 held l0 l1 l2).map fun p => ((p.1, p.2.1, p.2.2.1) : W3) := by
  unfold f0W g0 findW
  simp only [f1W_eq, findG_map, Option.map_map]
  rfl
/-- what gap answers -/
def gapW (held : List Rl) (r : Rl) : Option W3 := (gapP held r).map fun p => (p.1, p.2.1, p.2.2.1)
theorem gapW_eq (held : List Rl) (r : Rl) : f0W (worthP held r 0) (worthP held r 1) (worthP held r 2) held = gapW held r := f0W_eq _ _ _ _
theorem worth_small {r : Rl} (h : SmR r) (held : List Rl) (side : Nat) : (worthP held r side).length ≤ 1048576 := by
  rw [← worth_kept]
  exact Nat.le_trans (keptK_len _ _ _) (words_small h side)
theorem worth_fit {r : Rl} (h : SmR r) (held : List Rl) (side : Nat) : FitS (worthP held r side) := fun s hs => words_fit h side s (worth_sub hs)
theorem Strs.grown {w w' : World} {B : Nat} {v : Value} {l : List Bs} {row : Option Nat} (h : OwnN B w v l) (hg : w.grownBy w' row) (hne : v.ownBlock ≠ row) : Strs w' v l := (h.kept hg (Or.inr hne)).strs
theorem own_form {B : Nat} {w : World} {v : Value} {l : List Bs} (h : OwnN B w v l) : ∃ p n c, v = .slice p n c := by
  obtain ⟨p, c, e, _⟩ := h.strs.form
  exact ⟨p, _, c, e⟩
theorem from_all (W : World) (s0 s1 s2 : Value) (l0 l1 l2 : List Bs) (f0 : ∃ p n c, s0 = .slice p n c) (f1 : ∃ p n c, s1 = .slice p n c) (f2 : ∃ p n c, s2 = .slice p n c) (h0 : Strs W s0 l0) (h1 : Strs W s1 l1) (h2 : Strs W s2 l2) (n0 : l0.length ≤ 1048576) (n1 : l1.length ≤ 1048576) (n2 : l2.length ≤ 1048576) (t0 : FitS l0) (t1 : FitS l1) (t2 : FitS l2) :
    FromC 0 (f0W l0 l1 l2) W s0 s1 s2 :=
  from_zero (f1W l1 l2) W s0 s1 s2 l0 f0 f1 f2 h0 n0 t0 (from_one (f2W l2) W s0 s1 s2 l1 f0 f1 f2 h1 n1 t1 (from_two f3W W s0 s1 s2 l2 f0 f1 f2 h2 n2 t2 (from_three W s0 s1 s2 f0 f1 f2)))
set_option maxRecDepth 100000 in
set_option maxHeartbeats 8000000 in
theorem gap_any (v a b c : Value) (held : List Rl) (r : Rl) (w : World) (hv : Rls w v held) (ha : Strs w a r.1) (hb : Strs w b r.2.1) (hc : Strs w c r.2.2) (hr : SmR r) (hl : held.length ≤ 1048576) (hsm : ∀ r ∈ held, SmR r) (hT : TabW w) :
    Calls Tryd.prog 31 #[v, .agg #[a, b, c]] w (GQ (gapW held r) w) := by
  obtain ⟨pa, ca, rfl, hna⟩ := ha.form
  obtain ⟨pb, cb, rfl, hnb⟩ := hb.form
  obtain ⟨pc, cc, rfl, hnc⟩ := hc.form
  obtain ⟨pv, cv, rfl, hnv⟩ := hv.form
  have HWo : Hid (∀ (side : Nat) (w1 : World), side ≤ 2 → Below w.heap.size w w1 → Calls Tryd.prog 46 #[.slice pv held.length cv, .agg #[.slice pa r.1.length ca, .slice pb r.2.1.length cb, .slice pc r.2.2.length cc], .int .i64 side] w1 fun e w' => ∃ u, e = .returned u ∧ OwnN w1.heap.size w' u (worthP held r side) ∧ Below w1.heap.size w1 w') := fun side w1 hs h =>
    worth_any _ _ _ _ held r side w1 (Sq.below rlAt_stays hv h) (ha.below h) (hb.below h) (hc.below h) hr hs hl hsm (hT.below h)
  have HFr : Hid (∀ (W : World) (s0 s1 s2 : Value), Below w.heap.size w W → (∃ p n c, s0 = .slice p n c) → (∃ p n c, s1 = .slice p n c) → (∃ p n c, s2 = .slice p n c) → Strs W s0 (worthP held r 0) → Strs W s1 (worthP held r 1) → Strs W s2 (worthP held r 2) → Calls Tryd.prog 47 #[.slice pv held.length cv, .agg #[s0, s1, s2], .int .i64 0] W (GQ (gapW held r) W)) := fun W s0 s1 s2 hW f0 f1 f2 h0 h1 h2 => by
    have h := from_all W s0 s1 s2 _ _ _ f0 f1 f2 h0 h1 h2 (worth_small hr held 0) (worth_small hr held 1) (worth_small hr held 2) (worth_fit hr held 0) (worth_fit hr held 1) (worth_fit hr held 2) (.slice pv held.length cv) held W (Below.refl _ _) (Sq.below rlAt_stays hv hW) hl hsm
    rw [gapW_eq] at h
    exact h
  have HW0 := HWo.out 0
  have HW1 := HWo.out 1
  have HW2 := HWo.out 2
  have HWa : Hid (∀ (w1 : World), Below w.heap.size w w1 → Calls Tryd.prog 46 #[.slice pv held.length cv, .agg #[.slice pa r.1.length ca, .slice pb r.2.1.length cb, .slice pc r.2.2.length cc], .int .i64 0] w1 fun e w' => ∃ u, e = .returned u ∧ OwnN w1.heap.size w' u (worthP held r 0) ∧ Below w1.heap.size w1 w') := fun w1 h => HW0 w1 (by omega) h
  have HWb : Hid (∀ (w1 : World), Below w.heap.size w w1 → Calls Tryd.prog 46 #[.slice pv held.length cv, .agg #[.slice pa r.1.length ca, .slice pb r.2.1.length cb, .slice pc r.2.2.length cc], .int .i64 1] w1 fun e w' => ∃ u, e = .returned u ∧ OwnN w1.heap.size w' u (worthP held r 1) ∧ Below w1.heap.size w1 w') := fun w1 h => HW1 w1 (by omega) h
  have HWc : Hid (∀ (w1 : World), Below w.heap.size w w1 → Calls Tryd.prog 46 #[.slice pv held.length cv, .agg #[.slice pa r.1.length ca, .slice pb r.2.1.length cb, .slice pc r.2.2.length cc], .int .i64 2] w1 fun e w' => ∃ u, e = .returned u ∧ OwnN w1.heap.size w' u (worthP held r 2) ∧ Below w1.heap.size w1 w') := fun w1 h => HW2 w1 (by omega) h
  clear HW0 HW1 HW2 HWo hv ha hb hc hr hsm hT
  generalize worthP held r 0 = T0 at *
  generalize worthP held r 1 = T1 at *
  generalize worthP held r 2 = T2 at *
  generalize gapW held r = fo at *
  generalize r.1.length = n1 at *
  generalize r.2.1.length = n2 at *
  generalize r.2.2.length = n3 at *
  obtain ⟨w0, hw0⟩ : ∃ w0, w0 = ((w.alloc (.cells #[.slice pa n1 ca, .slice pb n2 cb, .slice pc n3 cc] 40)).alloc (.cells #[.string ⟨#[]⟩, .string ⟨#[]⟩, .string ⟨#[]⟩] 68)).alloc (.cells #[.slice none 0 0, .slice none 0 0, .slice none 0 0] 83) := ⟨_, rfl⟩
  have hs1 : (w.alloc (.cells #[.slice pa n1 ca, .slice pb n2 cb, .slice pc n3 cc] 40)).heap.size = w.heap.size + 1 := by simp
  have hs2 : ((w.alloc (.cells #[.slice pa n1 ca, .slice pb n2 cb, .slice pc n3 cc] 40)).alloc (.cells #[.string ⟨#[]⟩, .string ⟨#[]⟩, .string ⟨#[]⟩] 68)).heap.size = w.heap.size + 1 + 1 := by simp
  have b1 : Below w.heap.size w (w.alloc (.cells #[.slice pa n1 ca, .slice pb n2 cb, .slice pc n3 cc] 40)) := (Below.refl _ _).alloc (Nat.le_refl _) _
  have b2 := b1.alloc b1.size (.cells #[.string ⟨#[]⟩, .string ⟨#[]⟩, .string ⟨#[]⟩] 68)
  have b3 := b2.alloc b2.size (.cells #[.slice none 0 0, .slice none 0 0, .slice none 0 0] 83)
  rw [← hw0] at b3
  have xr : Bx3 w0 w.heap.size (.slice pa n1 ca) (.slice pb n2 cb) (.slice pc n3 cc) 40 := by
    rw [hw0]
    exact (bx3_new _ _ _ _ _).below (((Below.refl _ _).alloc (Nat.le_refl _) _).alloc (by simp) _)
  have xw : Bx3 w0 (w.heap.size + 1) (.string ⟨#[]⟩) (.string ⟨#[]⟩) (.string ⟨#[]⟩) 68 := by
    rw [hw0, ← hs1]
    exact (bx3_new _ _ _ _ _).below ((Below.refl _ _).alloc (Nat.le_refl _) _)
  have xl : Bx3 w0 (w.heap.size + 1 + 1) (.slice none 0 0) (.slice none 0 0) (.slice none 0 0) 83 := by
    rw [hw0, ← hs2]
    exact bx3_new _ _ _ _ _
  have XR : Hid (Bx3 w0 w.heap.size (.slice pa n1 ca) (.slice pb n2 cb) (.slice pc n3 cc) 40) := xr
  have XW : Hid (Bx3 w0 (w.heap.size + 1) (.string ⟨#[]⟩) (.string ⟨#[]⟩) (.string ⟨#[]⟩) 68) := xw
  have XL : Hid (Bx3 w0 (w.heap.size + 1 + 1) (.slice none 0 0) (.slice none 0 0) (.slice none 0 0) 83) := xl
  have HB0 : Hid (Below w.heap.size w w0) := b3
  have HW0 : Hid (w0 = ((w.alloc (.cells #[.slice pa n1 ca, .slice pb n2 cb, .slice pc n3 cc] 40)).alloc (.cells #[.string ⟨#[]⟩, .string ⟨#[]⟩, .string ⟨#[]⟩] 68)).alloc (.cells #[.slice none 0 0, .slice none 0 0, .slice none 0 0] 83)) := hw0
  have hs3 : Hid ((Tryd.prog.info? 68).map (·.size) = some 3) := by
    show _ = _
    kernel_rfl
  clear hw0 hs1 hs2 b1 b2 b3 xr xw xl
  have hq3 : ((3 : Int) < 3) = False := by simp
  go_enter Tryd.func31, Tryd.ntmps31
  go_wp2_with fail
  refine wp_loop_rounds 4 ?_
  rw [rounds_succ]
  go_wp2_with fail
  rw [← HW0.out]
  refine Calls.mono (HWa.out _ HB0.out) ?_
  rintro e v0 ⟨u, rfl, ho, hb⟩
  obtain ⟨q0, m0, d0, rfl⟩ := own_form ho
  have YL0 : Hid (Bx3 v0 (w.heap.size + 1 + 1) (.slice none 0 0) (.slice none 0 0) (.slice none 0 0) 83) := XL.out.below hb
  have hg : v0.grownBy (v0.setCell ⟨w.heap.size + 1 + 1, 0, none⟩ (.slice q0 m0 d0)) (some (w.heap.size + 1 + 1)) := grown_set1
  have XL0 : Hid (Bx3 (v0.setCell ⟨w.heap.size + 1 + 1, 0, none⟩ (.slice q0 m0 d0)) (w.heap.size + 1 + 1) (.slice q0 m0 d0) (.slice none 0 0) (.slice none 0 0) 83) := heap_setCell_same v0 _ 0 _ _ (.slice q0 m0 d0) YL0.out
  have XR0 : Hid (Bx3 (v0.setCell ⟨w.heap.size + 1 + 1, 0, none⟩ (.slice q0 m0 d0)) w.heap.size (.slice pa n1 ca) (.slice pb n2 cb) (.slice pc n3 cc) 40) := (XR.out.below hb).grown hg (by simp; omega)
  have XW0 : Hid (Bx3 (v0.setCell ⟨w.heap.size + 1 + 1, 0, none⟩ (.slice q0 m0 d0)) (w.heap.size + 1) (.string ⟨#[]⟩) (.string ⟨#[]⟩) (.string ⟨#[]⟩) 68) := (XW.out.below hb).grown hg (by simp)
  have hbw := HB0.out.trans (hb.mono HB0.out.size)
  have HBB0 : Hid (Below w.heap.size w (v0.setCell ⟨w.heap.size + 1 + 1, 0, none⟩ (.slice q0 m0 d0))) := hbw.grown hg hbw.size (fun j hj => by injection hj with hj; omega)
  have HU00 : Hid (OwnN w.heap.size (v0.setCell ⟨w.heap.size + 1 + 1, 0, none⟩ (.slice q0 m0 d0)) (.slice q0 m0 d0) T0) := (ho.low HB0.out.size).kept hg (Or.inr (YL0.out.row_ne ho (by decide)))
  have fr0 := YL0.out.free 0
  have yk0 := YL0.out.c0
  have c00 := XR0.out.c0
  have c10 := XR0.out.c1
  have c20 := XR0.out.c2
  clear ho hb hg hbw
  go_wp2_with fail
  rw [rounds_succ]
  go_wp2_with fail
  refine Calls.mono (HWb.out _ HBB0.out) ?_
  rintro e v1 ⟨u, rfl, ho, hb⟩
  obtain ⟨q1, m1, d1, rfl⟩ := own_form ho
  have YL1 : Hid (Bx3 v1 (w.heap.size + 1 + 1) (.slice q0 m0 d0) (.slice none 0 0) (.slice none 0 0) 83) := XL0.out.below hb
  have hg : v1.grownBy (v1.setCell ⟨w.heap.size + 1 + 1, 1, none⟩ (.slice q1 m1 d1)) (some (w.heap.size + 1 + 1)) := grown_set1
  have XL1 : Hid (Bx3 (v1.setCell ⟨w.heap.size + 1 + 1, 1, none⟩ (.slice q1 m1 d1)) (w.heap.size + 1 + 1) (.slice q0 m0 d0) (.slice q1 m1 d1) (.slice none 0 0) 83) := heap_setCell_same v1 _ 1 _ _ (.slice q1 m1 d1) YL1.out
  have XR1 : Hid (Bx3 (v1.setCell ⟨w.heap.size + 1 + 1, 1, none⟩ (.slice q1 m1 d1)) w.heap.size (.slice pa n1 ca) (.slice pb n2 cb) (.slice pc n3 cc) 40) := (XR0.out.below hb).grown hg (by simp; omega)
  have XW1 : Hid (Bx3 (v1.setCell ⟨w.heap.size + 1 + 1, 1, none⟩ (.slice q1 m1 d1)) (w.heap.size + 1) (.string ⟨#[]⟩) (.string ⟨#[]⟩) (.string ⟨#[]⟩) 68) := (XW0.out.below hb).grown hg (by simp)
  have hbw := HBB0.out.trans (hb.mono HBB0.out.size)
  have HBB1 : Hid (Below w.heap.size w (v1.setCell ⟨w.heap.size + 1 + 1, 1, none⟩ (.slice q1 m1 d1))) := hbw.grown hg hbw.size (fun j hj => by injection hj with hj; omega)
  have HU11 : Hid (OwnN w.heap.size (v1.setCell ⟨w.heap.size + 1 + 1, 1, none⟩ (.slice q1 m1 d1)) (.slice q1 m1 d1) T1) := (ho.low HBB0.out.size).kept hg (Or.inr (YL1.out.row_ne ho (by decide)))
  have hoj0 := HU00.out.below hb
  have HU10 : Hid (OwnN w.heap.size (v1.setCell ⟨w.heap.size + 1 + 1, 1, none⟩ (.slice q1 m1 d1)) (.slice q0 m0 d0) T0) := hoj0.kept hg (Or.inr (YL1.out.row_ne hoj0 (by decide)))
  have fr1 := YL1.out.free 1
  have yk1 := YL1.out.c1
  have c01 := XR1.out.c0
  have c11 := XR1.out.c1
  have c21 := XR1.out.c2
  clear ho hb hg hbw hoj0
  go_wp2_with fail
  rw [rounds_succ]
  go_wp2_with fail
  refine Calls.mono (HWc.out _ HBB1.out) ?_
  rintro e v2 ⟨u, rfl, ho, hb⟩
  obtain ⟨q2, m2, d2, rfl⟩ := own_form ho
  have YL2 : Hid (Bx3 v2 (w.heap.size + 1 + 1) (.slice q0 m0 d0) (.slice q1 m1 d1) (.slice none 0 0) 83) := XL1.out.below hb
  have hg : v2.grownBy (v2.setCell ⟨w.heap.size + 1 + 1, 2, none⟩ (.slice q2 m2 d2)) (some (w.heap.size + 1 + 1)) := grown_set1
  have XL2 : Hid (Bx3 (v2.setCell ⟨w.heap.size + 1 + 1, 2, none⟩ (.slice q2 m2 d2)) (w.heap.size + 1 + 1) (.slice q0 m0 d0) (.slice q1 m1 d1) (.slice q2 m2 d2) 83) := heap_setCell_same v2 _ 2 _ _ (.slice q2 m2 d2) YL2.out
  have XR2 : Hid (Bx3 (v2.setCell ⟨w.heap.size + 1 + 1, 2, none⟩ (.slice q2 m2 d2)) w.heap.size (.slice pa n1 ca) (.slice pb n2 cb) (.slice pc n3 cc) 40) := (XR1.out.below hb).grown hg (by simp; omega)
  have XW2 : Hid (Bx3 (v2.setCell ⟨w.heap.size + 1 + 1, 2, none⟩ (.slice q2 m2 d2)) (w.heap.size + 1) (.string ⟨#[]⟩) (.string ⟨#[]⟩) (.string ⟨#[]⟩) 68) := (XW1.out.below hb).grown hg (by simp)
  have hbw := HBB1.out.trans (hb.mono HBB1.out.size)
  have HBB2 : Hid (Below w.heap.size w (v2.setCell ⟨w.heap.size + 1 + 1, 2, none⟩ (.slice q2 m2 d2))) := hbw.grown hg hbw.size (fun j hj => by injection hj with hj; omega)
  have HU22 : Hid (OwnN w.heap.size (v2.setCell ⟨w.heap.size + 1 + 1, 2, none⟩ (.slice q2 m2 d2)) (.slice q2 m2 d2) T2) := (ho.low HBB1.out.size).kept hg (Or.inr (YL2.out.row_ne ho (by decide)))
  have hoj0 := HU10.out.below hb
  have HU20 : Hid (OwnN w.heap.size (v2.setCell ⟨w.heap.size + 1 + 1, 2, none⟩ (.slice q2 m2 d2)) (.slice q0 m0 d0) T0) := hoj0.kept hg (Or.inr (YL2.out.row_ne hoj0 (by decide)))
  have hoj1 := HU11.out.below hb
  have HU21 : Hid (OwnN w.heap.size (v2.setCell ⟨w.heap.size + 1 + 1, 2, none⟩ (.slice q2 m2 d2)) (.slice q1 m1 d1) T1) := hoj1.kept hg (Or.inr (YL2.out.row_ne hoj1 (by decide)))
  have fr2 := YL2.out.free 2
  have yk2 := YL2.out.c2
  have c02 := XR2.out.c0
  have c12 := XR2.out.c1
  have c22 := XR2.out.c2
  have l0 := XL2.out.c0
  have l1 := XL2.out.c1
  have l2 := XL2.out.c2
  clear ho hb hg hbw hoj0 hoj1
  go_wp2_with fail
  rw [rounds_succ]
  go_wp2_with fail
  have HRes : Hid (Calls Tryd.prog 47 #[.slice pv held.length cv, .agg #[.slice q0 m0 d0, .slice q1 m1 d1, .slice q2 m2 d2], .int .i64 0] (v2.setCell ⟨w.heap.size + 1 + 1, 2, none⟩ (.slice q2 m2 d2)) (GQ fo (v2.setCell ⟨w.heap.size + 1 + 1, 2, none⟩ (.slice q2 m2 d2)))) := HFr.out _ _ _ _ HBB2.out ⟨_, _, _, rfl⟩ ⟨_, _, _, rfl⟩ ⟨_, _, _, rfl⟩ HU20.out.strs HU21.out.strs HU22.out.strs
  obtain ⟨t, ht⟩ : ∃ t, t = fo.getD noW := ⟨_, rfl⟩
  obtain ⟨t0, t1, t2⟩ := t
  have HT : Hid (arrV (fo.getD noW) = .agg #[.string (Ba t0), .string (Ba t1), .string (Ba t2)]) := by
    show _ = _
    rw [← ht]
    rfl
  have HR2 : Hid (Calls Tryd.prog 47 #[.slice pv held.length cv, .agg #[.slice q0 m0 d0, .slice q1 m1 d1, .slice q2 m2 d2], .int .i64 0] (v2.setCell ⟨w.heap.size + 1 + 1, 2, none⟩ (.slice q2 m2 d2)) fun e w' => e = .returned (.tuple #[.agg #[.string (Ba t0), .string (Ba t1), .string (Ba t2)], .bool fo.isSome]) ∧ Below (v2.setCell ⟨w.heap.size + 1 + 1, 2, none⟩ (.slice q2 m2 d2)).heap.size (v2.setCell ⟨w.heap.size + 1 + 1, 2, none⟩ (.slice q2 m2 d2)) w') := by
    have h := HRes.out
    unfold GQ at h
    rw [HT.out] at h
    exact h
  clear ht HRes
  generalize Ba t0 = z0 at *
  generalize Ba t1 = z1 at *
  generalize Ba t2 = z2 at *
  refine Calls.mono HR2.out ?_
  rintro e w5 ⟨rfl, hb5⟩
  have HX5 : Hid (Bx3 w5 (w.heap.size + 1) (.string ⟨#[]⟩) (.string ⟨#[]⟩) (.string ⟨#[]⟩) 68) := XW2.out.below hb5
  have HB5 : Hid (Below w.heap.size w w5) := HBB2.out.trans (hb5.mono HBB2.out.size)
  have f0 := HX5.out.free 0
  have f1 := HX5.out.free 1
  have f2 := HX5.out.free 2
  have y0 := HX5.out.c0
  have y1 := HX5.out.c1
  have y2 := HX5.out.c2
  have HX6 : Hid (Bx3 (put3 w5 (w.heap.size + 1) (.string z0) (.string z1) (.string z2)) (w.heap.size + 1) (.string z0) (.string z1) (.string z2) 68) := put3_box HX5.out _ _ _
  have HB6 : Hid (Below w.heap.size w (put3 w5 (w.heap.size + 1) (.string z0) (.string z1) (.string z2))) := HB5.out.grown (put3_grown _ _ _ _ _) HB5.out.size (fun j hj => by injection hj with hj; omega)
  clear hb5
  go_wp2_with fail
  refine bodyPost_ret (v := .tuple #[.agg #[.string z0, .string z1, .string z2], .bool fo.isSome]) ?_ rfl ⟨by rw [HT.out], HB6.out⟩
  exact results_cell_tmp rfl _ _ _ _ _ _ _ _ rfl rfl HX6.out Tryd.underlying68 rfl hs3.out
end Go.Proofs.YtnjjlnhchfoigabDoor
