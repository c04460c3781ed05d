/- Contract over this translation: grants.gapFrom, side by side. -/
import Derived.Test.YtnjjlnhchfoigabDoorGrGapM
namespace Go.Proofs.YtnjjlnhchfoigabDoor
open Go.RowKit Go.Maps
set_option linter.unusedVariables false
set_option linter.unusedSimpArgs false
/-- three words -/
abbrev W3 := Bs × Bs × Bs
def noW : W3 := ([], [], [])
def arrV (t : W3) : Value := .agg #[.string (Ba t.1), .string (Ba t.2.1), .string (Ba t.2.2)]
def setW (c : Nat) (x : Bs) (t : W3) : W3 := if c = 0 then (x, t.2) else if c = 1 then (t.1, x, t.2.2) else (t.1, t.2.1, x)
/-- what is told: the words, and whether there are any -/
abbrev GQ (o : Option W3) (w : World) (e : Ending) (w' : World) : Prop := e = .returned (.tuple #[arrV (o.getD noW), .bool o.isSome]) ∧ Below w.heap.size w w'
/-- gapFrom on a side answers F, wherever the three lists of W lie -/
def FromC (n : Int) (F : List Rl → Option W3) (W : World) (s0 s1 s2 : Value) : Prop := ∀ (v : Value) (held : List Rl) (w : World), Below W.heap.size W w → Rls w v held → held.length ≤ 1048576 → (∀ r ∈ held, SmR r) → Calls Tryd.prog 47 #[v, .agg #[s0, s1, s2], .int .i64 n] w (GQ (F held) w)
def findW (c : Nat) (f : Bs → Option W3) (l : List Bs) : Option W3 := (findG f l).map fun p => setW c p.1 p.2
theorem findG_at {α : Type} {f : Bs → Option α} : ∀ {l : List Bs} {k : Nat} (hk : k < l.length) {x : α}, (∀ j (hj : j < l.length), j < k → f l[j] = none) → f l[k] = some x → findG f l = some (l[k], x)
  | [], k, hk, _, _, _ => by simp at hk
  | y :: r, 0, hk, x, _, h => by
    have h : f y = some x := h
    show (match f y with | some x => some (y, x) | none => findG f r) = _
    rw [h]
    rfl
  | y :: r, k + 1, hk, x, ha, h => by
    have h0 : f y = none := ha 0 (by simp) (by omega)
    show (match f y with | some x => some (y, x) | none => findG f r) = _
    rw [h0]
    exact findG_at (l := r) (k := k) (by simpa using hk) (fun j hj hjk => ha (j + 1) (by simpa using hj) (by omega)) h
theorem findW_hit {c : Nat} {f : Bs → Option W3} {l : List Bs} {k : Nat} (hk : k < l.length) {t : W3} (ha : ∀ j (hj : j < l.length), j < k → f l[j] = none) (h : f l[k] = some t) : findW c f l = some (setW c l[k] t) := by
  unfold findW
  rw [findG_at hk ha h]
  rfl
theorem findW_none {c : Nat} {f : Bs → Option W3} {l : List Bs} {k : Nat} (hk : l.length ≤ k) (ha : ∀ j (hj : j < l.length), j < k → f l[j] = none) : findW c f l = none := by
  unfold findW
  rw [findG_none.2 (fun w hw => by
    obtain ⟨j, hj, rfl⟩ := List.getElem_of_mem hw
    exact ha j hj (by omega))]
  rfl
theorem ints_cell {w : World} {B g n c : Nat} {P : List Nat} (h : w.ownsInts B 3 .i64 (.slice (some ⟨g, 0, none⟩) n c) (intsN P)) {k : Nat} (hk : k < P.length) : w.cell? ⟨g, k, none⟩ = some (.int .i64 (P[k] : Int)) := by
  have hlen := intsN_len P
  rcases h.1.2 with ⟨e, _⟩ | ⟨g', cap, cur, e, hB, hg, hc, hm, hs, ht⟩
  · cases e
  · cases e
    have h2 := World.ownsRow.cellAt h.1 k (by omega)
    rw [h2]
    simp [intsN, hk]
theorem ints_form {w : World} {B : Nat} {v : Value} {P : List Nat} (h : w.ownsInts B 3 .i64 v (intsN P)) : ∃ p c, v = .slice p P.length c ∧ (0 < P.length → ∃ g, p = some ⟨g, 0, none⟩ ∧ P.length ≤ c) := by
  have hlen := intsN_len P
  rcases h.1.2 with ⟨rfl, h0⟩ | ⟨g, cap, cur, rfl, hB, hg, hc, hm, hs, ht⟩
  · rw [hlen] at h0
    exact ⟨none, 0, by rw [h0], fun h => by omega⟩
  · exact ⟨some ⟨g, 0, none⟩, cap, by rw [hlen], fun _ => ⟨g, rfl, by omega⟩⟩
set_option maxRecDepth 100000 in
set_option maxHeartbeats 4000000 in
theorem from_three (W : World) (s0 s1 s2 : Value) (h0 : ∃ p n c, s0 = .slice p n c) (h1 : ∃ p n c, s1 = .slice p n c) (h2 : ∃ p n c, s2 = .slice p n c) : FromC 3 (fun held => if held.length = 0 then some noW else none) W s0 s1 s2 := by
  intro v held w hW hv hl hsm
  obtain ⟨p0, n0, c0, rfl⟩ := h0
  obtain ⟨p1, n1, c1, rfl⟩ := h1
  obtain ⟨p2, n2, c2, rfl⟩ := h2
  obtain ⟨p, c, rfl, hn⟩ := hv.form
  clear hv hsm hW
  have HO : Hid ((if held.length = 0 then some noW else none : Option W3).getD noW = noW ∧ (if held.length = 0 then some noW else none : Option W3).isSome = decide (held.length = 0)) := by
    show _ ∧ _
    by_cases h : held.length = 0
    · rw [if_pos h, decide_eq_true h]; exact ⟨rfl, rfl⟩
    · rw [if_neg h, decide_eq_false h]; exact ⟨rfl, rfl⟩
  have hq : ((held.length : Int) == 0) = decide (held.length = 0) := by
    rw [Bool.eq_iff_iff, beq_iff_eq, decide_eq_true_iff]
    omega
  obtain ⟨w1, hw1⟩ : ∃ w1, w1 = (w.alloc (.cells #[.slice p0 n0 c0, .slice p1 n1 c1, .slice p2 n2 c2] 83)).alloc (.cells #[.string ⟨#[]⟩, .string ⟨#[]⟩, .string ⟨#[]⟩] 68) := ⟨_, rfl⟩
  have hsz : (w.alloc (.cells #[.slice p0 n0 c0, .slice p1 n1 c1, .slice p2 n2 c2] 83)).heap.size = w.heap.size + 1 := by simp
  have hbx : Bx3 w1 (w.heap.size + 1) (.string ⟨#[]⟩) (.string ⟨#[]⟩) (.string ⟨#[]⟩) 68 := by
    rw [hw1, ← hsz]
    exact bx3_new _ _ _ _ _
  have HBx : Hid (Bx3 w1 (w.heap.size + 1) (.string ⟨#[]⟩) (.string ⟨#[]⟩) (.string ⟨#[]⟩) 68) := hbx
  have HB1 : Hid (Below w.heap.size w w1) := by
    rw [hw1]
    exact ((Below.refl _ _).alloc (Nat.le_refl _) _).alloc (by simp) _
  have HW1 : Hid (w1 = (w.alloc (.cells #[.slice p0 n0 c0, .slice p1 n1 c1, .slice p2 n2 c2] 83)).alloc (.cells #[.string ⟨#[]⟩, .string ⟨#[]⟩, .string ⟨#[]⟩] 68)) := hw1
  have hs3 : Hid ((Tryd.prog.info? 68).map (·.size) = some 3) := by
    show _ = _
    kernel_rfl
  clear hw1 hsz hbx
  show Calls _ _ _ _ (GQ (if held.length = 0 then some noW else none) w)
  generalize (if held.length = 0 then some noW else none : Option W3) = fo at *
  generalize decide (held.length = 0) = bo at *
  generalize held.length = ln at *
  go_enter Tryd.func47, Tryd.ntmps47
  go_wp2_with fail
  refine bodyPost_ret (v := .tuple #[.agg #[.string ⟨#[]⟩, .string ⟨#[]⟩, .string ⟨#[]⟩], .bool bo]) ?_ rfl ⟨by rw [HO.out.1, HO.out.2]; rfl, by rw [← HW1.out]; exact HB1.out⟩
  rw [← HW1.out]
  exact results_cell_tmp rfl _ _ _ _ _ _ _ _ rfl rfl HBx.out Tryd.underlying68 rfl hs3.out
set_option maxRecDepth 100000 in
set_option maxHeartbeats 16000000 in
theorem from_two (F : List Rl → Option W3) (W : World) (s0 s1 s2 : Value) (l : List Bs) (h0 : ∃ p n c, s0 = .slice p n c) (h1 : ∃ p n c, s1 = .slice p n c) (h2 : ∃ p n c, s2 = .slice p n c) (hs : Strs W s2 l) (hll : l.length ≤ 1048576) (hfl : FitS l) (hF : FromC 3 F W s0 s1 s2) :
    FromC 2 (fun held => findW 2 (fun x => F (havingP held 2 x)) l) W s0 s1 s2 := by
  intro v held w hW hv hl hsm
  show Calls _ _ _ _ (GQ (findW 2 (fun x => F (havingP held 2 x)) l) w)
  obtain ⟨ir, hir, hr0, hr1, hr2⟩ := info_parts info_rule
  obtain ⟨ps, cs, hse, hns, hcs⟩ := hs.open
  have HCs : Hid (∀ k (hk : k < l.length), ∃ g o, ps = some ⟨g, o, none⟩ ∧ l.length ≤ cs ∧ ∀ w1, Below w.heap.size w w1 → w1.cell? ⟨g, o + k, none⟩ = some (.string (Ba l[k]))) := fun k hk => by
    obtain ⟨g, o, e1, e2, e3⟩ := hcs k hk
    exact ⟨g, o, e1, e2, fun w1 hb => e3 w1 (hW.trans (hb.mono hW.size))⟩
  obtain ⟨p, c, rfl, hn, hcell⟩ := rls_open hv
  have HC : Hid (∀ k (hk : k < held.length), ∃ g o, p = some ⟨g, o, none⟩ ∧ held.length ≤ c ∧ g < w.heap.size ∧ ∀ w1, Below w.heap.size w w1 → ∃ p1 n1 c1 p2 n2 c2 p3 n3 c3,
      w1.cell? ⟨g, o + k * 3, none⟩ = some (.slice p1 n1 c1) ∧ w1.cell? ⟨g, o + k * 3 + 1, none⟩ = some (.slice p2 n2 c2) ∧ w1.cell? ⟨g, o + k * 3 + 2, none⟩ = some (.slice p3 n3 c3) ∧
      (Strs w (.slice p1 n1 c1) held[k].1 ∧ Strs w (.slice p2 n2 c2) held[k].2.1 ∧ Strs w (.slice p3 n3 c3) held[k].2.2)) := by
    intro k hk
    obtain ⟨g, o, e1, e2, e3, e4⟩ := hcell k hk
    refine ⟨g, o, e1, e2, e3, fun w1 hb => ?_⟩
    obtain ⟨p1, n1, c1, p2, n2, c2, p3, n3, c3, k1, k2, k3, _⟩ := e4 w1 hb
    obtain ⟨q1, m1, d1, q2, m2, d2, q3, m3, d3, j1, j2, j3, t1, t2, t3⟩ := e4 w (Below.refl _ _)
    have f1 := (hb.cell (p := ⟨g, o + k * 3, none⟩) e3).symm.trans k1
    have f2 := (hb.cell (p := ⟨g, o + k * 3 + 1, none⟩) e3).symm.trans k2
    have f3 := (hb.cell (p := ⟨g, o + k * 3 + 2, none⟩) e3).symm.trans k3
    rw [f1] at j1
    rw [f2] at j2
    rw [f3] at j3
    injection j1 with j1
    injection j2 with j2
    injection j3 with j3
    rw [← j1] at t1
    rw [← j2] at t2
    rw [← j3] at t3
    exact ⟨p1, n1, c1, p2, n2, c2, p3, n3, c3, k1, k2, k3, t1, t2, t3⟩
  obtain ⟨p0, n0, c0, rfl⟩ := h0
  obtain ⟨p1, n1, c1, rfl⟩ := h1
  obtain ⟨p2, n2, c2, rfl⟩ := h2
  have hse2 : ps = p2 ∧ l.length = n2 ∧ cs = c2 := by
    injection hse with e1 e2 e3
    exact ⟨e1.symm, e2.symm, e3.symm⟩
  obtain ⟨rfl, hln, rfl⟩ := hse2
  clear hse
  subst hln
  obtain ⟨w1, hw1⟩ : ∃ w1, w1 = (w.alloc (.cells #[.slice p0 n0 c0, .slice p1 n1 c1, .slice ps l.length cs] 83)).alloc (.cells #[.string ⟨#[]⟩, .string ⟨#[]⟩, .string ⟨#[]⟩] 68) := ⟨_, rfl⟩
  have hsz : (w.alloc (.cells #[.slice p0 n0 c0, .slice p1 n1 c1, .slice ps l.length cs] 83)).heap.size = w.heap.size + 1 := by simp
  have hsz1 : w1.heap.size = w.heap.size + 2 := by rw [hw1]; simp
  have hbx : Bx3 w1 (w.heap.size + 1) (.string ⟨#[]⟩) (.string ⟨#[]⟩) (.string ⟨#[]⟩) 68 := by
    rw [hw1, ← hsz]
    exact bx3_new _ _ _ _ _
  have hbl : Bx3 w1 w.heap.size (.slice p0 n0 c0) (.slice p1 n1 c1) (.slice ps l.length cs) 83 := by
    rw [hw1]
    exact (bx3_new _ _ _ _ _).below ((Below.refl _ _).alloc (Nat.le_refl _) _)
  have HBx : Hid (Bx3 w1 (w.heap.size + 1) (.string ⟨#[]⟩) (.string ⟨#[]⟩) (.string ⟨#[]⟩) 68) := hbx
  have HBl : Hid (Bx3 w1 w.heap.size (.slice p0 n0 c0) (.slice p1 n1 c1) (.slice ps l.length cs) 83) := hbl
  have hB1 : Below w.heap.size w w1 := by
    rw [hw1]
    exact ((Below.refl _ _).alloc (Nat.le_refl _) _).alloc (by simp) _
  have HB1 : Hid (Below w.heap.size w w1) := hB1
  have HS1 : Hid (w1.heap.size = w.heap.size + 2) := hsz1
  have HW1 : Hid (w1 = (w.alloc (.cells #[.slice p0 n0 c0, .slice p1 n1 c1, .slice ps l.length cs] 83)).alloc (.cells #[.string ⟨#[]⟩, .string ⟨#[]⟩, .string ⟨#[]⟩] 68)) := hw1
  have hs3 : Hid ((Tryd.prog.info? 68).map (·.size) = some 3) := by
    show _ = _
    kernel_rfl
  have HPt : Hid (Calls Tryd.prog 56 #[.slice p held.length c, .int .i64 2] w1 fun e w' => ∃ (y : Value) (L : List RV) (n : Nat), e = .returned (.tuple #[y, .map (some w1.heap.size)]) ∧ L.map (·.1) = whatP held 2 ∧ w'.ownsRow (w1.heap.size + 1) 40 3 y L.length (flatG L) ∧ StG w L ∧
      PlIs w' (w1.heap.size + 1) w1.heap.size n (placesP held 2) ∧ n ≤ held.length * 1048576 ∧ Below w1.heap.size w1 w') := parted_from _ held 2 w w1 hv hB1 (by omega) hl hsm
  have HF : Hid (∀ (v : Value) (held : List Rl) (w2 : World), Below w.heap.size w w2 → Rls w2 v held → held.length ≤ 1048576 → (∀ r ∈ held, SmR r) → Calls Tryd.prog 47 #[v, .agg #[.slice p0 n0 c0, .slice p1 n1 c1, .slice ps l.length cs], .int .i64 3] w2 (GQ (F held) w2)) := fun v held w2 hb => hF v held w2 (hW.trans (hb.mono hW.size))
  have HPi : Hid (∀ x, ∀ j (hj : j < (placesP held 2 x).length), (placesP held 2 x)[j] < held.length) := fun x j hj => places_lt (List.getElem_mem hj)
  have HPn : Hid (∀ x, (placesP held 2 x).length ≤ 1048576) := fun x => Nat.le_trans (places_len _ _ _ _) hl
  have HHv : Hid (∀ x, (havingP held 2 x).length ≤ 1048576 ∧ ∀ r ∈ havingP held 2 x, SmR r) := fun x => ⟨Nat.le_trans (having_len _ _ _) hl, fun r hr => hsm r (having_mem.1 hr).1⟩
  have HHd : Hid (∀ x, havingP held 2 x = whatP held 2 ++ pickR held (placesP held 2 x)) := fun x => rfl
  have HWl : Hid ((whatP held 2).length ≤ 1048576) := by
    have := List.length_filter_le (wholeB 2) held
    show _ ≤ _
    unfold whatP
    omega
  have HPk : Hid (∀ (P : List Nat) (j i : Nat), P[j]? = some i → i < held.length → pickR held (P.take (j + 1)) = pickR held (P.take j) ++ (match held[i]? with | some r => [r] | none => [])) := fun P j i hj hi => by
    rw [pick_succ hj hi, List.getElem?_eq_getElem hi]
  have HHit : Hid (∀ k (hk : k < l.length) (t : W3), (∀ j (hj : j < l.length), j < k → F (havingP held 2 l[j]) = none) → F (havingP held 2 l[k]) = some t → findW 2 (fun x => F (havingP held 2 x)) l = some (setW 2 l[k] t)) := fun k hk t ha h => findW_hit hk ha h
  have HNo : Hid (∀ k, l.length ≤ k → (∀ j (hj : j < l.length), j < k → F (havingP held 2 l[j]) = none) → findW 2 (fun x => F (havingP held 2 x)) l = none) := fun k hk ha => findW_none hk ha
  have HFl : Hid (FitS l) := hfl
  clear hw1 hsz hsz1 hbx hbl hB1 hcs hs hcell hv hsm hF hW hfl
  generalize findW 2 (fun x => F (havingP held 2 x)) l = fo at *
  generalize whatP held 2 = Wh at *
  have HHd := HHd
  unfold maxLen at hn hns
  go_enter Tryd.func47, Tryd.ntmps47
  go_wp2_with fail
  rw [← HW1.out]
  refine Calls.mono HPt.out ?_
  rintro e w2 ⟨y, L, n, rfl, hmap, hrow, hst, hpl, hn2, hb2⟩
  have HMp : Hid (L.map (·.1) = Wh) := hmap
  have HO2 : Hid (w2.ownsRow (w1.heap.size + 1) 40 3 y L.length (flatG L)) := hrow
  have HSt : Hid (StG w L) := hst
  have HP2 : Hid (PlIs w2 (w1.heap.size + 1) w1.heap.size n (placesP held 2)) := hpl
  have hn3 : n < maxLen := by unfold maxLen; omega
  have HB2 : Hid (Below w1.heap.size w1 w2) := hb2
  have hx := HBl.out.below hb2
  have z2 := hx.c2
  have HLl : Hid (L.length ≤ 1048576) := by
    have h := congrArg List.length hmap
    rw [List.length_map] at h
    show _ ≤ _
    rw [h]
    exact HWl.out
  clear hmap hrow hst hpl hb2 hx hn2
  go_wp2_with fail
  have HP3 : Hid (∀ w3, Below w2.heap.size w2 w3 → PlIs w3 (w1.heap.size + 1) w1.heap.size n (placesP held 2)) := fun w3 h => HP2.out.below h
  have HX2 : Hid (Bx3 w2 (w.heap.size + 1) (.string ⟨#[]⟩) (.string ⟨#[]⟩) (.string ⟨#[]⟩) 68) := HBx.out.below HB2.out
  have HL2 : Hid (Bx3 w2 w.heap.size (.slice p0 n0 c0) (.slice p1 n1 c1) (.slice ps l.length cs) 83) := HBl.out.below HB2.out
  have HBw2 : Hid (Below w.heap.size w w2) := HB1.out.trans (HB2.out.mono HB1.out.size)
  clear z2
  go_loopw [31] (fun iv wr => ∃ k : Nat, k ≤ l.length ∧ iv = .int .i64 k ∧ (∀ j (hj : j < l.length), j < k → F (havingP held 2 l[j]) = none) ∧ Bx3 wr (w.heap.size + 1) (.string ⟨#[]⟩) (.string ⟨#[]⟩) (.string ⟨#[]⟩) 68 ∧ Bx3 wr w.heap.size (.slice p0 n0 c0) (.slice p1 n1 c1) (.slice ps l.length cs) 83 ∧
      PlIs wr (w1.heap.size + 1) w1.heap.size n (placesP held 2) ∧ wr.ownsRow (w1.heap.size + 1) 40 3 y L.length (flatG L) ∧ Below w.heap.size w wr) (fun iv _ => l.length - (intOf iv).toNat)
  case atStart => exact ⟨0, Nat.zero_le _, rfl, (fun j _ h => absurd h (Nat.not_lt_zero _)), HX2.out, HL2.out, HP2.out, HO2.out, HBw2.out⟩
  case round =>
    obtain ⟨k, hk, rfl, hall, hx, hl2, hpl, hrow, hbel⟩ := hrel
    have HAll : Hid (∀ j (hj : j < l.length), j < k → F (havingP held 2 l[j]) = none) := hall
    have HX : Hid (Bx3 wr (w.heap.size + 1) (.string ⟨#[]⟩) (.string ⟨#[]⟩) (.string ⟨#[]⟩) 68) := hx
    have HL : Hid (Bx3 wr w.heap.size (.slice p0 n0 c0) (.slice p1 n1 c1) (.slice ps l.length cs) 83) := hl2
    have HP : Hid (PlIs wr (w1.heap.size + 1) w1.heap.size n (placesP held 2)) := hpl
    have HO : Hid (wr.ownsRow (w1.heap.size + 1) 40 3 y L.length (flatG L)) := hrow
    have HB : Hid (Below w.heap.size w wr) := hbel
    clear hall hx hl2 hpl hrow hbel HX2 HL2 HP2 HO2 HBw2 HB2 HP3
    by_cases hlt : k < l.length
    · obtain ⟨gs, os, rfl, hlc, hc0⟩ := HCs.out k hlt
      have hc1 := hc0 wr HB.out
      have hkI : (k : Int) < (l.length : Int) := by omega
      have HCl : Hid (Calls Tryd.prog 60 #[y] wr fun e w' => ∃ u, e = .returned u ∧ w'.ownsRow wr.heap.size 40 3 u L.length (flatG L) ∧ Below wr.heap.size wr w') := cloneR_any _ y L wr HO.out (flatG_one HSt.out) HLl.out
      have hkey : keyOf Tryd.prog 9 (.string (Ba l[k])) = some (.string l[k]) := keyS _ (HFl.out _ (List.getElem_mem hlt))
      have HK : Hid (keyOf Tryd.prog 9 (.string (Ba l[k])) = some (.string l[k])) := hkey
      have HKl : Hid (k < l.length) := hlt
      have HHk := HHit.out k hlt
      have HHitk : Hid (∀ t, F (havingP held 2 l[k]) = some t → fo = some (setW 2 l[k] t)) := fun t h => HHk t HAll.out h
      have HNok : Hid (F (havingP held 2 l[k]) = none → ∀ j (hj : j < l.length), j < k + 1 → F (havingP held 2 l[j]) = none) := fun h j hj hjk => by
        rcases Nat.lt_succ_iff_lt_or_eq.1 hjk with h2 | h2
        · exact HAll.out j hj h2
        · subst h2; exact h
      have HPik : Hid (∀ j (hj : j < (placesP held 2 l[k]).length), (placesP held 2 l[k])[j] < held.length) := HPi.out _
      have HPnk : Hid ((placesP held 2 l[k]).length ≤ 1048576) := HPn.out _
      have HHvk : Hid ((havingP held 2 l[k]).length ≤ 1048576 ∧ ∀ r ∈ havingP held 2 l[k], SmR r) := HHv.out _
      have HHdk : Hid (havingP held 2 l[k] = Wh ++ pickR held (placesP held 2 l[k])) := HHd.out _
      clear hc0 hkey HHk
      generalize l[k] = x at *
      obtain ⟨D, hgp, hnd⟩ := HP.out
      have HNd : Hid (Nd (placesP held 2 x) (D.atKey (.string x) .nil)) := hnd x
      have HG : Hid (Grp wr (w1.heap.size + 1) w1.heap.size n D) := hgp
      clear hgp hnd
      have hkey := HK.out
      generalize hPx : placesP held 2 x = Px at *
      generalize hyx : Ba x = yx at *
      go_wp2_with fail
      refine Calls.mono HCl.out ?_
      rintro e w3 ⟨u, rfl, hu, hb3⟩
      have HU : Hid (w3.ownsRow wr.heap.size 40 3 u L.length (flatG L)) := hu
      have HB3 : Hid (Below wr.heap.size wr w3) := hb3
      have HG3 : Hid (Grp w3 (w1.heap.size + 1) w1.heap.size n D) := HG.out.below hb3
      clear hu hb3
      go_wp2_with (at_lookup; refine wpList_lookup_groups _ rfl _ _ 92 rfl 9 97 3 .i64 lawS Tryd.underlying92 (zeroI _) (w1.heap.size + 1) w1.heap.size n D rfl HG3.out hn3 _ _ rfl hkey ?_; intro v zs hat hoi hzl hback; have hz := Nd.ints (hat ▸ HNd.out) hoi; subst hz; obtain ⟨pi, ci, rfl, hpi⟩ := ints_form hoi; have HIn : Hid (w3.ownsInts (w1.heap.size + 1) 3 .i64 (.slice pi Px.length ci) (intsN Px)) := hoi; have HPp : Hid (0 < Px.length → ∃ g, pi = some ⟨g, 0, none⟩ ∧ Px.length ≤ ci) := hpi; clear hat hoi hzl hback hpi)
      go_loopw [12, 41] (fun hvv jv wq => ∃ (j : Nat) (M : List RV), j ≤ Px.length ∧ jv = .int .i64 j ∧ wq.ownsRow wr.heap.size 40 3 hvv (L ++ M).length (flatG (L ++ M)) ∧ M.map (·.1) = pickR held (Px.take j) ∧ StG w M ∧ M.length ≤ j ∧
        wq.ownsInts (w1.heap.size + 1) 3 .i64 (.slice pi Px.length ci) (intsN Px) ∧ Below wr.heap.size wr wq) (fun _ jv _ => Px.length - (intOf jv).toNat)
      case atStart => exact ⟨0, [], Nat.zero_le _, rfl, by rw [List.append_nil]; exact HU.out, rfl, (fun q hq => by simp at hq), Nat.le_refl _, HIn.out, HB3.out⟩
      case round =>
        obtain ⟨j, M, hj, rfl, hrow, hmap, hst, hml, hin, hbel⟩ := hrel
        rename World => wq
        have HQo : Hid (wq.ownsRow wr.heap.size 40 3 u12 (L ++ M).length (flatG (L ++ M))) := hrow
        have HQm : Hid (M.map (·.1) = pickR held (Px.take j)) := hmap
        have HQs : Hid (StG w M) := hst
        have HQi : Hid (wq.ownsInts (w1.heap.size + 1) 3 .i64 (.slice pi Px.length ci) (intsN Px)) := hin
        have HQb : Hid (Below wr.heap.size wr wq) := hbel
        clear hrow hmap hst hin hbel HU HIn HB3
        by_cases hjt : j < Px.length
        · obtain ⟨gi, rfl, hci⟩ := HPp.out (by omega)
          have hcj := ints_cell HQi.out hjt
          have hPj : Px[j]? = some Px[j] := List.getElem?_eq_getElem hjt
          have hi := HPik.out j hjt
          obtain ⟨g, o, rfl, hlc2, hg, hc⟩ := HC.out Px[j] hi
          obtain ⟨q1, m1, d1, q2, m2, d2, q3, m3, d3, k1, k2, k3, t1, t2, t3⟩ := hc wq (HB.out.trans (HQb.out.mono HB.out.size))
          have HPs : Hid (pickR held (Px.take (j + 1)) = pickR held (Px.take j) ++ [held[Px[j]]]) := pick_succ hPj hi
          have HT : Hid (Strs w (.slice q1 m1 d1) held[Px[j]].1 ∧ Strs w (.slice q2 m2 d2) held[Px[j]].2.1 ∧ Strs w (.slice q3 m3 d3) held[Px[j]].2.2) := ⟨t1, t2, t3⟩
          have hjI : (j : Int) < (Px.length : Int) := by omega
          have hPl := HPnk.out
          have hiI : ((Px[j] : Nat) : Int) < (held.length : Int) := by omega
          clear hc hPj t1 t2 t3
          generalize held[Px[j]] = rk at *
          generalize Px[j] = i at *
          have HO4 : Hid ((wq.alloc (.cells #[.slice q1 m1 d1, .slice q2 m2 d2, .slice q3 m3 d3] 40)).ownsRow wr.heap.size 40 3 u12 (L ++ M).length (flatG (L ++ M))) := own_belowG HQo.out ((Below.refl _ _).alloc (Nat.le_refl _) _)
          have HI4 : Hid ((wq.alloc (.cells #[.slice q1 m1 d1, .slice q2 m2 d2, .slice q3 m3 d3] 40)).ownsInts (w1.heap.size + 1) 3 .i64 (.slice (some ⟨gi, 0, none⟩) Px.length ci) (intsN Px)) := HQi.out.alloc _
          have HB4 : Hid (Below wr.heap.size wr (wq.alloc (.cells #[.slice q1 m1 d1, .slice q2 m2 d2, .slice q3 m3 d3] 40))) := HQb.out.alloc HQb.out.size _
          have HL4 : Hid ((L ++ M).length ≤ 2097152) := by
            have h1 := HLl.out
            show _ ≤ _
            rw [List.length_append]
            omega
          go_wp2_with (at_builtin; refine wpList_append_own _ rfl _ _ 29 rfl wr.heap.size 40 ir (.agg #[.slice none 0 0, .slice none 0 0, .slice none 0 0]) 3 72 Tryd.underlying29 hir hr0 hr1 hr2 rfl (by decide) _ _ _ rfl HO4.out ⟨wq.heap.size, 0, none⟩ 1 1 [.slice q1 m1 d1, .slice q2 m2 d2, .slice q3 m3 d3] rfl rfl cells3_new (by simp [Value.oneCell']) (by have := HL4.out; unfold maxLen; omega) (by have := HL4.out; omega) HB4.out.size ?_; intro v' w5 hown' hgrow hnil)
          have HO6 : Hid (w5.ownsRow wr.heap.size 40 3 v' (L ++ (M ++ [((rk, .slice q1 m1 d1, .slice q2 m2 d2, .slice q3 m3 d3) : RV)])).length (flatG (L ++ (M ++ [((rk, .slice q1 m1 d1, .slice q2 m2 d2, .slice q3 m3 d3) : RV)])))) := by
            show w5.ownsRow _ _ _ _ _ _
            rw [← List.append_assoc, flatG_append (L ++ M), @List.length_append _ (L ++ M)]
            exact hown'
          have HM6 : Hid ((M ++ [((rk, .slice q1 m1 d1, .slice q2 m2 d2, .slice q3 m3 d3) : RV)]).map (·.1) = pickR held (Px.take (j + 1))) := by
            show _ = _
            rw [List.map_append, HQm.out, HPs.out]
            rfl
          have HS6 : Hid (StG w (M ++ [((rk, .slice q1 m1 d1, .slice q2 m2 d2, .slice q3 m3 d3) : RV)])) := HQs.out.append (fun q hq => by
            rw [List.mem_singleton] at hq
            subst hq
            exact HT.out)
          have HI6 : Hid (w5.ownsInts (w1.heap.size + 1) 3 .i64 (.slice (some ⟨gi, 0, none⟩) Px.length ci) (intsN Px)) := HI4.out.kept hgrow (rows_ne HI4.out.1 HO4.out (by decide))
          have HB6 : Hid (Below wr.heap.size wr w5) := HB4.out.grown hgrow HB4.out.size (fun j hj => (World.ownsRow.lt HO4.out j hj).1)
          have HN6 : Hid ((M ++ [((rk, .slice q1 m1 d1, .slice q2 m2 d2, .slice q3 m3 d3) : RV)]).length ≤ j + 1) := by
            show _ ≤ _
            rw [List.length_append]
            exact Nat.succ_le_succ hml
          clear hown' hgrow hnil
          go_roundw
          case rel => exact ⟨j + 1, _, by omega, by go_num, HO6.out, HM6.out, HS6.out, HN6.out, HI6.out, HB6.out⟩
          case measure => simp [intOf]; omega
        · have hjE : j = Px.length := by omega
          have hjI : ¬ ((j : Int) < (Px.length : Int)) := by omega
          have hmp : (L ++ M).map (·.1) = havingP held 2 x := by
            rw [List.map_append, HMp.out, HQm.out, HHdk.out, hjE, List.take_of_length_le (Nat.le_refl _)]
          have hBwq : Below w.heap.size w wq := HB.out.trans (HQb.out.mono HB.out.size)
          have hrl : Rls wq u12 (havingP held 2 x) := by
            rw [← hmp]
            exact rls_of_owns HQo.out ((HSt.out.append HQs.out).below hBwq)
          have HCall : Hid (Calls Tryd.prog 47 #[u12, .agg #[.slice p0 n0 c0, .slice p1 n1 c1, .slice (some ⟨gs, os, none⟩) l.length cs], .int .i64 3] wq (GQ (F (havingP held 2 x)) wq)) := HF.out u12 _ wq hBwq hrl HHvk.out.1 HHvk.out.2
          have HXq : Hid (Bx3 wq (w.heap.size + 1) (.string ⟨#[]⟩) (.string ⟨#[]⟩) (.string ⟨#[]⟩) 68) := HX.out.below HQb.out
          have HLq : Hid (Bx3 wq w.heap.size (.slice p0 n0 c0) (.slice p1 n1 c1) (.slice (some ⟨gs, os, none⟩) l.length cs) 83) := HL.out.below HQb.out
          have HBq : Hid (Below w.heap.size w wq) := hBwq
          have x0 := HLq.out.c0
          have x1 := HLq.out.c1
          have x2 := HLq.out.c2
          clear hmp hBwq hrl hjE
          cases hFr : F (havingP held 2 x) with
          | none =>
            have HCn : Hid (Calls Tryd.prog 47 #[u12, .agg #[.slice p0 n0 c0, .slice p1 n1 c1, .slice (some ⟨gs, os, none⟩) l.length cs], .int .i64 3] wq fun e w' => e = .returned (.tuple #[.agg #[.string ⟨#[]⟩, .string ⟨#[]⟩, .string ⟨#[]⟩], .bool false]) ∧ Below wq.heap.size wq w') := by
              have h := HCall.out
              rw [hFr] at h
              exact h
            have HNk : Hid (∀ j (hj : j < l.length), j < k + 1 → F (havingP held 2 l[j]) = none) := HNok.out hFr
            clear hFr HHitk HNok HCall
            go_wp2_with fail
            refine Calls.mono HCn.out ?_
            rintro e w5 ⟨rfl, hb5⟩
            have HX5 : Hid (Bx3 w5 (w.heap.size + 1) (.string ⟨#[]⟩) (.string ⟨#[]⟩) (.string ⟨#[]⟩) 68) := HXq.out.below hb5
            have HB5 : Hid (Below wr.heap.size wr w5) := HQb.out.trans (hb5.mono HQb.out.size)
            have HL5 : Hid (Bx3 w5 w.heap.size (.slice p0 n0 c0) (.slice p1 n1 c1) (.slice (some ⟨gs, os, none⟩) l.length cs) 83) := HLq.out.below hb5
            have f0 := HX5.out.free 0
            have f1 := HX5.out.free 1
            have f2 := HX5.out.free 2
            have y0 := HX5.out.c0
            have y1 := HX5.out.c1
            have y2 := HX5.out.c2
            have hg6 := put3_grown w5 (w.heap.size + 1) (.string ⟨#[]⟩) (.string ⟨#[]⟩) (.string ⟨#[]⟩)
            have HX6 : Hid (Bx3 (put3 w5 (w.heap.size + 1) (.string ⟨#[]⟩) (.string ⟨#[]⟩) (.string ⟨#[]⟩)) (w.heap.size + 1) (.string ⟨#[]⟩) (.string ⟨#[]⟩) (.string ⟨#[]⟩) 68) := put3_box HX5.out _ _ _
            have HL6 : Hid (Bx3 (put3 w5 (w.heap.size + 1) (.string ⟨#[]⟩) (.string ⟨#[]⟩) (.string ⟨#[]⟩)) w.heap.size (.slice p0 n0 c0) (.slice p1 n1 c1) (.slice (some ⟨gs, os, none⟩) l.length cs) 83) := HL5.out.grown hg6 (by simp)
            have HP6 : Hid (PlIs (put3 w5 (w.heap.size + 1) (.string ⟨#[]⟩) (.string ⟨#[]⟩) (.string ⟨#[]⟩)) (w1.heap.size + 1) w1.heap.size n (placesP held 2)) :=
              (HP.out.below HB5.out).kept hg6 (by have := HS1.out; simp; omega) (fun g hg cur => by injection hg with hg; rw [← hg]; exact HX5.out.notInts (by decide) cur)
            have ho5 := own_belowG HO.out HB5.out
            have HO6 : Hid ((put3 w5 (w.heap.size + 1) (.string ⟨#[]⟩) (.string ⟨#[]⟩) (.string ⟨#[]⟩)).ownsRow (w1.heap.size + 1) 40 3 y L.length (flatG L)) := World.ownsRow.kept ho5 hg6 (Or.inr (HX5.out.row_ne ho5 (by decide)))
            have hbw5 := HB.out.trans (HB5.out.mono HB.out.size)
            have HB6 : Hid (Below w.heap.size w (put3 w5 (w.heap.size + 1) (.string ⟨#[]⟩) (.string ⟨#[]⟩) (.string ⟨#[]⟩))) := hbw5.grown hg6 hbw5.size (fun j hj => by injection hj with hj; omega)
            clear hb5 hg6 ho5 hbw5
            go_wp2_with fail
            go_roundw
            case rel => exact ⟨k + 1, by omega, by go_num, HNk.out, HX6.out, HL6.out, HP6.out, HO6.out, HB6.out⟩
            case measure => simp [intOf]; omega
          | some t =>
            obtain ⟨t0, t1, t2⟩ := t
            have HCs2 : Hid (Calls Tryd.prog 47 #[u12, .agg #[.slice p0 n0 c0, .slice p1 n1 c1, .slice (some ⟨gs, os, none⟩) l.length cs], .int .i64 3] wq fun e w' => e = .returned (.tuple #[.agg #[.string (Ba t0), .string (Ba t1), .string (Ba t2)], .bool true]) ∧ Below wq.heap.size wq w') := by
              have h := HCall.out
              rw [hFr] at h
              exact h
            have HFo : Hid (fo = some (setW 2 x (t0, t1, t2))) := HHitk.out _ hFr
            have HAr : Hid (arrV (setW 2 x (t0, t1, t2)) = .agg #[.string (Ba t0), .string (Ba t1), .string yx]) := by
              show _ = _
              rw [← hyx]
              rfl
            clear hFr HHitk HNok HCall
            generalize Ba t0 = z0 at *
            generalize Ba t1 = z1 at *
            generalize Ba t2 = z2 at *
            go_wp2_with fail
            refine Calls.mono HCs2.out ?_
            rintro e w5 ⟨rfl, hb5⟩
            have HX5 : Hid (Bx3 w5 (w.heap.size + 1) (.string ⟨#[]⟩) (.string ⟨#[]⟩) (.string ⟨#[]⟩) 68) := HXq.out.below hb5
            have HB5 : Hid (Below w.heap.size w w5) := HBq.out.trans (hb5.mono HBq.out.size)
            have f0 := HX5.out.free 0
            have f1 := HX5.out.free 1
            have f2 := HX5.out.free 2
            have y0 := HX5.out.c0
            have y1 := HX5.out.c1
            have y2 := HX5.out.c2
            have hx7 : Bx3 ((put3 w5 (w.heap.size + 1) (.string z0) (.string z1) (.string z2)).setCell ⟨w.heap.size + 1, 2, none⟩ (.string yx)) (w.heap.size + 1) (.string z0) (.string z1) (.string yx) 68 := heap_setCell_same _ _ 2 _ _ _ (put3_box HX5.out (.string z0) (.string z1) (.string z2))
            have u0 : ((((w5.setCell ⟨w.heap.size + 1, 0, none⟩ (.string z0)).setCell ⟨w.heap.size + 1, 1, none⟩ (.string z1)).setCell ⟨w.heap.size + 1, 2, none⟩ (.string z2)).setCell ⟨w.heap.size + 1, 2, none⟩ (.string yx)).cell? ⟨w.heap.size + 1, 0, none⟩ = some (.string z0) := hx7.c0
            have u1 : ((((w5.setCell ⟨w.heap.size + 1, 0, none⟩ (.string z0)).setCell ⟨w.heap.size + 1, 1, none⟩ (.string z1)).setCell ⟨w.heap.size + 1, 2, none⟩ (.string z2)).setCell ⟨w.heap.size + 1, 2, none⟩ (.string yx)).cell? ⟨w.heap.size + 1, 1, none⟩ = some (.string z1) := hx7.c1
            have u2 : ((((w5.setCell ⟨w.heap.size + 1, 0, none⟩ (.string z0)).setCell ⟨w.heap.size + 1, 1, none⟩ (.string z1)).setCell ⟨w.heap.size + 1, 2, none⟩ (.string z2)).setCell ⟨w.heap.size + 1, 2, none⟩ (.string yx)).cell? ⟨w.heap.size + 1, 2, none⟩ = some (.string yx) := hx7.c2
            have HX8 : Hid (Bx3 (put3 ((put3 w5 (w.heap.size + 1) (.string z0) (.string z1) (.string z2)).setCell ⟨w.heap.size + 1, 2, none⟩ (.string yx)) (w.heap.size + 1) (.string z0) (.string z1) (.string yx)) (w.heap.size + 1) (.string z0) (.string z1) (.string yx) 68) := put3_box hx7 _ _ _
            have hg8 := ((put3_grown w5 (w.heap.size + 1) (.string z0) (.string z1) (.string z2)).trans (grown_set1 (b := w.heap.size + 1) (i := 2) (u := .string yx))).trans (put3_grown _ (w.heap.size + 1) (.string z0) (.string z1) (.string yx))
            have HB8 : Hid (Below w.heap.size w (put3 ((put3 w5 (w.heap.size + 1) (.string z0) (.string z1) (.string z2)).setCell ⟨w.heap.size + 1, 2, none⟩ (.string yx)) (w.heap.size + 1) (.string z0) (.string z1) (.string yx))) := HB5.out.grown hg8 HB5.out.size (fun j hj => by injection hj with hj; omega)
            clear hb5 hx7 hg8
            go_wp2_with fail
            refine bodyPost_ret (v := .tuple #[.agg #[.string z0, .string z1, .string yx], .bool true]) ?_ rfl ⟨by rw [HFo.out, ← HAr.out]; rfl, HB8.out⟩
            exact results_cell_tmp rfl _ _ _ _ _ _ _ _ rfl rfl HX8.out Tryd.underlying68 rfl hs3.out
    · have HN : Hid (fo = none) := HNo.out k (by omega) HAll.out
      have hkI : ¬ ((k : Int) < (l.length : Int)) := by omega
      have y0 := HX.out.c0
      have y1 := HX.out.c1
      have y2 := HX.out.c2
      have f0 := HX.out.free 0
      have f1 := HX.out.free 1
      have f2 := HX.out.free 2
      have HX6 : Hid (Bx3 (put3 wr (w.heap.size + 1) (.string ⟨#[]⟩) (.string ⟨#[]⟩) (.string ⟨#[]⟩)) (w.heap.size + 1) (.string ⟨#[]⟩) (.string ⟨#[]⟩) (.string ⟨#[]⟩) 68) := put3_box HX.out _ _ _
      have HB6 : Hid (Below w.heap.size w (put3 wr (w.heap.size + 1) (.string ⟨#[]⟩) (.string ⟨#[]⟩) (.string ⟨#[]⟩))) := HB.out.grown (put3_grown _ _ _ _ _) HB.out.size (fun j hj => by injection hj with hj; omega)
      go_wp2_with fail
      refine bodyPost_ret (v := .tuple #[.agg #[.string ⟨#[]⟩, .string ⟨#[]⟩, .string ⟨#[]⟩], .bool false]) ?_ rfl ⟨by rw [HN.out]; rfl, HB6.out⟩
      exact results_cell_tmp rfl _ _ _ _ _ _ _ _ rfl rfl HX6.out Tryd.underlying68 rfl hs3.out
set_option maxRecDepth 100000 in
set_option maxHeartbeats 16000000 in
theorem from_one (F : List Rl → Option W3) (W : World) (s0 s1 s2 : Value) (l : List Bs) (h0 : ∃ p n c, s0 = .slice p n c) (h1 : ∃ p n c, s1 = .slice p n c) (h2 : ∃ p n c, s2 = .slice p n c) (hs : Strs W s1 l) (hll : l.length ≤ 1048576) (hfl : FitS l) (hF : FromC 2 F W s0 s1 s2) :
    FromC 1 (fun held => findW 1 (fun x => F (havingP held 1 x)) l) W s0 s1 s2 := by
  intro v held w hW hv hl hsm
  show Calls _ _ _ _ (GQ (findW 1 (fun x => F (havingP held 1 x)) l) w)
  obtain ⟨ir, hir, hr0, hr1, hr2⟩ := info_parts info_rule
  obtain ⟨ps, cs, hse, hns, hcs⟩ := hs.open
  have HCs : Hid (∀ k (hk : k < l.length), ∃ g o, ps = some ⟨g, o, none⟩ ∧ l.length ≤ cs ∧ ∀ w1, Below w.heap.size w w1 → w1.cell? ⟨g, o + k, none⟩ = some (.string (Ba l[k]))) := fun k hk => by
    obtain ⟨g, o, e1, e2, e3⟩ := hcs k hk
    exact ⟨g, o, e1, e2, fun w1 hb => e3 w1 (hW.trans (hb.mono hW.size))⟩
  obtain ⟨p, c, rfl, hn, hcell⟩ := rls_open hv
  have HC : Hid (∀ k (hk : k < held.length), ∃ g o, p = some ⟨g, o, none⟩ ∧ held.length ≤ c ∧ g < w.heap.size ∧ ∀ w1, Below w.heap.size w w1 → ∃ p1 n1 c1 p2 n2 c2 p3 n3 c3,
      w1.cell? ⟨g, o + k * 3, none⟩ = some (.slice p1 n1 c1) ∧ w1.cell? ⟨g, o + k * 3 + 1, none⟩ = some (.slice p2 n2 c2) ∧ w1.cell? ⟨g, o + k * 3 + 2, none⟩ = some (.slice p3 n3 c3) ∧
      (Strs w (.slice p1 n1 c1) held[k].1 ∧ Strs w (.slice p2 n2 c2) held[k].2.1 ∧ Strs w (.slice p3 n3 c3) held[k].2.2)) := by
    intro k hk
    obtain ⟨g, o, e1, e2, e3, e4⟩ := hcell k hk
    refine ⟨g, o, e1, e2, e3, fun w1 hb => ?_⟩
    obtain ⟨p1, n1, c1, p2, n2, c2, p3, n3, c3, k1, k2, k3, _⟩ := e4 w1 hb
    obtain ⟨q1, m1, d1, q2, m2, d2, q3, m3, d3, j1, j2, j3, t1, t2, t3⟩ := e4 w (Below.refl _ _)
    have f1 := (hb.cell (p := ⟨g, o + k * 3, none⟩) e3).symm.trans k1
    have f2 := (hb.cell (p := ⟨g, o + k * 3 + 1, none⟩) e3).symm.trans k2
    have f3 := (hb.cell (p := ⟨g, o + k * 3 + 2, none⟩) e3).symm.trans k3
    rw [f1] at j1
    rw [f2] at j2
    rw [f3] at j3
    injection j1 with j1
    injection j2 with j2
    injection j3 with j3
    rw [← j1] at t1
    rw [← j2] at t2
    rw [← j3] at t3
    exact ⟨p1, n1, c1, p2, n2, c2, p3, n3, c3, k1, k2, k3, t1, t2, t3⟩
  obtain ⟨p0, n0, c0, rfl⟩ := h0
  obtain ⟨p1, n1, c1, rfl⟩ := h1
  obtain ⟨p2, n2, c2, rfl⟩ := h2
  have hse2 : ps = p1 ∧ l.length = n1 ∧ cs = c1 := by
    injection hse with e1 e2 e3
    exact ⟨e1.symm, e2.symm, e3.symm⟩
  obtain ⟨rfl, hln, rfl⟩ := hse2
  clear hse
  subst hln
  obtain ⟨w1, hw1⟩ : ∃ w1, w1 = (w.alloc (.cells #[.slice p0 n0 c0, .slice ps l.length cs, .slice p2 n2 c2] 83)).alloc (.cells #[.string ⟨#[]⟩, .string ⟨#[]⟩, .string ⟨#[]⟩] 68) := ⟨_, rfl⟩
  have hsz : (w.alloc (.cells #[.slice p0 n0 c0, .slice ps l.length cs, .slice p2 n2 c2] 83)).heap.size = w.heap.size + 1 := by simp
  have hsz1 : w1.heap.size = w.heap.size + 2 := by rw [hw1]; simp
  have hbx : Bx3 w1 (w.heap.size + 1) (.string ⟨#[]⟩) (.string ⟨#[]⟩) (.string ⟨#[]⟩) 68 := by
    rw [hw1, ← hsz]
    exact bx3_new _ _ _ _ _
  have hbl : Bx3 w1 w.heap.size (.slice p0 n0 c0) (.slice ps l.length cs) (.slice p2 n2 c2) 83 := by
    rw [hw1]
    exact (bx3_new _ _ _ _ _).below ((Below.refl _ _).alloc (Nat.le_refl _) _)
  have HBx : Hid (Bx3 w1 (w.heap.size + 1) (.string ⟨#[]⟩) (.string ⟨#[]⟩) (.string ⟨#[]⟩) 68) := hbx
  have HBl : Hid (Bx3 w1 w.heap.size (.slice p0 n0 c0) (.slice ps l.length cs) (.slice p2 n2 c2) 83) := hbl
  have hB1 : Below w.heap.size w w1 := by
    rw [hw1]
    exact ((Below.refl _ _).alloc (Nat.le_refl _) _).alloc (by simp) _
  have HB1 : Hid (Below w.heap.size w w1) := hB1
  have HS1 : Hid (w1.heap.size = w.heap.size + 2) := hsz1
  have HW1 : Hid (w1 = (w.alloc (.cells #[.slice p0 n0 c0, .slice ps l.length cs, .slice p2 n2 c2] 83)).alloc (.cells #[.string ⟨#[]⟩, .string ⟨#[]⟩, .string ⟨#[]⟩] 68)) := hw1
  have hs3 : Hid ((Tryd.prog.info? 68).map (·.size) = some 3) := by
    show _ = _
    kernel_rfl
  have HPt : Hid (Calls Tryd.prog 56 #[.slice p held.length c, .int .i64 1] w1 fun e w' => ∃ (y : Value) (L : List RV) (n : Nat), e = .returned (.tuple #[y, .map (some w1.heap.size)]) ∧ L.map (·.1) = whatP held 1 ∧ w'.ownsRow (w1.heap.size + 1) 40 3 y L.length (flatG L) ∧ StG w L ∧
      PlIs w' (w1.heap.size + 1) w1.heap.size n (placesP held 1) ∧ n ≤ held.length * 1048576 ∧ Below w1.heap.size w1 w') := parted_from _ held 1 w w1 hv hB1 (by omega) hl hsm
  have HF : Hid (∀ (v : Value) (held : List Rl) (w2 : World), Below w.heap.size w w2 → Rls w2 v held → held.length ≤ 1048576 → (∀ r ∈ held, SmR r) → Calls Tryd.prog 47 #[v, .agg #[.slice p0 n0 c0, .slice ps l.length cs, .slice p2 n2 c2], .int .i64 2] w2 (GQ (F held) w2)) := fun v held w2 hb => hF v held w2 (hW.trans (hb.mono hW.size))
  have HPi : Hid (∀ x, ∀ j (hj : j < (placesP held 1 x).length), (placesP held 1 x)[j] < held.length) := fun x j hj => places_lt (List.getElem_mem hj)
  have HPn : Hid (∀ x, (placesP held 1 x).length ≤ 1048576) := fun x => Nat.le_trans (places_len _ _ _ _) hl
  have HHv : Hid (∀ x, (havingP held 1 x).length ≤ 1048576 ∧ ∀ r ∈ havingP held 1 x, SmR r) := fun x => ⟨Nat.le_trans (having_len _ _ _) hl, fun r hr => hsm r (having_mem.1 hr).1⟩
  have HHd : Hid (∀ x, havingP held 1 x = whatP held 1 ++ pickR held (placesP held 1 x)) := fun x => rfl
  have HWl : Hid ((whatP held 1).length ≤ 1048576) := by
    have := List.length_filter_le (wholeB 1) held
    show _ ≤ _
    unfold whatP
    omega
  have HPk : Hid (∀ (P : List Nat) (j i : Nat), P[j]? = some i → i < held.length → pickR held (P.take (j + 1)) = pickR held (P.take j) ++ (match held[i]? with | some r => [r] | none => [])) := fun P j i hj hi => by
    rw [pick_succ hj hi, List.getElem?_eq_getElem hi]
  have HHit : Hid (∀ k (hk : k < l.length) (t : W3), (∀ j (hj : j < l.length), j < k → F (havingP held 1 l[j]) = none) → F (havingP held 1 l[k]) = some t → findW 1 (fun x => F (havingP held 1 x)) l = some (setW 1 l[k] t)) := fun k hk t ha h => findW_hit hk ha h
  have HNo : Hid (∀ k, l.length ≤ k → (∀ j (hj : j < l.length), j < k → F (havingP held 1 l[j]) = none) → findW 1 (fun x => F (havingP held 1 x)) l = none) := fun k hk ha => findW_none hk ha
  have HFl : Hid (FitS l) := hfl
  clear hw1 hsz hsz1 hbx hbl hB1 hcs hs hcell hv hsm hF hW hfl
  generalize findW 1 (fun x => F (havingP held 1 x)) l = fo at *
  generalize whatP held 1 = Wh at *
  have HHd := HHd
  unfold maxLen at hn hns
  go_enter Tryd.func47, Tryd.ntmps47
  go_wp2_with fail
  rw [← HW1.out]
  refine Calls.mono HPt.out ?_
  rintro e w2 ⟨y, L, n, rfl, hmap, hrow, hst, hpl, hn2, hb2⟩
  have HMp : Hid (L.map (·.1) = Wh) := hmap
  have HO2 : Hid (w2.ownsRow (w1.heap.size + 1) 40 3 y L.length (flatG L)) := hrow
  have HSt : Hid (StG w L) := hst
  have HP2 : Hid (PlIs w2 (w1.heap.size + 1) w1.heap.size n (placesP held 1)) := hpl
  have hn3 : n < maxLen := by unfold maxLen; omega
  have HB2 : Hid (Below w1.heap.size w1 w2) := hb2
  have hx := HBl.out.below hb2
  have z1 := hx.c1
  have HLl : Hid (L.length ≤ 1048576) := by
    have h := congrArg List.length hmap
    rw [List.length_map] at h
    show _ ≤ _
    rw [h]
    exact HWl.out
  clear hmap hrow hst hpl hb2 hx hn2
  go_wp2_with fail
  have HP3 : Hid (∀ w3, Below w2.heap.size w2 w3 → PlIs w3 (w1.heap.size + 1) w1.heap.size n (placesP held 1)) := fun w3 h => HP2.out.below h
  have HX2 : Hid (Bx3 w2 (w.heap.size + 1) (.string ⟨#[]⟩) (.string ⟨#[]⟩) (.string ⟨#[]⟩) 68) := HBx.out.below HB2.out
  have HL2 : Hid (Bx3 w2 w.heap.size (.slice p0 n0 c0) (.slice ps l.length cs) (.slice p2 n2 c2) 83) := HBl.out.below HB2.out
  have HBw2 : Hid (Below w.heap.size w w2) := HB1.out.trans (HB2.out.mono HB1.out.size)
  clear z1
  go_loopw [31] (fun iv wr => ∃ k : Nat, k ≤ l.length ∧ iv = .int .i64 k ∧ (∀ j (hj : j < l.length), j < k → F (havingP held 1 l[j]) = none) ∧ Bx3 wr (w.heap.size + 1) (.string ⟨#[]⟩) (.string ⟨#[]⟩) (.string ⟨#[]⟩) 68 ∧ Bx3 wr w.heap.size (.slice p0 n0 c0) (.slice ps l.length cs) (.slice p2 n2 c2) 83 ∧
      PlIs wr (w1.heap.size + 1) w1.heap.size n (placesP held 1) ∧ wr.ownsRow (w1.heap.size + 1) 40 3 y L.length (flatG L) ∧ Below w.heap.size w wr) (fun iv _ => l.length - (intOf iv).toNat)
  case atStart => exact ⟨0, Nat.zero_le _, rfl, (fun j _ h => absurd h (Nat.not_lt_zero _)), HX2.out, HL2.out, HP2.out, HO2.out, HBw2.out⟩
  case round =>
    obtain ⟨k, hk, rfl, hall, hx, hl2, hpl, hrow, hbel⟩ := hrel
    have HAll : Hid (∀ j (hj : j < l.length), j < k → F (havingP held 1 l[j]) = none) := hall
    have HX : Hid (Bx3 wr (w.heap.size + 1) (.string ⟨#[]⟩) (.string ⟨#[]⟩) (.string ⟨#[]⟩) 68) := hx
    have HL : Hid (Bx3 wr w.heap.size (.slice p0 n0 c0) (.slice ps l.length cs) (.slice p2 n2 c2) 83) := hl2
    have HP : Hid (PlIs wr (w1.heap.size + 1) w1.heap.size n (placesP held 1)) := hpl
    have HO : Hid (wr.ownsRow (w1.heap.size + 1) 40 3 y L.length (flatG L)) := hrow
    have HB : Hid (Below w.heap.size w wr) := hbel
    clear hall hx hl2 hpl hrow hbel HX2 HL2 HP2 HO2 HBw2 HB2 HP3
    by_cases hlt : k < l.length
    · obtain ⟨gs, os, rfl, hlc, hc0⟩ := HCs.out k hlt
      have hc1 := hc0 wr HB.out
      have hkI : (k : Int) < (l.length : Int) := by omega
      have HCl : Hid (Calls Tryd.prog 60 #[y] wr fun e w' => ∃ u, e = .returned u ∧ w'.ownsRow wr.heap.size 40 3 u L.length (flatG L) ∧ Below wr.heap.size wr w') := cloneR_any _ y L wr HO.out (flatG_one HSt.out) HLl.out
      have hkey : keyOf Tryd.prog 9 (.string (Ba l[k])) = some (.string l[k]) := keyS _ (HFl.out _ (List.getElem_mem hlt))
      have HK : Hid (keyOf Tryd.prog 9 (.string (Ba l[k])) = some (.string l[k])) := hkey
      have HKl : Hid (k < l.length) := hlt
      have HHk := HHit.out k hlt
      have HHitk : Hid (∀ t, F (havingP held 1 l[k]) = some t → fo = some (setW 1 l[k] t)) := fun t h => HHk t HAll.out h
      have HNok : Hid (F (havingP held 1 l[k]) = none → ∀ j (hj : j < l.length), j < k + 1 → F (havingP held 1 l[j]) = none) := fun h j hj hjk => by
        rcases Nat.lt_succ_iff_lt_or_eq.1 hjk with h2 | h2
        · exact HAll.out j hj h2
        · subst h2; exact h
      have HPik : Hid (∀ j (hj : j < (placesP held 1 l[k]).length), (placesP held 1 l[k])[j] < held.length) := HPi.out _
      have HPnk : Hid ((placesP held 1 l[k]).length ≤ 1048576) := HPn.out _
      have HHvk : Hid ((havingP held 1 l[k]).length ≤ 1048576 ∧ ∀ r ∈ havingP held 1 l[k], SmR r) := HHv.out _
      have HHdk : Hid (havingP held 1 l[k] = Wh ++ pickR held (placesP held 1 l[k])) := HHd.out _
      clear hc0 hkey HHk
      generalize l[k] = x at *
      obtain ⟨D, hgp, hnd⟩ := HP.out
      have HNd : Hid (Nd (placesP held 1 x) (D.atKey (.string x) .nil)) := hnd x
      have HG : Hid (Grp wr (w1.heap.size + 1) w1.heap.size n D) := hgp
      clear hgp hnd
      have hkey := HK.out
      generalize hPx : placesP held 1 x = Px at *
      generalize hyx : Ba x = yx at *
      go_wp2_with fail
      refine Calls.mono HCl.out ?_
      rintro e w3 ⟨u, rfl, hu, hb3⟩
      have HU : Hid (w3.ownsRow wr.heap.size 40 3 u L.length (flatG L)) := hu
      have HB3 : Hid (Below wr.heap.size wr w3) := hb3
      have HG3 : Hid (Grp w3 (w1.heap.size + 1) w1.heap.size n D) := HG.out.below hb3
      clear hu hb3
      go_wp2_with (at_lookup; refine wpList_lookup_groups _ rfl _ _ 92 rfl 9 97 3 .i64 lawS Tryd.underlying92 (zeroI _) (w1.heap.size + 1) w1.heap.size n D rfl HG3.out hn3 _ _ rfl hkey ?_; intro v zs hat hoi hzl hback; have hz := Nd.ints (hat ▸ HNd.out) hoi; subst hz; obtain ⟨pi, ci, rfl, hpi⟩ := ints_form hoi; have HIn : Hid (w3.ownsInts (w1.heap.size + 1) 3 .i64 (.slice pi Px.length ci) (intsN Px)) := hoi; have HPp : Hid (0 < Px.length → ∃ g, pi = some ⟨g, 0, none⟩ ∧ Px.length ≤ ci) := hpi; clear hat hoi hzl hback hpi)
      go_loopw [12, 41] (fun hvv jv wq => ∃ (j : Nat) (M : List RV), j ≤ Px.length ∧ jv = .int .i64 j ∧ wq.ownsRow wr.heap.size 40 3 hvv (L ++ M).length (flatG (L ++ M)) ∧ M.map (·.1) = pickR held (Px.take j) ∧ StG w M ∧ M.length ≤ j ∧
        wq.ownsInts (w1.heap.size + 1) 3 .i64 (.slice pi Px.length ci) (intsN Px) ∧ Below wr.heap.size wr wq) (fun _ jv _ => Px.length - (intOf jv).toNat)
      case atStart => exact ⟨0, [], Nat.zero_le _, rfl, by rw [List.append_nil]; exact HU.out, rfl, (fun q hq => by simp at hq), Nat.le_refl _, HIn.out, HB3.out⟩
      case round =>
        obtain ⟨j, M, hj, rfl, hrow, hmap, hst, hml, hin, hbel⟩ := hrel
        rename World => wq
        have HQo : Hid (wq.ownsRow wr.heap.size 40 3 u12 (L ++ M).length (flatG (L ++ M))) := hrow
        have HQm : Hid (M.map (·.1) = pickR held (Px.take j)) := hmap
        have HQs : Hid (StG w M) := hst
        have HQi : Hid (wq.ownsInts (w1.heap.size + 1) 3 .i64 (.slice pi Px.length ci) (intsN Px)) := hin
        have HQb : Hid (Below wr.heap.size wr wq) := hbel
        clear hrow hmap hst hin hbel HU HIn HB3
        by_cases hjt : j < Px.length
        · obtain ⟨gi, rfl, hci⟩ := HPp.out (by omega)
          have hcj := ints_cell HQi.out hjt
          have hPj : Px[j]? = some Px[j] := List.getElem?_eq_getElem hjt
          have hi := HPik.out j hjt
          obtain ⟨g, o, rfl, hlc2, hg, hc⟩ := HC.out Px[j] hi
          obtain ⟨q1, m1, d1, q2, m2, d2, q3, m3, d3, k1, k2, k3, t1, t2, t3⟩ := hc wq (HB.out.trans (HQb.out.mono HB.out.size))
          have HPs : Hid (pickR held (Px.take (j + 1)) = pickR held (Px.take j) ++ [held[Px[j]]]) := pick_succ hPj hi
          have HT : Hid (Strs w (.slice q1 m1 d1) held[Px[j]].1 ∧ Strs w (.slice q2 m2 d2) held[Px[j]].2.1 ∧ Strs w (.slice q3 m3 d3) held[Px[j]].2.2) := ⟨t1, t2, t3⟩
          have hjI : (j : Int) < (Px.length : Int) := by omega
          have hPl := HPnk.out
          have hiI : ((Px[j] : Nat) : Int) < (held.length : Int) := by omega
          clear hc hPj t1 t2 t3
          generalize held[Px[j]] = rk at *
          generalize Px[j] = i at *
          have HO4 : Hid ((wq.alloc (.cells #[.slice q1 m1 d1, .slice q2 m2 d2, .slice q3 m3 d3] 40)).ownsRow wr.heap.size 40 3 u12 (L ++ M).length (flatG (L ++ M))) := own_belowG HQo.out ((Below.refl _ _).alloc (Nat.le_refl _) _)
          have HI4 : Hid ((wq.alloc (.cells #[.slice q1 m1 d1, .slice q2 m2 d2, .slice q3 m3 d3] 40)).ownsInts (w1.heap.size + 1) 3 .i64 (.slice (some ⟨gi, 0, none⟩) Px.length ci) (intsN Px)) := HQi.out.alloc _
          have HB4 : Hid (Below wr.heap.size wr (wq.alloc (.cells #[.slice q1 m1 d1, .slice q2 m2 d2, .slice q3 m3 d3] 40))) := HQb.out.alloc HQb.out.size _
          have HL4 : Hid ((L ++ M).length ≤ 2097152) := by
            have h1 := HLl.out
            show _ ≤ _
            rw [List.length_append]
            omega
          go_wp2_with (at_builtin; refine wpList_append_own _ rfl _ _ 29 rfl wr.heap.size 40 ir (.agg #[.slice none 0 0, .slice none 0 0, .slice none 0 0]) 3 72 Tryd.underlying29 hir hr0 hr1 hr2 rfl (by decide) _ _ _ rfl HO4.out ⟨wq.heap.size, 0, none⟩ 1 1 [.slice q1 m1 d1, .slice q2 m2 d2, .slice q3 m3 d3] rfl rfl cells3_new (by simp [Value.oneCell']) (by have := HL4.out; unfold maxLen; omega) (by have := HL4.out; omega) HB4.out.size ?_; intro v' w5 hown' hgrow hnil)
          have HO6 : Hid (w5.ownsRow wr.heap.size 40 3 v' (L ++ (M ++ [((rk, .slice q1 m1 d1, .slice q2 m2 d2, .slice q3 m3 d3) : RV)])).length (flatG (L ++ (M ++ [((rk, .slice q1 m1 d1, .slice q2 m2 d2, .slice q3 m3 d3) : RV)])))) := by
            show w5.ownsRow _ _ _ _ _ _
            rw [← List.append_assoc, flatG_append (L ++ M), @List.length_append _ (L ++ M)]
            exact hown'
          have HM6 : Hid ((M ++ [((rk, .slice q1 m1 d1, .slice q2 m2 d2, .slice q3 m3 d3) : RV)]).map (·.1) = pickR held (Px.take (j + 1))) := by
            show _ = _
            rw [List.map_append, HQm.out, HPs.out]
            rfl
          have HS6 : Hid (StG w (M ++ [((rk, .slice q1 m1 d1, .slice q2 m2 d2, .slice q3 m3 d3) : RV)])) := HQs.out.append (fun q hq => by
            rw [List.mem_singleton] at hq
            subst hq
            exact HT.out)
          have HI6 : Hid (w5.ownsInts (w1.heap.size + 1) 3 .i64 (.slice (some ⟨gi, 0, none⟩) Px.length ci) (intsN Px)) := HI4.out.kept hgrow (rows_ne HI4.out.1 HO4.out (by decide))
          have HB6 : Hid (Below wr.heap.size wr w5) := HB4.out.grown hgrow HB4.out.size (fun j hj => (World.ownsRow.lt HO4.out j hj).1)
          have HN6 : Hid ((M ++ [((rk, .slice q1 m1 d1, .slice q2 m2 d2, .slice q3 m3 d3) : RV)]).length ≤ j + 1) := by
            show _ ≤ _
            rw [List.length_append]
            exact Nat.succ_le_succ hml
          clear hown' hgrow hnil
          go_roundw
          case rel => exact ⟨j + 1, _, by omega, by go_num, HO6.out, HM6.out, HS6.out, HN6.out, HI6.out, HB6.out⟩
          case measure => simp [intOf]; omega
        · have hjE : j = Px.length := by omega
          have hjI : ¬ ((j : Int) < (Px.length : Int)) := by omega
          have hmp : (L ++ M).map (·.1) = havingP held 1 x := by
            rw [List.map_append, HMp.out, HQm.out, HHdk.out, hjE, List.take_of_length_le (Nat.le_refl _)]
          have hBwq : Below w.heap.size w wq := HB.out.trans (HQb.out.mono HB.out.size)
          have hrl : Rls wq u12 (havingP held 1 x) := by
            rw [← hmp]
            exact rls_of_owns HQo.out ((HSt.out.append HQs.out).below hBwq)
          have HCall : Hid (Calls Tryd.prog 47 #[u12, .agg #[.slice p0 n0 c0, .slice (some ⟨gs, os, none⟩) l.length cs, .slice p2 n2 c2], .int .i64 2] wq (GQ (F (havingP held 1 x)) wq)) := HF.out u12 _ wq hBwq hrl HHvk.out.1 HHvk.out.2
          have HXq : Hid (Bx3 wq (w.heap.size + 1) (.string ⟨#[]⟩) (.string ⟨#[]⟩) (.string ⟨#[]⟩) 68) := HX.out.below HQb.out
          have HLq : Hid (Bx3 wq w.heap.size (.slice p0 n0 c0) (.slice (some ⟨gs, os, none⟩) l.length cs) (.slice p2 n2 c2) 83) := HL.out.below HQb.out
          have HBq : Hid (Below w.heap.size w wq) := hBwq
          have x0 := HLq.out.c0
          have x1 := HLq.out.c1
          have x2 := HLq.out.c2
          clear hmp hBwq hrl hjE
          cases hFr : F (havingP held 1 x) with
          | none =>
            have HCn : Hid (Calls Tryd.prog 47 #[u12, .agg #[.slice p0 n0 c0, .slice (some ⟨gs, os, none⟩) l.length cs, .slice p2 n2 c2], .int .i64 2] wq fun e w' => e = .returned (.tuple #[.agg #[.string ⟨#[]⟩, .string ⟨#[]⟩, .string ⟨#[]⟩], .bool false]) ∧ Below wq.heap.size wq w') := by
              have h := HCall.out
              rw [hFr] at h
              exact h
            have HNk : Hid (∀ j (hj : j < l.length), j < k + 1 → F (havingP held 1 l[j]) = none) := HNok.out hFr
            clear hFr HHitk HNok HCall
            go_wp2_with fail
            refine Calls.mono HCn.out ?_
            rintro e w5 ⟨rfl, hb5⟩
            have HX5 : Hid (Bx3 w5 (w.heap.size + 1) (.string ⟨#[]⟩) (.string ⟨#[]⟩) (.string ⟨#[]⟩) 68) := HXq.out.below hb5
            have HB5 : Hid (Below wr.heap.size wr w5) := HQb.out.trans (hb5.mono HQb.out.size)
            have HL5 : Hid (Bx3 w5 w.heap.size (.slice p0 n0 c0) (.slice (some ⟨gs, os, none⟩) l.length cs) (.slice p2 n2 c2) 83) := HLq.out.below hb5
            have f0 := HX5.out.free 0
            have f1 := HX5.out.free 1
            have f2 := HX5.out.free 2
            have y0 := HX5.out.c0
            have y1 := HX5.out.c1
            have y2 := HX5.out.c2
            have hg6 := put3_grown w5 (w.heap.size + 1) (.string ⟨#[]⟩) (.string ⟨#[]⟩) (.string ⟨#[]⟩)
            have HX6 : Hid (Bx3 (put3 w5 (w.heap.size + 1) (.string ⟨#[]⟩) (.string ⟨#[]⟩) (.string ⟨#[]⟩)) (w.heap.size + 1) (.string ⟨#[]⟩) (.string ⟨#[]⟩) (.string ⟨#[]⟩) 68) := put3_box HX5.out _ _ _
            have HL6 : Hid (Bx3 (put3 w5 (w.heap.size + 1) (.string ⟨#[]⟩) (.string ⟨#[]⟩) (.string ⟨#[]⟩)) w.heap.size (.slice p0 n0 c0) (.slice (some ⟨gs, os, none⟩) l.length cs) (.slice p2 n2 c2) 83) := HL5.out.grown hg6 (by simp)
            have HP6 : Hid (PlIs (put3 w5 (w.heap.size + 1) (.string ⟨#[]⟩) (.string ⟨#[]⟩) (.string ⟨#[]⟩)) (w1.heap.size + 1) w1.heap.size n (placesP held 1)) :=
              (HP.out.below HB5.out).kept hg6 (by have := HS1.out; simp; omega) (fun g hg cur => by injection hg with hg; rw [← hg]; exact HX5.out.notInts (by decide) cur)
            have ho5 := own_belowG HO.out HB5.out
            have HO6 : Hid ((put3 w5 (w.heap.size + 1) (.string ⟨#[]⟩) (.string ⟨#[]⟩) (.string ⟨#[]⟩)).ownsRow (w1.heap.size + 1) 40 3 y L.length (flatG L)) := World.ownsRow.kept ho5 hg6 (Or.inr (HX5.out.row_ne ho5 (by decide)))
            have hbw5 := HB.out.trans (HB5.out.mono HB.out.size)
            have HB6 : Hid (Below w.heap.size w (put3 w5 (w.heap.size + 1) (.string ⟨#[]⟩) (.string ⟨#[]⟩) (.string ⟨#[]⟩))) := hbw5.grown hg6 hbw5.size (fun j hj => by injection hj with hj; omega)
            clear hb5 hg6 ho5 hbw5
            go_wp2_with fail
            go_roundw
            case rel => exact ⟨k + 1, by omega, by go_num, HNk.out, HX6.out, HL6.out, HP6.out, HO6.out, HB6.out⟩
            case measure => simp [intOf]; omega
          | some t =>
            obtain ⟨t0, t1, t2⟩ := t
            have HCs2 : Hid (Calls Tryd.prog 47 #[u12, .agg #[.slice p0 n0 c0, .slice (some ⟨gs, os, none⟩) l.length cs, .slice p2 n2 c2], .int .i64 2] wq fun e w' => e = .returned (.tuple #[.agg #[.string (Ba t0), .string (Ba t1), .string (Ba t2)], .bool true]) ∧ Below wq.heap.size wq w') := by
              have h := HCall.out
              rw [hFr] at h
              exact h
            have HFo : Hid (fo = some (setW 1 x (t0, t1, t2))) := HHitk.out _ hFr
            have HAr : Hid (arrV (setW 1 x (t0, t1, t2)) = .agg #[.string (Ba t0), .string yx, .string (Ba t2)]) := by
              show _ = _
              rw [← hyx]
              rfl
            clear hFr HHitk HNok HCall
            generalize Ba t0 = z0 at *
            generalize Ba t1 = z1 at *
            generalize Ba t2 = z2 at *
            go_wp2_with fail
            refine Calls.mono HCs2.out ?_
            rintro e w5 ⟨rfl, hb5⟩
            have HX5 : Hid (Bx3 w5 (w.heap.size + 1) (.string ⟨#[]⟩) (.string ⟨#[]⟩) (.string ⟨#[]⟩) 68) := HXq.out.below hb5
            have HB5 : Hid (Below w.heap.size w w5) := HBq.out.trans (hb5.mono HBq.out.size)
            have f0 := HX5.out.free 0
            have f1 := HX5.out.free 1
            have f2 := HX5.out.free 2
            have y0 := HX5.out.c0
            have y1 := HX5.out.c1
            have y2 := HX5.out.c2
            have hx7 : Bx3 ((put3 w5 (w.heap.size + 1) (.string z0) (.string z1) (.string z2)).setCell ⟨w.heap.size + 1, 1, none⟩ (.string yx)) (w.heap.size + 1) (.string z0) (.string yx) (.string z2) 68 := heap_setCell_same _ _ 1 _ _ _ (put3_box HX5.out (.string z0) (.string z1) (.string z2))
            have u0 : ((((w5.setCell ⟨w.heap.size + 1, 0, none⟩ (.string z0)).setCell ⟨w.heap.size + 1, 1, none⟩ (.string z1)).setCell ⟨w.heap.size + 1, 2, none⟩ (.string z2)).setCell ⟨w.heap.size + 1, 1, none⟩ (.string yx)).cell? ⟨w.heap.size + 1, 0, none⟩ = some (.string z0) := hx7.c0
            have u1 : ((((w5.setCell ⟨w.heap.size + 1, 0, none⟩ (.string z0)).setCell ⟨w.heap.size + 1, 1, none⟩ (.string z1)).setCell ⟨w.heap.size + 1, 2, none⟩ (.string z2)).setCell ⟨w.heap.size + 1, 1, none⟩ (.string yx)).cell? ⟨w.heap.size + 1, 1, none⟩ = some (.string yx) := hx7.c1
            have u2 : ((((w5.setCell ⟨w.heap.size + 1, 0, none⟩ (.string z0)).setCell ⟨w.heap.size + 1, 1, none⟩ (.string z1)).setCell ⟨w.heap.size + 1, 2, none⟩ (.string z2)).setCell ⟨w.heap.size + 1, 1, none⟩ (.string yx)).cell? ⟨w.heap.size + 1, 2, none⟩ = some (.string z2) := hx7.c2
            have HX8 : Hid (Bx3 (put3 ((put3 w5 (w.heap.size + 1) (.string z0) (.string z1) (.string z2)).setCell ⟨w.heap.size + 1, 1, none⟩ (.string yx)) (w.heap.size + 1) (.string z0) (.string yx) (.string z2)) (w.heap.size + 1) (.string z0) (.string yx) (.string z2) 68) := put3_box hx7 _ _ _
            have hg8 := ((put3_grown w5 (w.heap.size + 1) (.string z0) (.string z1) (.string z2)).trans (grown_set1 (b := w.heap.size + 1) (i := 1) (u := .string yx))).trans (put3_grown _ (w.heap.size + 1) (.string z0) (.string yx) (.string z2))
            have HB8 : Hid (Below w.heap.size w (put3 ((put3 w5 (w.heap.size + 1) (.string z0) (.string z1) (.string z2)).setCell ⟨w.heap.size + 1, 1, none⟩ (.string yx)) (w.heap.size + 1) (.string z0) (.string yx) (.string z2))) := HB5.out.grown hg8 HB5.out.size (fun j hj => by injection hj with hj; omega)
            clear hb5 hx7 hg8
            go_wp2_with fail
            refine bodyPost_ret (v := .tuple #[.agg #[.string z0, .string yx, .string z2], .bool true]) ?_ rfl ⟨by rw [HFo.out, ← HAr.out]; rfl, HB8.out⟩
            exact results_cell_tmp rfl _ _ _ _ _ _ _ _ rfl rfl HX8.out Tryd.underlying68 rfl hs3.out
    · have HN : Hid (fo = none) := HNo.out k (by omega) HAll.out
      have hkI : ¬ ((k : Int) < (l.length : Int)) := by omega
      have y0 := HX.out.c0
      have y1 := HX.out.c1
      have y2 := HX.out.c2
      have f0 := HX.out.free 0
      have f1 := HX.out.free 1
      have f2 := HX.out.free 2
      have HX6 : Hid (Bx3 (put3 wr (w.heap.size + 1) (.string ⟨#[]⟩) (.string ⟨#[]⟩) (.string ⟨#[]⟩)) (w.heap.size + 1) (.string ⟨#[]⟩) (.string ⟨#[]⟩) (.string ⟨#[]⟩) 68) := put3_box HX.out _ _ _
      have HB6 : Hid (Below w.heap.size w (put3 wr (w.heap.size + 1) (.string ⟨#[]⟩) (.string ⟨#[]⟩) (.string ⟨#[]⟩))) := HB.out.grown (put3_grown _ _ _ _ _) HB.out.size (fun j hj => by injection hj with hj; omega)
      go_wp2_with fail
      refine bodyPost_ret (v := .tuple #[.agg #[.string ⟨#[]⟩, .string ⟨#[]⟩, .string ⟨#[]⟩], .bool false]) ?_ rfl ⟨by rw [HN.out]; rfl, HB6.out⟩
      exact results_cell_tmp rfl _ _ _ _ _ _ _ _ rfl rfl HX6.out Tryd.underlying68 rfl hs3.out
set_option maxRecDepth 100000 in
set_option maxHeartbeats 16000000 in
theorem from_zero (F : List Rl → Option W3) (W : World) (s0 s1 s2 : Value) (l : List Bs) (h0 : ∃ p n c, s0 = .slice p n c) (h1 : ∃ p n c, s1 = .slice p n c) (h2 : ∃ p n c, s2 = .slice p n c) (hs : Strs W s0 l) (hll : l.length ≤ 1048576) (hfl : FitS l) (hF : FromC 1 F W s0 s1 s2) :
    FromC 0 (fun held => findW 0 (fun x => F (havingP held 0 x)) l) W s0 s1 s2 := by
  intro v held w hW hv hl hsm
  show Calls _ _ _ _ (GQ (findW 0 (fun x => F (havingP held 0 x)) l) w)
  obtain ⟨ir, hir, hr0, hr1, hr2⟩ := info_parts info_rule
  obtain ⟨ps, cs, hse, hns, hcs⟩ := hs.open
  have HCs : Hid (∀ k (hk : k < l.length), ∃ g o, ps = some ⟨g, o, none⟩ ∧ l.length ≤ cs ∧ ∀ w1, Below w.heap.size w w1 → w1.cell? ⟨g, o + k, none⟩ = some (.string (Ba l[k]))) := fun k hk => by
    obtain ⟨g, o, e1, e2, e3⟩ := hcs k hk
    exact ⟨g, o, e1, e2, fun w1 hb => e3 w1 (hW.trans (hb.mono hW.size))⟩
  obtain ⟨p, c, rfl, hn, hcell⟩ := rls_open hv
  have HC : Hid (∀ k (hk : k < held.length), ∃ g o, p = some ⟨g, o, none⟩ ∧ held.length ≤ c ∧ g < w.heap.size ∧ ∀ w1, Below w.heap.size w w1 → ∃ p1 n1 c1 p2 n2 c2 p3 n3 c3,
      w1.cell? ⟨g, o + k * 3, none⟩ = some (.slice p1 n1 c1) ∧ w1.cell? ⟨g, o + k * 3 + 1, none⟩ = some (.slice p2 n2 c2) ∧ w1.cell? ⟨g, o + k * 3 + 2, none⟩ = some (.slice p3 n3 c3) ∧
      (Strs w (.slice p1 n1 c1) held[k].1 ∧ Strs w (.slice p2 n2 c2) held[k].2.1 ∧ Strs w (.slice p3 n3 c3) held[k].2.2)) := by
    intro k hk
    obtain ⟨g, o, e1, e2, e3, e4⟩ := hcell k hk
    refine ⟨g, o, e1, e2, e3, fun w1 hb => ?_⟩
    obtain ⟨p1, n1, c1, p2, n2, c2, p3, n3, c3, k1, k2, k3, _⟩ := e4 w1 hb
    obtain ⟨q1, m1, d1, q2, m2, d2, q3, m3, d3, j1, j2, j3, t1, t2, t3⟩ := e4 w (Below.refl _ _)
    have f1 := (hb.cell (p := ⟨g, o + k * 3, none⟩) e3).symm.trans k1
    have f2 := (hb.cell (p := ⟨g, o + k * 3 + 1, none⟩) e3).symm.trans k2
    have f3 := (hb.cell (p := ⟨g, o + k * 3 + 2, none⟩) e3).symm.trans k3
    rw [f1] at j1
    rw [f2] at j2
    rw [f3] at j3
    injection j1 with j1
    injection j2 with j2
    injection j3 with j3
    rw [← j1] at t1
    rw [← j2] at t2
    rw [← j3] at t3
    exact ⟨p1, n1, c1, p2, n2, c2, p3, n3, c3, k1, k2, k3, t1, t2, t3⟩
  obtain ⟨p0, n0, c0, rfl⟩ := h0
  obtain ⟨p1, n1, c1, rfl⟩ := h1
  obtain ⟨p2, n2, c2, rfl⟩ := h2
  have hse2 : ps = p0 ∧ l.length = n0 ∧ cs = c0 := by
    injection hse with e1 e2 e3
    exact ⟨e1.symm, e2.symm, e3.symm⟩
  obtain ⟨rfl, hln, rfl⟩ := hse2
  clear hse
  subst hln
  obtain ⟨w1, hw1⟩ : ∃ w1, w1 = (w.alloc (.cells #[.slice ps l.length cs, .slice p1 n1 c1, .slice p2 n2 c2] 83)).alloc (.cells #[.string ⟨#[]⟩, .string ⟨#[]⟩, .string ⟨#[]⟩] 68) := ⟨_, rfl⟩
  have hsz : (w.alloc (.cells #[.slice ps l.length cs, .slice p1 n1 c1, .slice p2 n2 c2] 83)).heap.size = w.heap.size + 1 := by simp
  have hsz1 : w1.heap.size = w.heap.size + 2 := by rw [hw1]; simp
  have hbx : Bx3 w1 (w.heap.size + 1) (.string ⟨#[]⟩) (.string ⟨#[]⟩) (.string ⟨#[]⟩) 68 := by
    rw [hw1, ← hsz]
    exact bx3_new _ _ _ _ _
  have hbl : Bx3 w1 w.heap.size (.slice ps l.length cs) (.slice p1 n1 c1) (.slice p2 n2 c2) 83 := by
    rw [hw1]
    exact (bx3_new _ _ _ _ _).below ((Below.refl _ _).alloc (Nat.le_refl _) _)
  have HBx : Hid (Bx3 w1 (w.heap.size + 1) (.string ⟨#[]⟩) (.string ⟨#[]⟩) (.string ⟨#[]⟩) 68) := hbx
  have HBl : Hid (Bx3 w1 w.heap.size (.slice ps l.length cs) (.slice p1 n1 c1) (.slice p2 n2 c2) 83) := hbl
  have hB1 : Below w.heap.size w w1 := by
    rw [hw1]
    exact ((Below.refl _ _).alloc (Nat.le_refl _) _).alloc (by simp) _
  have HB1 : Hid (Below w.heap.size w w1) := hB1
  have HS1 : Hid (w1.heap.size = w.heap.size + 2) := hsz1
  have HW1 : Hid (w1 = (w.alloc (.cells #[.slice ps l.length cs, .slice p1 n1 c1, .slice p2 n2 c2] 83)).alloc (.cells #[.string ⟨#[]⟩, .string ⟨#[]⟩, .string ⟨#[]⟩] 68)) := hw1
  have hs3 : Hid ((Tryd.prog.info? 68).map (·.size) = some 3) := by
    show _ = _
    kernel_rfl
  have HPt : Hid (Calls Tryd.prog 56 #[.slice p held.length c, .int .i64 0] w1 fun e w' => ∃ (y : Value) (L : List RV) (n : Nat), e = .returned (.tuple #[y, .map (some w1.heap.size)]) ∧ L.map (·.1) = whatP held 0 ∧ w'.ownsRow (w1.heap.size + 1) 40 3 y L.length (flatG L) ∧ StG w L ∧
      PlIs w' (w1.heap.size + 1) w1.heap.size n (placesP held 0) ∧ n ≤ held.length * 1048576 ∧ Below w1.heap.size w1 w') := parted_from _ held 0 w w1 hv hB1 (by omega) hl hsm
  have HF : Hid (∀ (v : Value) (held : List Rl) (w2 : World), Below w.heap.size w w2 → Rls w2 v held → held.length ≤ 1048576 → (∀ r ∈ held, SmR r) → Calls Tryd.prog 47 #[v, .agg #[.slice ps l.length cs, .slice p1 n1 c1, .slice p2 n2 c2], .int .i64 1] w2 (GQ (F held) w2)) := fun v held w2 hb => hF v held w2 (hW.trans (hb.mono hW.size))
  have HPi : Hid (∀ x, ∀ j (hj : j < (placesP held 0 x).length), (placesP held 0 x)[j] < held.length) := fun x j hj => places_lt (List.getElem_mem hj)
  have HPn : Hid (∀ x, (placesP held 0 x).length ≤ 1048576) := fun x => Nat.le_trans (places_len _ _ _ _) hl
  have HHv : Hid (∀ x, (havingP held 0 x).length ≤ 1048576 ∧ ∀ r ∈ havingP held 0 x, SmR r) := fun x => ⟨Nat.le_trans (having_len _ _ _) hl, fun r hr => hsm r (having_mem.1 hr).1⟩
  have HHd : Hid (∀ x, havingP held 0 x = whatP held 0 ++ pickR held (placesP held 0 x)) := fun x => rfl
  have HWl : Hid ((whatP held 0).length ≤ 1048576) := by
    have := List.length_filter_le (wholeB 0) held
    show _ ≤ _
    unfold whatP
    omega
  have HPk : Hid (∀ (P : List Nat) (j i : Nat), P[j]? = some i → i < held.length → pickR held (P.take (j + 1)) = pickR held (P.take j) ++ (match held[i]? with | some r => [r] | none => [])) := fun P j i hj hi => by
    rw [pick_succ hj hi, List.getElem?_eq_getElem hi]
  have HHit : Hid (∀ k (hk : k < l.length) (t : W3), (∀ j (hj : j < l.length), j < k → F (havingP held 0 l[j]) = none) → F (havingP held 0 l[k]) = some t → findW 0 (fun x => F (havingP held 0 x)) l = some (setW 0 l[k] t)) := fun k hk t ha h => findW_hit hk ha h
  have HNo : Hid (∀ k, l.length ≤ k → (∀ j (hj : j < l.length), j < k → F (havingP held 0 l[j]) = none) → findW 0 (fun x => F (havingP held 0 x)) l = none) := fun k hk ha => findW_none hk ha
  have HFl : Hid (FitS l) := hfl
  clear hw1 hsz hsz1 hbx hbl hB1 hcs hs hcell hv hsm hF hW hfl
  generalize findW 0 (fun x => F (havingP held 0 x)) l = fo at *
  generalize whatP held 0 = Wh at *
  have HHd := HHd
  unfold maxLen at hn hns
  go_enter Tryd.func47, Tryd.ntmps47
  go_wp2_with fail
  rw [← HW1.out]
  refine Calls.mono HPt.out ?_
  rintro e w2 ⟨y, L, n, rfl, hmap, hrow, hst, hpl, hn2, hb2⟩
  have HMp : Hid (L.map (·.1) = Wh) := hmap
  have HO2 : Hid (w2.ownsRow (w1.heap.size + 1) 40 3 y L.length (flatG L)) := hrow
  have HSt : Hid (StG w L) := hst
  have HP2 : Hid (PlIs w2 (w1.heap.size + 1) w1.heap.size n (placesP held 0)) := hpl
  have hn3 : n < maxLen := by unfold maxLen; omega
  have HB2 : Hid (Below w1.heap.size w1 w2) := hb2
  have hx := HBl.out.below hb2
  have z0 := hx.c0
  have HLl : Hid (L.length ≤ 1048576) := by
    have h := congrArg List.length hmap
    rw [List.length_map] at h
    show _ ≤ _
    rw [h]
    exact HWl.out
  clear hmap hrow hst hpl hb2 hx hn2
  go_wp2_with fail
  have HP3 : Hid (∀ w3, Below w2.heap.size w2 w3 → PlIs w3 (w1.heap.size + 1) w1.heap.size n (placesP held 0)) := fun w3 h => HP2.out.below h
  have HX2 : Hid (Bx3 w2 (w.heap.size + 1) (.string ⟨#[]⟩) (.string ⟨#[]⟩) (.string ⟨#[]⟩) 68) := HBx.out.below HB2.out
  have HL2 : Hid (Bx3 w2 w.heap.size (.slice ps l.length cs) (.slice p1 n1 c1) (.slice p2 n2 c2) 83) := HBl.out.below HB2.out
  have HBw2 : Hid (Below w.heap.size w w2) := HB1.out.trans (HB2.out.mono HB1.out.size)
  clear z0
  go_loopw [31] (fun iv wr => ∃ k : Nat, k ≤ l.length ∧ iv = .int .i64 k ∧ (∀ j (hj : j < l.length), j < k → F (havingP held 0 l[j]) = none) ∧ Bx3 wr (w.heap.size + 1) (.string ⟨#[]⟩) (.string ⟨#[]⟩) (.string ⟨#[]⟩) 68 ∧ Bx3 wr w.heap.size (.slice ps l.length cs) (.slice p1 n1 c1) (.slice p2 n2 c2) 83 ∧
      PlIs wr (w1.heap.size + 1) w1.heap.size n (placesP held 0) ∧ wr.ownsRow (w1.heap.size + 1) 40 3 y L.length (flatG L) ∧ Below w.heap.size w wr) (fun iv _ => l.length - (intOf iv).toNat)
  case atStart => exact ⟨0, Nat.zero_le _, rfl, (fun j _ h => absurd h (Nat.not_lt_zero _)), HX2.out, HL2.out, HP2.out, HO2.out, HBw2.out⟩
  case round =>
    obtain ⟨k, hk, rfl, hall, hx, hl2, hpl, hrow, hbel⟩ := hrel
    have HAll : Hid (∀ j (hj : j < l.length), j < k → F (havingP held 0 l[j]) = none) := hall
    have HX : Hid (Bx3 wr (w.heap.size + 1) (.string ⟨#[]⟩) (.string ⟨#[]⟩) (.string ⟨#[]⟩) 68) := hx
    have HL : Hid (Bx3 wr w.heap.size (.slice ps l.length cs) (.slice p1 n1 c1) (.slice p2 n2 c2) 83) := hl2
    have HP : Hid (PlIs wr (w1.heap.size + 1) w1.heap.size n (placesP held 0)) := hpl
    have HO : Hid (wr.ownsRow (w1.heap.size + 1) 40 3 y L.length (flatG L)) := hrow
    have HB : Hid (Below w.heap.size w wr) := hbel
    clear hall hx hl2 hpl hrow hbel HX2 HL2 HP2 HO2 HBw2 HB2 HP3
    by_cases hlt : k < l.length
    · obtain ⟨gs, os, rfl, hlc, hc0⟩ := HCs.out k hlt
      have hc1 := hc0 wr HB.out
      have hkI : (k : Int) < (l.length : Int) := by omega
      have HCl : Hid (Calls Tryd.prog 60 #[y] wr fun e w' => ∃ u, e = .returned u ∧ w'.ownsRow wr.heap.size 40 3 u L.length (flatG L) ∧ Below wr.heap.size wr w') := cloneR_any _ y L wr HO.out (flatG_one HSt.out) HLl.out
      have hkey : keyOf Tryd.prog 9 (.string (Ba l[k])) = some (.string l[k]) := keyS _ (HFl.out _ (List.getElem_mem hlt))
      have HK : Hid (keyOf Tryd.prog 9 (.string (Ba l[k])) = some (.string l[k])) := hkey
      have HKl : Hid (k < l.length) := hlt
      have HHk := HHit.out k hlt
      have HHitk : Hid (∀ t, F (havingP held 0 l[k]) = some t → fo = some (setW 0 l[k] t)) := fun t h => HHk t HAll.out h
      have HNok : Hid (F (havingP held 0 l[k]) = none → ∀ j (hj : j < l.length), j < k + 1 → F (havingP held 0 l[j]) = none) := fun h j hj hjk => by
        rcases Nat.lt_succ_iff_lt_or_eq.1 hjk with h2 | h2
        · exact HAll.out j hj h2
        · subst h2; exact h
      have HPik : Hid (∀ j (hj : j < (placesP held 0 l[k]).length), (placesP held 0 l[k])[j] < held.length) := HPi.out _
      have HPnk : Hid ((placesP held 0 l[k]).length ≤ 1048576) := HPn.out _
      have HHvk : Hid ((havingP held 0 l[k]).length ≤ 1048576 ∧ ∀ r ∈ havingP held 0 l[k], SmR r) := HHv.out _
      have HHdk : Hid (havingP held 0 l[k] = Wh ++ pickR held (placesP held 0 l[k])) := HHd.out _
      clear hc0 hkey HHk
      generalize l[k] = x at *
      obtain ⟨D, hgp, hnd⟩ := HP.out
      have HNd : Hid (Nd (placesP held 0 x) (D.atKey (.string x) .nil)) := hnd x
      have HG : Hid (Grp wr (w1.heap.size + 1) w1.heap.size n D) := hgp
      clear hgp hnd
      have hkey := HK.out
      generalize hPx : placesP held 0 x = Px at *
      generalize hyx : Ba x = yx at *
      go_wp2_with fail
      refine Calls.mono HCl.out ?_
      rintro e w3 ⟨u, rfl, hu, hb3⟩
      have HU : Hid (w3.ownsRow wr.heap.size 40 3 u L.length (flatG L)) := hu
      have HB3 : Hid (Below wr.heap.size wr w3) := hb3
      have HG3 : Hid (Grp w3 (w1.heap.size + 1) w1.heap.size n D) := HG.out.below hb3
      clear hu hb3
      go_wp2_with (at_lookup; refine wpList_lookup_groups _ rfl _ _ 92 rfl 9 97 3 .i64 lawS Tryd.underlying92 (zeroI _) (w1.heap.size + 1) w1.heap.size n D rfl HG3.out hn3 _ _ rfl hkey ?_; intro v zs hat hoi hzl hback; have hz := Nd.ints (hat ▸ HNd.out) hoi; subst hz; obtain ⟨pi, ci, rfl, hpi⟩ := ints_form hoi; have HIn : Hid (w3.ownsInts (w1.heap.size + 1) 3 .i64 (.slice pi Px.length ci) (intsN Px)) := hoi; have HPp : Hid (0 < Px.length → ∃ g, pi = some ⟨g, 0, none⟩ ∧ Px.length ≤ ci) := hpi; clear hat hoi hzl hback hpi)
      go_loopw [12, 41] (fun hvv jv wq => ∃ (j : Nat) (M : List RV), j ≤ Px.length ∧ jv = .int .i64 j ∧ wq.ownsRow wr.heap.size 40 3 hvv (L ++ M).length (flatG (L ++ M)) ∧ M.map (·.1) = pickR held (Px.take j) ∧ StG w M ∧ M.length ≤ j ∧
        wq.ownsInts (w1.heap.size + 1) 3 .i64 (.slice pi Px.length ci) (intsN Px) ∧ Below wr.heap.size wr wq) (fun _ jv _ => Px.length - (intOf jv).toNat)
      case atStart => exact ⟨0, [], Nat.zero_le _, rfl, by rw [List.append_nil]; exact HU.out, rfl, (fun q hq => by simp at hq), Nat.le_refl _, HIn.out, HB3.out⟩
      case round =>
        obtain ⟨j, M, hj, rfl, hrow, hmap, hst, hml, hin, hbel⟩ := hrel
        rename World => wq
        have HQo : Hid (wq.ownsRow wr.heap.size 40 3 u12 (L ++ M).length (flatG (L ++ M))) := hrow
        have HQm : Hid (M.map (·.1) = pickR held (Px.take j)) := hmap
        have HQs : Hid (StG w M) := hst
        have HQi : Hid (wq.ownsInts (w1.heap.size + 1) 3 .i64 (.slice pi Px.length ci) (intsN Px)) := hin
        have HQb : Hid (Below wr.heap.size wr wq) := hbel
        clear hrow hmap hst hin hbel HU HIn HB3
        by_cases hjt : j < Px.length
        · obtain ⟨gi, rfl, hci⟩ := HPp.out (by omega)
          have hcj := ints_cell HQi.out hjt
          have hPj : Px[j]? = some Px[j] := List.getElem?_eq_getElem hjt
          have hi := HPik.out j hjt
          obtain ⟨g, o, rfl, hlc2, hg, hc⟩ := HC.out Px[j] hi
          obtain ⟨q1, m1, d1, q2, m2, d2, q3, m3, d3, k1, k2, k3, t1, t2, t3⟩ := hc wq (HB.out.trans (HQb.out.mono HB.out.size))
          have HPs : Hid (pickR held (Px.take (j + 1)) = pickR held (Px.take j) ++ [held[Px[j]]]) := pick_succ hPj hi
          have HT : Hid (Strs w (.slice q1 m1 d1) held[Px[j]].1 ∧ Strs w (.slice q2 m2 d2) held[Px[j]].2.1 ∧ Strs w (.slice q3 m3 d3) held[Px[j]].2.2) := ⟨t1, t2, t3⟩
          have hjI : (j : Int) < (Px.length : Int) := by omega
          have hPl := HPnk.out
          have hiI : ((Px[j] : Nat) : Int) < (held.length : Int) := by omega
          clear hc hPj t1 t2 t3
          generalize held[Px[j]] = rk at *
          generalize Px[j] = i at *
          have HO4 : Hid ((wq.alloc (.cells #[.slice q1 m1 d1, .slice q2 m2 d2, .slice q3 m3 d3] 40)).ownsRow wr.heap.size 40 3 u12 (L ++ M).length (flatG (L ++ M))) := own_belowG HQo.out ((Below.refl _ _).alloc (Nat.le_refl _) _)
          have HI4 : Hid ((wq.alloc (.cells #[.slice q1 m1 d1, .slice q2 m2 d2, .slice q3 m3 d3] 40)).ownsInts (w1.heap.size + 1) 3 .i64 (.slice (some ⟨gi, 0, none⟩) Px.length ci) (intsN Px)) := HQi.out.alloc _
          have HB4 : Hid (Below wr.heap.size wr (wq.alloc (.cells #[.slice q1 m1 d1, .slice q2 m2 d2, .slice q3 m3 d3] 40))) := HQb.out.alloc HQb.out.size _
          have HL4 : Hid ((L ++ M).length ≤ 2097152) := by
            have h1 := HLl.out
            show _ ≤ _
            rw [List.length_append]
            omega
          go_wp2_with (at_builtin; refine wpList_append_own _ rfl _ _ 29 rfl wr.heap.size 40 ir (.agg #[.slice none 0 0, .slice none 0 0, .slice none 0 0]) 3 72 Tryd.underlying29 hir hr0 hr1 hr2 rfl (by decide) _ _ _ rfl HO4.out ⟨wq.heap.size, 0, none⟩ 1 1 [.slice q1 m1 d1, .slice q2 m2 d2, .slice q3 m3 d3] rfl rfl cells3_new (by simp [Value.oneCell']) (by have := HL4.out; unfold maxLen; omega) (by have := HL4.out; omega) HB4.out.size ?_; intro v' w5 hown' hgrow hnil)
          have HO6 : Hid (w5.ownsRow wr.heap.size 40 3 v' (L ++ (M ++ [((rk, .slice q1 m1 d1, .slice q2 m2 d2, .slice q3 m3 d3) : RV)])).length (flatG (L ++ (M ++ [((rk, .slice q1 m1 d1, .slice q2 m2 d2, .slice q3 m3 d3) : RV)])))) := by
            show w5.ownsRow _ _ _ _ _ _
            rw [← List.append_assoc, flatG_append (L ++ M), @List.length_append _ (L ++ M)]
            exact hown'
          have HM6 : Hid ((M ++ [((rk, .slice q1 m1 d1, .slice q2 m2 d2, .slice q3 m3 d3) : RV)]).map (·.1) = pickR held (Px.take (j + 1))) := by
            show _ = _
            rw [List.map_append, HQm.out, HPs.out]
            rfl
          have HS6 : Hid (StG w (M ++ [((rk, .slice q1 m1 d1, .slice q2 m2 d2, .slice q3 m3 d3) : RV)])) := HQs.out.append (fun q hq => by
            rw [List.mem_singleton] at hq
            subst hq
            exact HT.out)
          have HI6 : Hid (w5.ownsInts (w1.heap.size + 1) 3 .i64 (.slice (some ⟨gi, 0, none⟩) Px.length ci) (intsN Px)) := HI4.out.kept hgrow (rows_ne HI4.out.1 HO4.out (by decide))
          have HB6 : Hid (Below wr.heap.size wr w5) := HB4.out.grown hgrow HB4.out.size (fun j hj => (World.ownsRow.lt HO4.out j hj).1)
          have HN6 : Hid ((M ++ [((rk, .slice q1 m1 d1, .slice q2 m2 d2, .slice q3 m3 d3) : RV)]).length ≤ j + 1) := by
            show _ ≤ _
            rw [List.length_append]
            exact Nat.succ_le_succ hml
          clear hown' hgrow hnil
          go_roundw
          case rel => exact ⟨j + 1, _, by omega, by go_num, HO6.out, HM6.out, HS6.out, HN6.out, HI6.out, HB6.out⟩
          case measure => simp [intOf]; omega
        · have hjE : j = Px.length := by omega
          have hjI : ¬ ((j : Int) < (Px.length : Int)) := by omega
          have hmp : (L ++ M).map (·.1) = havingP held 0 x := by
            rw [List.map_append, HMp.out, HQm.out, HHdk.out, hjE, List.take_of_length_le (Nat.le_refl _)]
          have hBwq : Below w.heap.size w wq := HB.out.trans (HQb.out.mono HB.out.size)
          have hrl : Rls wq u12 (havingP held 0 x) := by
            rw [← hmp]
            exact rls_of_owns HQo.out ((HSt.out.append HQs.out).below hBwq)
          have HCall : Hid (Calls Tryd.prog 47 #[u12, .agg #[.slice (some ⟨gs, os, none⟩) l.length cs, .slice p1 n1 c1, .slice p2 n2 c2], .int .i64 1] wq (GQ (F (havingP held 0 x)) wq)) := HF.out u12 _ wq hBwq hrl HHvk.out.1 HHvk.out.2
          have HXq : Hid (Bx3 wq (w.heap.size + 1) (.string ⟨#[]⟩) (.string ⟨#[]⟩) (.string ⟨#[]⟩) 68) := HX.out.below HQb.out
          have HLq : Hid (Bx3 wq w.heap.size (.slice (some ⟨gs, os, none⟩) l.length cs) (.slice p1 n1 c1) (.slice p2 n2 c2) 83) := HL.out.below HQb.out
          have HBq : Hid (Below w.heap.size w wq) := hBwq
          have x0 := HLq.out.c0
          have x1 := HLq.out.c1
          have x2 := HLq.out.c2
          clear hmp hBwq hrl hjE
          cases hFr : F (havingP held 0 x) with
          | none =>
            have HCn : Hid (Calls Tryd.prog 47 #[u12, .agg #[.slice (some ⟨gs, os, none⟩) l.length cs, .slice p1 n1 c1, .slice p2 n2 c2], .int .i64 1] wq fun e w' => e = .returned (.tuple #[.agg #[.string ⟨#[]⟩, .string ⟨#[]⟩, .string ⟨#[]⟩], .bool false]) ∧ Below wq.heap.size wq w') := by
              have h := HCall.out
              rw [hFr] at h
              exact h
            have HNk : Hid (∀ j (hj : j < l.length), j < k + 1 → F (havingP held 0 l[j]) = none) := HNok.out hFr
            clear hFr HHitk HNok HCall
            go_wp2_with fail
            refine Calls.mono HCn.out ?_
            rintro e w5 ⟨rfl, hb5⟩
            have HX5 : Hid (Bx3 w5 (w.heap.size + 1) (.string ⟨#[]⟩) (.string ⟨#[]⟩) (.string ⟨#[]⟩) 68) := HXq.out.below hb5
            have HB5 : Hid (Below wr.heap.size wr w5) := HQb.out.trans (hb5.mono HQb.out.size)
            have HL5 : Hid (Bx3 w5 w.heap.size (.slice (some ⟨gs, os, none⟩) l.length cs) (.slice p1 n1 c1) (.slice p2 n2 c2) 83) := HLq.out.below hb5
            have f0 := HX5.out.free 0
            have f1 := HX5.out.free 1
            have f2 := HX5.out.free 2
            have y0 := HX5.out.c0
            have y1 := HX5.out.c1
            have y2 := HX5.out.c2
            have hg6 := put3_grown w5 (w.heap.size + 1) (.string ⟨#[]⟩) (.string ⟨#[]⟩) (.string ⟨#[]⟩)
            have HX6 : Hid (Bx3 (put3 w5 (w.heap.size + 1) (.string ⟨#[]⟩) (.string ⟨#[]⟩) (.string ⟨#[]⟩)) (w.heap.size + 1) (.string ⟨#[]⟩) (.string ⟨#[]⟩) (.string ⟨#[]⟩) 68) := put3_box HX5.out _ _ _
            have HL6 : Hid (Bx3 (put3 w5 (w.heap.size + 1) (.string ⟨#[]⟩) (.string ⟨#[]⟩) (.string ⟨#[]⟩)) w.heap.size (.slice (some ⟨gs, os, none⟩) l.length cs) (.slice p1 n1 c1) (.slice p2 n2 c2) 83) := HL5.out.grown hg6 (by simp)
            have HP6 : Hid (PlIs (put3 w5 (w.heap.size + 1) (.string ⟨#[]⟩) (.string ⟨#[]⟩) (.string ⟨#[]⟩)) (w1.heap.size + 1) w1.heap.size n (placesP held 0)) :=
              (HP.out.below HB5.out).kept hg6 (by have := HS1.out; simp; omega) (fun g hg cur => by injection hg with hg; rw [← hg]; exact HX5.out.notInts (by decide) cur)
            have ho5 := own_belowG HO.out HB5.out
            have HO6 : Hid ((put3 w5 (w.heap.size + 1) (.string ⟨#[]⟩) (.string ⟨#[]⟩) (.string ⟨#[]⟩)).ownsRow (w1.heap.size + 1) 40 3 y L.length (flatG L)) := World.ownsRow.kept ho5 hg6 (Or.inr (HX5.out.row_ne ho5 (by decide)))
            have hbw5 := HB.out.trans (HB5.out.mono HB.out.size)
            have HB6 : Hid (Below w.heap.size w (put3 w5 (w.heap.size + 1) (.string ⟨#[]⟩) (.string ⟨#[]⟩) (.string ⟨#[]⟩))) := hbw5.grown hg6 hbw5.size (fun j hj => by injection hj with hj; omega)
            clear hb5 hg6 ho5 hbw5
            go_wp2_with fail
            go_roundw
            case rel => exact ⟨k + 1, by omega, by go_num, HNk.out, HX6.out, HL6.out, HP6.out, HO6.out, HB6.out⟩
            case measure => simp [intOf]; omega
          | some t =>
            obtain ⟨t0, t1, t2⟩ := t
            have HCs2 : Hid (Calls Tryd.prog 47 #[u12, .agg #[.slice (some ⟨gs, os, none⟩) l.length cs, .slice p1 n1 c1, .slice p2 n2 c2], .int .i64 1] wq fun e w' => e = .returned (.tuple #[.agg #[.string (Ba t0), .string (Ba t1), .string (Ba t2)], .bool true]) ∧ Below wq.heap.size wq w') := by
              have h := HCall.out
              rw [hFr] at h
              exact h
            have HFo : Hid (fo = some (setW 0 x (t0, t1, t2))) := HHitk.out _ hFr
            have HAr : Hid (arrV (setW 0 x (t0, t1, t2)) = .agg #[.string yx, .string (Ba t1), .string (Ba t2)]) := by
              show _ = _
              rw [← hyx]
              rfl
            clear hFr HHitk HNok HCall
            generalize Ba t0 = z0 at *
            generalize Ba t1 = z1 at *
            generalize Ba t2 = z2 at *
            go_wp2_with fail
            refine Calls.mono HCs2.out ?_
            rintro e w5 ⟨rfl, hb5⟩
            have HX5 : Hid (Bx3 w5 (w.heap.size + 1) (.string ⟨#[]⟩) (.string ⟨#[]⟩) (.string ⟨#[]⟩) 68) := HXq.out.below hb5
            have HB5 : Hid (Below w.heap.size w w5) := HBq.out.trans (hb5.mono HBq.out.size)
            have f0 := HX5.out.free 0
            have f1 := HX5.out.free 1
            have f2 := HX5.out.free 2
            have y0 := HX5.out.c0
            have y1 := HX5.out.c1
            have y2 := HX5.out.c2
            have hx7 : Bx3 ((put3 w5 (w.heap.size + 1) (.string z0) (.string z1) (.string z2)).setCell ⟨w.heap.size + 1, 0, none⟩ (.string yx)) (w.heap.size + 1) (.string yx) (.string z1) (.string z2) 68 := heap_setCell_same _ _ 0 _ _ _ (put3_box HX5.out (.string z0) (.string z1) (.string z2))
            have u0 : ((((w5.setCell ⟨w.heap.size + 1, 0, none⟩ (.string z0)).setCell ⟨w.heap.size + 1, 1, none⟩ (.string z1)).setCell ⟨w.heap.size + 1, 2, none⟩ (.string z2)).setCell ⟨w.heap.size + 1, 0, none⟩ (.string yx)).cell? ⟨w.heap.size + 1, 0, none⟩ = some (.string yx) := hx7.c0
            have u1 : ((((w5.setCell ⟨w.heap.size + 1, 0, none⟩ (.string z0)).setCell ⟨w.heap.size + 1, 1, none⟩ (.string z1)).setCell ⟨w.heap.size + 1, 2, none⟩ (.string z2)).setCell ⟨w.heap.size + 1, 0, none⟩ (.string yx)).cell? ⟨w.heap.size + 1, 1, none⟩ = some (.string z1) := hx7.c1
            have u2 : ((((w5.setCell ⟨w.heap.size + 1, 0, none⟩ (.string z0)).setCell ⟨w.heap.size + 1, 1, none⟩ (.string z1)).setCell ⟨w.heap.size + 1, 2, none⟩ (.string z2)).setCell ⟨w.heap.size + 1, 0, none⟩ (.string yx)).cell? ⟨w.heap.size + 1, 2, none⟩ = some (.string z2) := hx7.c2
            have HX8 : Hid (Bx3 (put3 ((put3 w5 (w.heap.size + 1) (.string z0) (.string z1) (.string z2)).setCell ⟨w.heap.size + 1, 0, none⟩ (.string yx)) (w.heap.size + 1) (.string yx) (.string z1) (.string z2)) (w.heap.size + 1) (.string yx) (.string z1) (.string z2) 68) := put3_box hx7 _ _ _
            have hg8 := ((put3_grown w5 (w.heap.size + 1) (.string z0) (.string z1) (.string z2)).trans (grown_set1 (b := w.heap.size + 1) (i := 0) (u := .string yx))).trans (put3_grown _ (w.heap.size + 1) (.string yx) (.string z1) (.string z2))
            have HB8 : Hid (Below w.heap.size w (put3 ((put3 w5 (w.heap.size + 1) (.string z0) (.string z1) (.string z2)).setCell ⟨w.heap.size + 1, 0, none⟩ (.string yx)) (w.heap.size + 1) (.string yx) (.string z1) (.string z2))) := HB5.out.grown hg8 HB5.out.size (fun j hj => by injection hj with hj; omega)
            clear hb5 hx7 hg8
            go_wp2_with fail
            refine bodyPost_ret (v := .tuple #[.agg #[.string yx, .string z1, .string z2], .bool true]) ?_ rfl ⟨by rw [HFo.out, ← HAr.out]; rfl, HB8.out⟩
            exact results_cell_tmp rfl _ _ _ _ _ _ _ _ rfl rfl HX8.out Tryd.underlying68 rfl hs3.out
    · have HN : Hid (fo = none) := HNo.out k (by omega) HAll.out
      have hkI : ¬ ((k : Int) < (l.length : Int)) := by omega
      have y0 := HX.out.c0
      have y1 := HX.out.c1
      have y2 := HX.out.c2
      have f0 := HX.out.free 0
      have f1 := HX.out.free 1
      have f2 := HX.out.free 2
      have HX6 : Hid (Bx3 (put3 wr (w.heap.size + 1) (.string ⟨#[]⟩) (.string ⟨#[]⟩) (.string ⟨#[]⟩)) (w.heap.size + 1) (.string ⟨#[]⟩) (.string ⟨#[]⟩) (.string ⟨#[]⟩) 68) := put3_box HX.out _ _ _
      have HB6 : Hid (Below w.heap.size w (put3 wr (w.heap.size + 1) (.string ⟨#[]⟩) (.string ⟨#[]⟩) (.string ⟨#[]⟩))) := HB.out.grown (put3_grown _ _ _ _ _) HB.out.size (fun j hj => by injection hj with hj; omega)
      go_wp2_with fail
      refine bodyPost_ret (v := .tuple #[.agg #[.string ⟨#[]⟩, .string ⟨#[]⟩, .string ⟨#[]⟩], .bool false]) ?_ rfl ⟨by rw [HN.out]; rfl, HB6.out⟩
      exact results_cell_tmp rfl _ _ _ _ _ _ _ _ rfl rfl HX6.out Tryd.underlying68 rfl hs3.out
end Go.Proofs.YtnjjlnhchfoigabDoor
