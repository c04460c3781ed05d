/- Contracts over this translation: grants.Covers, grants.Beyond. -/
import Derived.Test.YtnjjlnhchfoigabDoorGrFree
import Derived.Test.YtnjjlnhchfoigabDoorGrAllows
namespace Go.Proofs.YtnjjlnhchfoigabDoor
open Go.RowKit Go.Maps
set_option linter.unusedVariables false
set_option linter.unusedSimpArgs false
/-- does held cover a rule? -/
def coversP (held : List Rl) (r : Rl) : Bool := !(gapW held r).isSome
theorem getD_parts (o : Option W3) : ∃ t0 t1 t2, o.getD noW = (t0, t1, t2) := ⟨_, _, _, rfl⟩
set_option maxRecDepth 100000 in
set_option maxHeartbeats 4000000 in
theorem covers_any (v a b c : Value) (held : List Rl) (r : Rl) (w : World) (hv : Rls w v held) (ha : Strs w a r.1) (hb : Strs w b r.2.1) (hc : Strs w c r.2.2) (hr : SmR r) (hl : held.length ≤ 1048576) (hsm : ∀ r ∈ held, SmR r) (hT : TabW w) :
    Calls Tryd.prog 21 #[v, .agg #[a, b, c]] w fun e w' => e = .returned (.bool (coversP held r)) ∧ Below w.heap.size w w' := by
  obtain ⟨pa, ca, rfl, hna⟩ := ha.form
  obtain ⟨pb, cb, rfl, hnb⟩ := hb.form
  obtain ⟨pc, cc, rfl, hnc⟩ := hc.form
  obtain ⟨pv, cv, rfl, hnv⟩ := hv.form
  obtain ⟨w0, hw0⟩ : ∃ w0, w0 = w.alloc (.cells #[.slice pa r.1.length ca, .slice pb r.2.1.length cb, .slice pc r.2.2.length cc] 40) := ⟨_, rfl⟩
  have hB0 : Below w.heap.size w w0 := by rw [hw0]; exact (Below.refl _ _).alloc (Nat.le_refl _) _
  have HB0 : Hid (Below w.heap.size w w0) := hB0
  have HW0 : Hid (w0 = w.alloc (.cells #[.slice pa r.1.length ca, .slice pb r.2.1.length cb, .slice pc r.2.2.length cc] 40)) := hw0
  obtain ⟨t0, t1, t2, ht⟩ := getD_parts (gapW held r)
  have HG : Hid (Calls Tryd.prog 31 #[.slice pv held.length cv, .agg #[.slice pa r.1.length ca, .slice pb r.2.1.length cb, .slice pc r.2.2.length cc]] w0 fun e w' => e = .returned (.tuple #[.agg #[.string (Ba t0), .string (Ba t1), .string (Ba t2)], .bool (gapW held r).isSome]) ∧ Below w0.heap.size w0 w') := by
    have h := gap_any (.slice pv held.length cv) (.slice pa r.1.length ca) (.slice pb r.2.1.length cb) (.slice pc r.2.2.length cc) held r w0 (Sq.below rlAt_stays hv hB0) (ha.below hB0) (hb.below hB0) (hc.below hB0) hr hl hsm (hT.below hB0)
    unfold GQ at h
    rw [ht] at h
    exact h
  have HR : Hid (coversP held r = !(gapW held r).isSome) := rfl
  clear hw0 hB0 hv ha hb hc hr hsm hT ht
  generalize coversP held r = res at *
  generalize (gapW held r).isSome = bo at *
  generalize Ba t0 = z0 at *
  generalize Ba t1 = z1 at *
  generalize Ba t2 = z2 at *
  generalize r.1.length = n1 at *
  generalize r.2.1.length = n2 at *
  generalize r.2.2.length = n3 at *
  go_enter Tryd.func21, Tryd.ntmps21
  go_wp2_with fail
  rw [← HW0.out]
  refine Calls.mono HG.out ?_
  rintro e w1 ⟨rfl, hb1⟩
  have HB1 : Hid (Below w.heap.size w w1) := HB0.out.trans (hb1.mono HB0.out.size)
  clear hb1
  go_wp2_with fail
  go_ret
  exact ⟨by rw [HR.out]; rfl, HB1.out.alloc HB1.out.size _⟩
theorem sclone_any (s : Bs) (w : World) (hs : s.length ≤ maxLen) (hs2 : s.length ≤ 281474976710656) : Calls Tryd.prog 34 #[.string (Ba s)] w fun e w' => e = .returned (.string (Ba s)) ∧ Below w.heap.size w w' := by
  have HC : Hid (Calls Tryd.prog 50 #[.string (Ba s)] w fun e w' => e = .returned (.string (Ba s)) ∧ Below w.heap.size w w') := Tryd.stringslite_Clone (Ba s) w (by rw [ba_size]; exact hs2)
  generalize Ba s = y at *
  go_enter Tryd.func34, Tryd.ntmps34
  go_wp2_with fail
  refine Calls.mono HC.out ?_
  rintro e w1 ⟨rfl, hb⟩
  have HB : Hid (Below w.heap.size w w1) := hb
  clear hb
  go_wp2_with fail
  go_ret
  exact ⟨rfl, HB.out⟩
/-- the first of x0, x1 and so on that no rule has on a side -/
def IsFree (held : List Rl) (side : Nat) (x : Bs) : Prop := ∃ i, x = xW i ∧ xW i ∉ usedW held side ∧ ∀ j, j < i → xW j ∈ usedW held side
theorem IsFree.one {held : List Rl} {side : Nat} {x y : Bs} (h : IsFree held side x) (g : IsFree held side y) : x = y := by
  obtain ⟨i, rfl, h1, h2⟩ := h
  obtain ⟨j, rfl, g1, g2⟩ := g
  rcases Nat.lt_trichotomy i j with h | h | h
  · exact absurd (g2 i h) h1
  · rw [h]
  · exact absurd (h2 j h) g1
theorem exists_least (P : Nat → Prop) : ∀ n, P n → ∃ k, P k ∧ ∀ j, j < k → ¬ P j := fun n => by
  induction n using Nat.strongRecOn with
  | _ n ih =>
    intro hn
    by_cases h : ∃ j, j < n ∧ P j
    · obtain ⟨j, hj, hp⟩ := h
      exact ih j hj hp
    · exact ⟨n, hn, fun j hj hp => h ⟨j, hj, hp⟩⟩
theorem free_exists (held : List Rl) (side : Nat) : ∃ x, IsFree held side x := by
  have hex : ∃ n, xW n ∉ usedW held side := by
    refine Classical.byContradiction fun hno => ?_
    have := used_le (U := usedW held side) (i := (usedW held side).length + 1) (fun j _ => Classical.byContradiction fun h => hno ⟨j, h⟩)
    omega
  obtain ⟨n, hn⟩ := hex
  obtain ⟨k, h1, h2⟩ := exists_least (fun n => xW n ∉ usedW held side) n hn
  exact ⟨_, k, rfl, h1, fun j hj => Classical.byContradiction (h2 j hj)⟩
theorem IsFree.fresh {held : List Rl} {side : Nat} {x : Bs} (h : IsFree held side x) : freshB held side x ∧ x ≠ [] := by
  obtain ⟨i, rfl, h1, _⟩ := h
  exact ⟨fun r hr hx => h1 (used_mem.2 ⟨r, hr, hx⟩), by simp [xW]⟩
theorem index_sides (a b d : Value) (w : World) : Sem.run Tryd.prog (Instr.index 68 (.agg #[a, b, d]) (.int .i64 0)) w = .ok a w ∧ Sem.run Tryd.prog (Instr.index 68 (.agg #[a, b, d]) (.int .i64 1)) w = .ok b w ∧ Sem.run Tryd.prog (Instr.index 68 (.agg #[a, b, d]) (.int .i64 2)) w = .ok d w := by
  refine ⟨?_, ?_, ?_⟩
  all_goals
    unfold Instr.index
    simp [run_underlying Tryd.underlying68, asIntOf, part, go_sem]
/-- what Beyond answers: x0, x1 and x2 are free words -/
abbrev BeyQ (held : List Rl) (r : Rl) (x0 x1 x2 : Bs) (w : World) (e : Ending) (w' : World) : Prop :=
  e = .returned (.tuple #[askV (match gapW held r with | some t => (tellW 0 x0 t.1, tellW 1 x1 t.2.1, [], tellW 2 x2 t.2.2) | none => ([], [], [], [])), .bool (gapW held r).isSome]) ∧ Below w.heap.size w w'
def Bx4 (w : World) (g : Nat) (a b c d : Value) (t : TypeId) : Prop := w.heap[g]? = some (.cells #[a, b, c, d] t (0, 0))
section
variable {w w' : World} {g : Nat} {a b c d : Value} {t : TypeId}
theorem Bx4.lt (h : Bx4 w g a b c d t) : g < w.heap.size := lt_of_block h
theorem Bx4.free (h : Bx4 w g a b c d t) (o : Nat) : w.frozen? ⟨g, o, none⟩ = false := frozen_of_row _ _ _ _ _ h
theorem Bx4.c0 (h : Bx4 w g a b c d t) : w.cell? ⟨g, 0, none⟩ = some a := by rw [cell_of_row _ _ _ _ _ _ h]; rfl
theorem Bx4.c1 (h : Bx4 w g a b c d t) : w.cell? ⟨g, 1, none⟩ = some b := by rw [cell_of_row _ _ _ _ _ _ h]; rfl
theorem Bx4.c2 (h : Bx4 w g a b c d t) : w.cell? ⟨g, 2, none⟩ = some c := by rw [cell_of_row _ _ _ _ _ _ h]; rfl
theorem Bx4.c3 (h : Bx4 w g a b c d t) : w.cell? ⟨g, 3, none⟩ = some d := by rw [cell_of_row _ _ _ _ _ _ h]; rfl
theorem Bx4.below (h : Bx4 w g a b c d t) (e : Below w.heap.size w w') : Bx4 w' g a b c d t := (e.block g h.lt).trans h
theorem Bx4.grown {row : Option Nat} (h : Bx4 w g a b c d t) (e : w.grownBy w' row) (hne : some g ≠ row) : Bx4 w' g a b c d t := (e.block g h.lt hne).trans h
theorem bx4_new (w : World) (a b c d : Value) (t : TypeId) : Bx4 (w.alloc (.cells #[a, b, c, d] t)) w.heap.size a b c d t := heap_alloc_new w _
end
def put4 (w : World) (g : Nat) (a b c d : Value) : World := (((w.setCell ⟨g, 0, none⟩ a).setCell ⟨g, 1, none⟩ b).setCell ⟨g, 2, none⟩ c).setCell ⟨g, 3, none⟩ d
theorem put4_box {w : World} {g : Nat} {x y z u : Value} {t : TypeId} (hb : Bx4 w g x y z u t) (a b c d : Value) : Bx4 (put4 w g a b c d) g a b c d t := by
  unfold put4
  have e0 := heap_setCell_same w g 0 _ _ a hb
  have e1 := heap_setCell_same _ g 1 _ _ b e0
  have e2 := heap_setCell_same _ g 2 _ _ c e1
  exact heap_setCell_same _ g 3 _ _ d e2
theorem put4_grown (w : World) (g : Nat) (a b c d : Value) : w.grownBy (put4 w g a b c d) (some g) := by
  unfold put4
  exact ((grown_set1.trans grown_set1).trans grown_set1).trans grown_set1
theorem tellW_hit {side : Nat} {x t : Bs} (h : decide (t = signP side) = true) : tellW side x t = x := by
  unfold tellW
  rw [if_pos (of_decide_eq_true h)]
theorem tellW_miss {side : Nat} {x t : Bs} (h : decide (t = signP side) = false) : tellW side x t = t := by
  unfold tellW
  rw [if_neg (of_decide_eq_false h)]
set_option maxRecDepth 100000 in
set_option maxHeartbeats 16000000 in
theorem beyond_any (v a b c : Value) (held : List Rl) (r : Rl) (x0 x1 x2 : Bs) (w : World) (hv : Rls w v held) (ha : Strs w a r.1) (hb : Strs w b r.2.1) (hc : Strs w c r.2.2) (hr : SmR r) (hl : held.length ≤ 1048576) (hsm : ∀ r ∈ held, SmR r) (hT : TabW w)
    (hbg : ∀ t, gapW held r = some t → ∀ s ∈ [t.1, t.2.1, t.2.2], s.length ≤ 281474976710656) (hx0 : IsFree held 0 x0) (hx1 : IsFree held 1 x1) (hx2 : IsFree held 2 x2) :
    Calls Tryd.prog 11 #[v, .agg #[a, b, c]] w (BeyQ held r x0 x1 x2 w) := by
  obtain ⟨pa, ca, rfl, hna⟩ := ha.form
  obtain ⟨pb, cb, rfl, hnb⟩ := hb.form
  obtain ⟨pc, cc, rfl, hnc⟩ := hc.form
  obtain ⟨pv, cv, rfl, hnv⟩ := hv.form
  obtain ⟨w0, hw0⟩ : ∃ w0, w0 = (w.alloc (.cells #[.slice pa r.1.length ca, .slice pb r.2.1.length cb, .slice pc r.2.2.length cc] 40)).alloc (.cells #[.string ⟨#[]⟩, .string ⟨#[]⟩, .string ⟨#[]⟩, .string ⟨#[]⟩] 31) := ⟨_, rfl⟩
  have hs1 : (w.alloc (.cells #[.slice pa r.1.length ca, .slice pb r.2.1.length cb, .slice pc r.2.2.length cc] 40)).heap.size = w.heap.size + 1 := by simp
  have hs0 : w0.heap.size = w.heap.size + 2 := by rw [hw0]; simp
  have hB0 : Below w.heap.size w w0 := by rw [hw0]; exact ((Below.refl _ _).alloc (Nat.le_refl _) _).alloc (by simp) _
  have hxa : Bx4 w0 (w.heap.size + 1) (.string ⟨#[]⟩) (.string ⟨#[]⟩) (.string ⟨#[]⟩) (.string ⟨#[]⟩) 31 := by
    rw [hw0, ← hs1]
    exact bx4_new _ _ _ _ _ _
  have XA : Hid (Bx4 w0 (w.heap.size + 1) (.string ⟨#[]⟩) (.string ⟨#[]⟩) (.string ⟨#[]⟩) (.string ⟨#[]⟩) 31) := hxa
  have HB0 : Hid (Below w.heap.size w w0) := hB0
  have HS0 : Hid (w0.heap.size = w.heap.size + 2) := hs0
  have HW0 : Hid (w0 = (w.alloc (.cells #[.slice pa r.1.length ca, .slice pb r.2.1.length cb, .slice pc r.2.2.length cc] 40)).alloc (.cells #[.string ⟨#[]⟩, .string ⟨#[]⟩, .string ⟨#[]⟩, .string ⟨#[]⟩] 31)) := hw0
  have HGp := gap_any (.slice pv held.length cv) (.slice pa r.1.length ca) (.slice pb r.2.1.length cb) (.slice pc r.2.2.length cc) held r w0 (Sq.below rlAt_stays hv hB0) (ha.below hB0) (hb.below hB0) (hc.below hB0) hr hl hsm (hT.below hB0)
  have hs4 : Hid ((Tryd.prog.info? 31).map (·.size) = some 4) := by
    show _ = _
    kernel_rfl
  show Calls _ _ _ _ (BeyQ held r x0 x1 x2 w)
  have hgs : ∀ t, gapW held r = some t → FitS [t.1, t.2.1, t.2.2] := fun t ht => by
    unfold gapW at ht
    obtain ⟨⟨q0, q1, q2, q3⟩, hq, rfl⟩ := Option.map_eq_some_iff.1 ht
    obtain ⟨m0, m1, m2, _⟩ := gap_some hq
    intro s hs
    simp only [List.mem_cons, List.not_mem_nil, or_false] at hs
    rcases hs with rfl | rfl | rfl
    · exact words_fit hr 0 _ m0
    · exact words_fit hr 1 _ m1
    · exact words_fit hr 2 _ m2
  cases hgw : gapW held r with
  | none =>
    have HG : Hid (Calls Tryd.prog 31 #[.slice pv held.length cv, .agg #[.slice pa r.1.length ca, .slice pb r.2.1.length cb, .slice pc r.2.2.length cc]] w0 fun e w' => e = .returned (.tuple #[.agg #[.string ⟨#[]⟩, .string ⟨#[]⟩, .string ⟨#[]⟩], .bool false]) ∧ Below w0.heap.size w0 w') := by
      rw [hgw] at HGp
      exact HGp
    have HQ : Hid (∀ w', Below w.heap.size w w' → BeyQ held r x0 x1 x2 w (.returned (.tuple #[.agg #[.string ⟨#[]⟩, .string ⟨#[]⟩, .string ⟨#[]⟩, .string ⟨#[]⟩], .bool false])) w') := fun w' h => by
      refine ⟨?_, h⟩
      rw [hgw]
      rfl
    clear hw0 hs1 hs0 hB0 hxa HGp hgs hbg hgw hv ha hb hc hr hsm hT
    generalize r.1.length = n1 at *
    generalize r.2.1.length = n2 at *
    generalize r.2.2.length = n3 at *
    generalize BeyQ held r x0 x1 x2 w = BQ at *
    go_enter Tryd.func11, Tryd.ntmps11
    go_wp2_with fail
    rw [← HW0.out]
    refine Calls.mono HG.out ?_
    rintro e w1 ⟨rfl, hb1⟩
    obtain ⟨w2, hw2⟩ : ∃ w2, w2 = w1.alloc (.cells #[.string ⟨#[]⟩, .string ⟨#[]⟩, .string ⟨#[]⟩] 68) := ⟨_, rfl⟩
    have hb2 : Below w0.heap.size w0 w2 := by rw [hw2]; exact hb1.alloc hb1.size _
    have XA2 : Hid (Bx4 w2 (w.heap.size + 1) (.string ⟨#[]⟩) (.string ⟨#[]⟩) (.string ⟨#[]⟩) (.string ⟨#[]⟩) 31) := XA.out.below hb2
    have HB2 : Hid (Below w.heap.size w w2) := HB0.out.trans (hb2.mono HB0.out.size)
    have c0 := XA2.out.c0
    have c1 := XA2.out.c1
    have c2 := XA2.out.c2
    have c3 := XA2.out.c3
    have f0 := XA2.out.free 0
    have f1 := XA2.out.free 1
    have f2 := XA2.out.free 2
    have f3 := XA2.out.free 3
    have XA3 : Hid (Bx4 (put4 w2 (w.heap.size + 1) (.string ⟨#[]⟩) (.string ⟨#[]⟩) (.string ⟨#[]⟩) (.string ⟨#[]⟩)) (w.heap.size + 1) (.string ⟨#[]⟩) (.string ⟨#[]⟩) (.string ⟨#[]⟩) (.string ⟨#[]⟩) 31) := put4_box XA2.out _ _ _ _
    have HB3 : Hid (Below w.heap.size w (put4 w2 (w.heap.size + 1) (.string ⟨#[]⟩) (.string ⟨#[]⟩) (.string ⟨#[]⟩) (.string ⟨#[]⟩))) := HB2.out.grown (put4_grown _ _ _ _ _ _) HB2.out.size (fun j hj => by injection hj with hj; omega)
    rw [hw2] at c0 c1 c2 c3 f0 f1 f2 f3
    have HW2 : Hid (w2 = w1.alloc (.cells #[.string ⟨#[]⟩, .string ⟨#[]⟩, .string ⟨#[]⟩] 68)) := hw2
    clear hb1 hb2 hw2
    go_wp2_with fail
    rw [← HW2.out]
    refine bodyPost_ret (v := .tuple #[.agg #[.string ⟨#[]⟩, .string ⟨#[]⟩, .string ⟨#[]⟩, .string ⟨#[]⟩], .bool false]) ?_ rfl (HQ.out _ HB3.out)
    exact results_cell_tmp rfl _ _ _ _ _ _ _ _ rfl rfl XA3.out Tryd.underlying31 rfl hs4.out
  | some t =>
    obtain ⟨t0, t1, t2⟩ := t
    have HBig : Hid (∀ s ∈ [t0, t1, t2], s.length ≤ 281474976710656) := hbg _ hgw
    have HG : Hid (Calls Tryd.prog 31 #[.slice pv held.length cv, .agg #[.slice pa r.1.length ca, .slice pb r.2.1.length cb, .slice pc r.2.2.length cc]] w0 fun e w' => e = .returned (.tuple #[.agg #[.string (Ba t0), .string (Ba t1), .string (Ba t2)], .bool true]) ∧ Below w0.heap.size w0 w') := by
      rw [hgw] at HGp
      exact HGp
    have HQ : Hid (∀ w', Below w.heap.size w w' → BeyQ held r x0 x1 x2 w (.returned (.tuple #[.agg #[.string (Ba (tellW 0 x0 t0)), .string (Ba (tellW 1 x1 t1)), .string ⟨#[]⟩, .string (Ba (tellW 2 x2 t2))], .bool true])) w') := fun w' h => by
      refine ⟨?_, h⟩
      rw [hgw]
      rfl
    have hft := hgs _ hgw
    have HA0 : Hid (∀ w1, Below w.heap.size w w1 → (decide (t0 = signP 0) = true → Calls Tryd.prog 33 #[.slice pv held.length cv, .int .i64 0] w1 fun e w' => e = .returned (.string (Ba (tellW 0 x0 t0))) ∧ Below w1.heap.size w1 w') ∧
        (decide (t0 = signP 0) = false → Calls Tryd.prog 34 #[.string (Ba t0)] w1 fun e w' => e = .returned (.string (Ba (tellW 0 x0 t0))) ∧ Below w1.heap.size w1 w')) := fun w1 h1 => by
      refine ⟨fun he => ?_, fun he => ?_⟩
      · rw [tellW_hit he]
        refine (free_any (.slice pv held.length cv) held 0 w1 (Sq.below rlAt_stays hv h1) (by omega) hl hsm (hT.below h1)).mono ?_
        rintro e w' ⟨i, rfl, k1, k2, k3⟩
        exact ⟨by rw [hx0.one ⟨i, rfl, k1, k2⟩], k3⟩
      · rw [tellW_miss he]
        have := hft t0 (by simp)
        exact sclone_any t0 w1 this (HBig.out t0 (by simp))
    have hq0 : ((Ba t0).toList == (Ba (signP 0)).toList) = decide (t0 = signP 0) := ba_beq _ _
    have HSg0 : Hid (∀ w1, Calls Tryd.prog 32 #[.int .i64 0] w1 fun e w' => e = .returned (.string (Ba (signP 0))) ∧ w' = w1) := fun w1 => sign_any 0 w1
    have HA1 : Hid (∀ w1, Below w.heap.size w w1 → (decide (t1 = signP 1) = true → Calls Tryd.prog 33 #[.slice pv held.length cv, .int .i64 1] w1 fun e w' => e = .returned (.string (Ba (tellW 1 x1 t1))) ∧ Below w1.heap.size w1 w') ∧
        (decide (t1 = signP 1) = false → Calls Tryd.prog 34 #[.string (Ba t1)] w1 fun e w' => e = .returned (.string (Ba (tellW 1 x1 t1))) ∧ Below w1.heap.size w1 w')) := fun w1 h1 => by
      refine ⟨fun he => ?_, fun he => ?_⟩
      · rw [tellW_hit he]
        refine (free_any (.slice pv held.length cv) held 1 w1 (Sq.below rlAt_stays hv h1) (by omega) hl hsm (hT.below h1)).mono ?_
        rintro e w' ⟨i, rfl, k1, k2, k3⟩
        exact ⟨by rw [hx1.one ⟨i, rfl, k1, k2⟩], k3⟩
      · rw [tellW_miss he]
        have := hft t1 (by simp)
        exact sclone_any t1 w1 this (HBig.out t1 (by simp))
    have hq1 : ((Ba t1).toList == (Ba (signP 1)).toList) = decide (t1 = signP 1) := ba_beq _ _
    have HSg1 : Hid (∀ w1, Calls Tryd.prog 32 #[.int .i64 1] w1 fun e w' => e = .returned (.string (Ba (signP 1))) ∧ w' = w1) := fun w1 => sign_any 1 w1
    have HA2 : Hid (∀ w1, Below w.heap.size w w1 → (decide (t2 = signP 2) = true → Calls Tryd.prog 33 #[.slice pv held.length cv, .int .i64 2] w1 fun e w' => e = .returned (.string (Ba (tellW 2 x2 t2))) ∧ Below w1.heap.size w1 w') ∧
        (decide (t2 = signP 2) = false → Calls Tryd.prog 34 #[.string (Ba t2)] w1 fun e w' => e = .returned (.string (Ba (tellW 2 x2 t2))) ∧ Below w1.heap.size w1 w')) := fun w1 h1 => by
      refine ⟨fun he => ?_, fun he => ?_⟩
      · rw [tellW_hit he]
        refine (free_any (.slice pv held.length cv) held 2 w1 (Sq.below rlAt_stays hv h1) (by omega) hl hsm (hT.below h1)).mono ?_
        rintro e w' ⟨i, rfl, k1, k2, k3⟩
        exact ⟨by rw [hx2.one ⟨i, rfl, k1, k2⟩], k3⟩
      · rw [tellW_miss he]
        have := hft t2 (by simp)
        exact sclone_any t2 w1 this (HBig.out t2 (by simp))
    have hq2 : ((Ba t2).toList == (Ba (signP 2)).toList) = decide (t2 = signP 2) := ba_beq _ _
    have HSg2 : Hid (∀ w1, Calls Tryd.prog 32 #[.int .i64 2] w1 fun e w' => e = .returned (.string (Ba (signP 2))) ∧ w' = w1) := fun w1 => sign_any 2 w1
    clear hw0 hs1 hs0 hB0 hxa HGp hgs hbg hgw hv ha hb hc hr hsm hT hft hx0 hx1 hx2 HBig
    generalize r.1.length = n1 at *
    generalize r.2.1.length = n2 at *
    generalize r.2.2.length = n3 at *
    generalize BeyQ held r x0 x1 x2 w = BQ at *
    generalize decide (t0 = signP 0) = e0 at *
    generalize Ba (tellW 0 x0 t0) = y0 at *
    generalize Ba t0 = z0 at *
    generalize Ba (signP 0) = g0 at *
    generalize decide (t1 = signP 1) = e1 at *
    generalize Ba (tellW 1 x1 t1) = y1 at *
    generalize Ba t1 = z1 at *
    generalize Ba (signP 1) = g1 at *
    generalize decide (t2 = signP 2) = e2 at *
    generalize Ba (tellW 2 x2 t2) = y2 at *
    generalize Ba t2 = z2 at *
    generalize Ba (signP 2) = g2 at *
    have ix0 := fun w => (index_sides (.string z0) (.string z1) (.string z2) w).1
    have ix1 := fun w => (index_sides (.string z0) (.string z1) (.string z2) w).2.1
    have ix2 := fun w => (index_sides (.string z0) (.string z1) (.string z2) w).2.2
    go_enter Tryd.func11, Tryd.ntmps11
    go_wp2_with fail
    rw [← HW0.out]
    refine Calls.mono HG.out ?_
    rintro e w1 ⟨rfl, hb1⟩
    obtain ⟨w2, hw2⟩ : ∃ w2, w2 = w1.alloc (.cells #[.string z0, .string z1, .string z2] 68) := ⟨_, rfl⟩
    have hb2 : Below w0.heap.size w0 w2 := by rw [hw2]; exact hb1.alloc hb1.size _
    have XA2 : Hid (Bx4 w2 (w.heap.size + 1) (.string ⟨#[]⟩) (.string ⟨#[]⟩) (.string ⟨#[]⟩) (.string ⟨#[]⟩) 31) := XA.out.below hb2
    have HBX : Hid (Below w.heap.size w w2) := HB0.out.trans (hb2.mono HB0.out.size)
    have XSX : Hid (Bx3 w2 w1.heap.size (.string z0) (.string z1) (.string z2) 68) := by
      show Bx3 _ _ _ _ _ _
      rw [hw2]
      exact bx3_new _ _ _ _ _
    have HSz : Hid (w.heap.size + 2 ≤ w1.heap.size) := by
      have h1 := HS0.out
      have h2 := hb1.size
      show _ ≤ _
      omega
    have HW2 : Hid (w2 = w1.alloc (.cells #[.string z0, .string z1, .string z2] 68)) := hw2
    clear hb1 hb2 hw2
    generalize hS6 : w1.heap.size = S6 at *
    go_wp2_with fail
    rw [← HW2.out]
    refine wp_loop_rounds 4 ?_
    rw [rounds_succ]
    go_wp2_with fail
    refine Calls.mono (HSg0.out _) ?_
    rintro e v ⟨rfl, hvv⟩
    subst hvv
    cases e0
    all_goals
      go_wp2_with fail
      first | refine Calls.mono ((HA0.out _ HBX.out).1 (by simp)) ?_ | refine Calls.mono ((HA0.out _ HBX.out).2 (by simp)) ?_
      rintro e v0 ⟨rfl, hb⟩
      have YS0 : Hid (Bx3 v0 S6 (.string z0) (.string z1) (.string z2) 68) := XSX.out.below hb
      have hg : v0.grownBy (v0.setCell ⟨S6, 0, none⟩ (.string y0)) (some S6) := grown_set1
      have XS0 : Hid (Bx3 (v0.setCell ⟨S6, 0, none⟩ (.string y0)) S6 (.string y0) (.string z1) (.string z2) 68) := heap_setCell_same v0 _ 0 _ _ (.string y0) YS0.out
      have XB0 : Hid (Bx4 (v0.setCell ⟨S6, 0, none⟩ (.string y0)) (w.heap.size + 1) (.string ⟨#[]⟩) (.string ⟨#[]⟩) (.string ⟨#[]⟩) (.string ⟨#[]⟩) 31) := (XA2.out.below hb).grown hg (by have := HSz.out; simp; omega)
      have hbw := HBX.out.trans (hb.mono HBX.out.size)
      have HBB0 : Hid (Below w.heap.size w (v0.setCell ⟨S6, 0, none⟩ (.string y0))) := hbw.grown hg hbw.size (fun j hj => by have := HSz.out; injection hj with hj; omega)
      have fr0 := YS0.out.free 0
      have ys0 := YS0.out.c0
      clear hb hg hbw
      go_wp2_with fail
      rw [rounds_succ]
      go_wp2_with fail
      refine Calls.mono (HSg1.out _) ?_
      rintro e v ⟨rfl, hvv⟩
      subst hvv
      cases e1
      all_goals
        go_wp2_with fail
        first | refine Calls.mono ((HA1.out _ HBB0.out).1 (by simp)) ?_ | refine Calls.mono ((HA1.out _ HBB0.out).2 (by simp)) ?_
        rintro e v1 ⟨rfl, hb⟩
        have YS1 : Hid (Bx3 v1 S6 (.string y0) (.string z1) (.string z2) 68) := XS0.out.below hb
        have hg : v1.grownBy (v1.setCell ⟨S6, 1, none⟩ (.string y1)) (some S6) := grown_set1
        have XS1 : Hid (Bx3 (v1.setCell ⟨S6, 1, none⟩ (.string y1)) S6 (.string y0) (.string y1) (.string z2) 68) := heap_setCell_same v1 _ 1 _ _ (.string y1) YS1.out
        have XB1 : Hid (Bx4 (v1.setCell ⟨S6, 1, none⟩ (.string y1)) (w.heap.size + 1) (.string ⟨#[]⟩) (.string ⟨#[]⟩) (.string ⟨#[]⟩) (.string ⟨#[]⟩) 31) := (XB0.out.below hb).grown hg (by have := HSz.out; simp; omega)
        have hbw := HBB0.out.trans (hb.mono HBB0.out.size)
        have HBB1 : Hid (Below w.heap.size w (v1.setCell ⟨S6, 1, none⟩ (.string y1))) := hbw.grown hg hbw.size (fun j hj => by have := HSz.out; injection hj with hj; omega)
        have fr1 := YS1.out.free 1
        have ys1 := YS1.out.c1
        clear hb hg hbw
        go_wp2_with fail
        rw [rounds_succ]
        go_wp2_with fail
        refine Calls.mono (HSg2.out _) ?_
        rintro e v ⟨rfl, hvv⟩
        subst hvv
        cases e2
        all_goals
          go_wp2_with fail
          first | refine Calls.mono ((HA2.out _ HBB1.out).1 (by simp)) ?_ | refine Calls.mono ((HA2.out _ HBB1.out).2 (by simp)) ?_
          rintro e v2 ⟨rfl, hb⟩
          have YS2 : Hid (Bx3 v2 S6 (.string y0) (.string y1) (.string z2) 68) := XS1.out.below hb
          have hg : v2.grownBy (v2.setCell ⟨S6, 2, none⟩ (.string y2)) (some S6) := grown_set1
          have XS2 : Hid (Bx3 (v2.setCell ⟨S6, 2, none⟩ (.string y2)) S6 (.string y0) (.string y1) (.string y2) 68) := heap_setCell_same v2 _ 2 _ _ (.string y2) YS2.out
          have XB2 : Hid (Bx4 (v2.setCell ⟨S6, 2, none⟩ (.string y2)) (w.heap.size + 1) (.string ⟨#[]⟩) (.string ⟨#[]⟩) (.string ⟨#[]⟩) (.string ⟨#[]⟩) 31) := (XB1.out.below hb).grown hg (by have := HSz.out; simp; omega)
          have hbw := HBB1.out.trans (hb.mono HBB1.out.size)
          have HBB2 : Hid (Below w.heap.size w (v2.setCell ⟨S6, 2, none⟩ (.string y2))) := hbw.grown hg hbw.size (fun j hj => by have := HSz.out; injection hj with hj; omega)
          have fr2 := YS2.out.free 2
          have ys2 := YS2.out.c2
          have l0 := XS2.out.c0
          have l1 := XS2.out.c1
          have l2 := XS2.out.c2
          have d0 := XB2.out.c0
          have d1 := XB2.out.c1
          have d2 := XB2.out.c2
          have d3 := XB2.out.c3
          have fb0 := XB2.out.free 0
          have fb1 := XB2.out.free 1
          have fb2 := XB2.out.free 2
          have fb3 := XB2.out.free 3
          have XF : Hid (Bx4 (put4 (v2.setCell ⟨S6, 2, none⟩ (.string y2)) (w.heap.size + 1) (.string y0) (.string y1) (.string ⟨#[]⟩) (.string y2)) (w.heap.size + 1) (.string y0) (.string y1) (.string ⟨#[]⟩) (.string y2) 31) := put4_box XB2.out _ _ _ _
          have HBF : Hid (Below w.heap.size w (put4 (v2.setCell ⟨S6, 2, none⟩ (.string y2)) (w.heap.size + 1) (.string y0) (.string y1) (.string ⟨#[]⟩) (.string y2))) := HBB2.out.grown (put4_grown _ _ _ _ _ _) HBB2.out.size (fun j hj => by injection hj with hj; omega)
          clear hb hg hbw
          go_wp2_with fail
          rw [rounds_succ]
          go_wp2_with fail
          refine bodyPost_ret (v := .tuple #[.agg #[.string y0, .string y1, .string ⟨#[]⟩, .string y2], .bool true]) ?_ rfl (HQ.out _ HBF.out)
          exact results_cell_tmp rfl _ _ _ _ _ _ _ _ rfl rfl XF.out Tryd.underlying31 rfl hs4.out
end Go.Proofs.YtnjjlnhchfoigabDoor
