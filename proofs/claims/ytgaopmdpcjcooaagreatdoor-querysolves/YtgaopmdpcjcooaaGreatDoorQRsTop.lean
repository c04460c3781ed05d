/- Contracts over this translation: the document's QuerySolve and QueryImplies. -/
import Derived.Test.YtgaopmdpcjcooaaGreatDoorQRsSolve
import Derived.Test.YtgaopmdpcjcooaaGreatDoorQCopy
import Derived.Test.YtgaopmdpcjcooaaGreatDoorRfOrdN
namespace Go.Proofs.YtgaopmdpcjcooaaGreatDoor
open Go.RowKit
set_option linter.unusedVariables false
set_option linter.unusedSimpArgs false
theorem row_low {w : World} {B B' s n : Nat} {e : TypeId} {v : Value} {xs : List Value} (h : w.ownsRow B e s v n xs) (hb : B' ≤ B) : w.ownsRow B' e s v n xs := by
  obtain ⟨h1, h2⟩ := h
  refine ⟨h1, ?_⟩
  rcases h2 with h2 | ⟨g, cap, cur, e1, hB, rest⟩
  · exact Or.inl h2
  · exact Or.inr ⟨g, cap, cur, e1, Nat.le_trans hb hB, rest⟩
theorem cells_of3 {w : World} {g : Nat} {a b c : Value} {t : TypeId} (h : w.heap[g]? = some (.cells #[a, b, c] t (0, 0))) : ∀ (j : Nat) (u : Value), [a, b, c][j]? = some u → w.cell? ((⟨g, 0, none⟩ : Addr).add j) = some u := by
  intro j u hj
  rw [Addr.add_lit, Nat.zero_add, cell_of_row _ _ _ _ _ _ h]
  match j, hj with
  | 0, hj => simpa using hj
  | 1, hj => simpa using hj
  | 2, hj => simpa using hj
set_option maxHeartbeats 1000000 in
theorem solveTopR_any (v : Value) (l : List Rq) (w : World) (hv : Reqs w v l) (hf : ∀ r ∈ l, Fit r) (hR : Room w) :
    Calls Tryz.prog 6 #[v] w fun e w' => ∃ u b, e = .returned (.tuple #[u, .bool b, .int .i64 (chkI l)]) ∧ ((chkI l ≠ 0 ∧ b = false ∧ u = .slice none 0 0) ∨ (chkI l = 0 ∧ SolveR l w' u b)) ∧ Below w.heap.size w w' := by
  have HC : Hid (Calls Tryz.prog 22 #[v] w fun e w' => e = .returned (.int .i64 (chkI l)) ∧ Below w.heap.size w w') := qcheckR_any v l w hv hf hR
  have HS : Hid (chkI l = 0 → ∀ w1, Below w.heap.size w w1 → Calls Tryz.prog 23 #[v] w1 fun e w' => ∃ u b, e = .returned (.tuple #[u, .bool b]) ∧ SolveR l w' u b ∧ Below w1.heap.size w1 w') := fun h w1 hb => solveRf_any v l w1 (hv.below hb) (fine_of_chk h)
  obtain ⟨p, c, rfl, hn, hcell⟩ := hv.open
  clear hv hcell hf hR hn
  by_cases h1 : chkI l = 0
  · have HS2 : Hid (∀ w1, Below w.heap.size w w1 → Calls Tryz.prog 23 #[.slice p l.length c] w1 fun e w' => ∃ u b, e = .returned (.tuple #[u, .bool b]) ∧ SolveR l w' u b ∧ Below w1.heap.size w1 w') := HS.out h1
    rw [h1] at HC ⊢
    clear h1 HS
    generalize l.length = nl at *
    go_enter Tryz.func6, Tryz.ntmps6
    go_wp2_with fail
    refine Calls.mono HC.out ?_
    rintro e w1 ⟨rfl, b⟩
    have HB : Hid (Below w.heap.size w w1) := b
    clear b
    go_wp2_with fail
    refine Calls.mono (HS2.out w1 HB.out) ?_
    rintro e w2 ⟨u, x, rfl, hs, b⟩
    have HB2 : Hid (Below w.heap.size w w2) := HB.out.trans (b.mono HB.out.size)
    have HSR : Hid (SolveR l w2 u x) := hs
    clear b hs
    go_wp2_with fail
    exact bodyPost_ret (v := .tuple #[u, .bool x, .int .i64 0]) (by simp [results, Tryz.results6, go_sem]) rfl ⟨u, x, rfl, Or.inr ⟨by trivial, HSR.out⟩, HB2.out⟩
  · have hn1 : (chkI l != 0) = true := by simpa using h1
    have HN : Hid (chkI l ≠ 0) := h1
    clear h1 HS
    generalize chkI l = ce at *
    generalize l.length = nl at *
    go_enter Tryz.func6, Tryz.ntmps6
    go_wp2_with fail
    refine Calls.mono HC.out ?_
    rintro e w1 ⟨rfl, b⟩
    have HB : Hid (Below w.heap.size w w1) := b
    clear b
    go_wp2_with fail
    exact bodyPost_ret (v := .tuple #[.slice none 0 0, .bool false, .int .i64 ce]) (by simp [results, Tryz.results6, go_sem]) rfl ⟨_, _, rfl, Or.inl ⟨HN.out, rfl, rfl⟩, HB.out⟩
set_option maxRecDepth 100000 in
set_option maxHeartbeats 8000000 in
theorem impR_loop (v u : Value) (l m : List Rq) (w : World) (hv : Reqs w v l) (hg : GoodV v) (hu : Reqs w u m) (hfl : ∀ r ∈ l, Fit r) (hfm : ∀ r ∈ m, Fit r) (hR : Room w) (h1 : chkI l = 0) (h2 : chkI m = 0) :
    Calls Tryz.prog 8 #[v, u] w fun e w' => ∃ uu, e = .returned (.tuple #[.bool (impliesP l m).1, uu, .int .i64 0]) ∧ Labs w' uu (impliesP l m).2 ∧ Below w.heap.size w w' := by
  obtain ⟨i0, hi, hz0, hz1, hz2⟩ := info_parts info_req
  have hl8 := (chk_ok.1 h1).1
  have HCl : Hid (Calls Tryz.prog 22 #[v] w fun e w' => e = .returned (.int .i64 0) ∧ Below w.heap.size w w') := by
    have := qcheckR_any v l w hv hfl hR
    rw [h1] at this
    exact this
  have HCm : Hid (∀ w1, Below w.heap.size w w1 → Calls Tryz.prog 22 #[u] w1 fun e w' => e = .returned (.int .i64 0) ∧ Below w1.heap.size w1 w') := fun w1 hb => by
    have := qcheckR_any u m w1 (hu.below hb) hfm (hR.below hb)
    rw [h2] at this
    exact this
  obtain ⟨p, c, rfl, hn, hcell⟩ := hu.open
  have HC : Hid (∀ k (hk : k < m.length), ∃ g o q d, p = some ⟨g, o, none⟩ ∧ m.length ≤ c ∧ ∀ w1, Below w.heap.size w w1 → w1.cell? ⟨g, o + k * 3, none⟩ = some (.string (Ba m[k].1)) ∧ w1.cell? ⟨g, o + k * 3 + 1, none⟩ = some (.int .i64 m[k].2.1) ∧ w1.cell? ⟨g, o + k * 3 + 2, none⟩ = some (.slice q m[k].2.2.length d) ∧ Strs w1 (.slice q m[k].2.2.length d) m[k].2.2) := hcell
  have HCo : Hid (∀ w1, Below w.heap.size w w1 → Calls Tryz.prog 26 #[v] w1 fun e w' => ∃ u, e = .returned u ∧ OwnR w1 w1.heap.size w' u l ∧ Below w1.heap.size w1 w') := fun w1 hb => copy_any v l w1 (hv.below hb) hg (by omega)
  have HSv2 : Hid (∀ w1 u r, Reqs w1 u (l ++ [r]) → Fine (l ++ [r]) → Calls Tryz.prog 23 #[u] w1 fun e w' => ∃ uu b, e = .returned (.tuple #[uu, .bool b]) ∧ SolveR (l ++ [r]) w' uu b ∧ Below w1.heap.size w1 w') := fun w1 u r h hf => solveRf_any u _ w1 h hf
  have HFine : Hid (∀ r ∈ m, Fine (l ++ [oppR r])) := fun r hr => fine_opp h1 h2 hr
  have HKd : Hid (∀ r ∈ m, r.2.1 = 1 ∨ r.2.1 = 2 ∨ r.2.1 = 3 ∨ r.2.1 = 4) := fun r hr => fits_kind (part_ok.1 ((chk_ok.1 h2).2 r hr)).2.1
  have HX : Hid (impliesP l m = impliesP l (m.drop 0)) := rfl
  obtain ⟨p0, c0, rfl, hn0, hcell0⟩ := hv.open
  clear hcell hcell0 hv hu hn0 hfl hfm hR h1 h2 hg
  generalize hnl : l.length = nl at *
  generalize impliesP l m = res at *
  unfold maxLen at hn
  go_enter Tryz.func8, Tryz.ntmps8
  go_wp2_with fail
  refine Calls.mono HCl.out ?_
  rintro e w1 ⟨rfl, b1⟩
  have HB1 : Hid (Below w.heap.size w w1) := b1
  clear b1
  go_wp2_with fail
  refine Calls.mono (HCm.out w1 HB1.out) ?_
  rintro e w2 ⟨rfl, b2⟩
  have HB2 : Hid (Below w.heap.size w w2) := HB1.out.trans (b2.mono HB1.out.size)
  clear b2
  go_wp2_with fail
  go_loopw [25] (fun i wr => ∃ k : Nat, k ≤ m.length ∧ i = .int .i64 k ∧ impliesP l (m.drop 0) = impliesP l (m.drop k) ∧ Below w.heap.size w wr) (fun i _ => m.length - (intOf i).toNat)
  case atStart => exact ⟨0, Nat.zero_le _, rfl, rfl, HB2.out⟩
  case round =>
    obtain ⟨k, hk, rfl, hall, hbel⟩ := hrel
    have HA : Hid (impliesP l (m.drop 0) = impliesP l (m.drop k)) := hall
    have HB : Hid (Below w.heap.size w wr) := hbel
    clear hall hbel
    by_cases hlt : k < m.length
    · obtain ⟨g, o, q, d, rfl, hlc, hc0⟩ := HC.out k hlt
      obtain ⟨c1, c2, c3, c4⟩ := hc0 wr HB.out
      have HSv : Hid (Strs wr (.slice q m[k].2.2.length d) m[k].2.2) := c4
      have hmem : m[k] ∈ m := List.getElem_mem hlt
      have HSt : Hid (solveP (l ++ [oppR m[k]]) = none → impliesP l (m.drop k) = impliesP l (m.drop (k + 1))) := imp_step (l := l) hlt
      have HHt : Hid (∀ ls, solveP (l ++ [oppR m[k]]) = some ls → impliesP l (m.drop k) = (false, ls)) := fun ls => imp_hit (l := l) (ls := ls) hlt
      have HFi : Hid (Fine (l ++ [oppR m[k]])) := HFine.out _ hmem
      have hkd := HKd.out _ hmem
      clear hc0 c4 hmem
      generalize m[k] = y at *
      obtain ⟨yk, yd, yv⟩ := y
      dsimp only at *
      rcases hkd with rfl | rfl | rfl | rfl
      · have HOp : Hid (oppR (yk, (1 : Int), yv) = (yk, (2 : Int), yv)) := rfl
        rw [HOp.out] at HSt HHt HFi
        have HBb : Hid (Below wr.heap.size wr (wr.alloc (.cells #[.string (Ba yk), .int .i64 2, .slice q yv.length d] 35))) := (Below.refl _ _).alloc (Nat.le_refl _) _
        have HCo2 : Hid (∀ w1, Below (wr.alloc (.cells #[.string (Ba yk), .int .i64 2, .slice q yv.length d] 35)).heap.size (wr.alloc (.cells #[.string (Ba yk), .int .i64 2, .slice q yv.length d] 35)) w1 → Calls Tryz.prog 26 #[.slice p0 nl c0] w1 fun e w' => ∃ u, e = .returned u ∧ OwnR w1 w1.heap.size w' u l ∧ Below w1.heap.size w1 w') := fun w1 hb1 => HCo.out w1 (HB.out.trans ((HBb.out.trans (hb1.mono (by simp))).mono HB.out.size))
        have HBx : Hid (∀ w3, Below (wr.alloc (.cells #[.string (Ba yk), .int .i64 2, .slice q yv.length d] 35)).heap.size (wr.alloc (.cells #[.string (Ba yk), .int .i64 2, .slice q yv.length d] 35)) w3 → w3.cell? ⟨wr.heap.size, 0, none⟩ = some (.string (Ba yk)) ∧ w3.cell? ⟨wr.heap.size, 1, none⟩ = some (.int .i64 2) ∧ w3.cell? ⟨wr.heap.size, 2, none⟩ = some (.slice q yv.length d)) := fun w3 h => box3 h
        have HSw : Hid (Strs (wr.alloc (.cells #[.string (Ba yk), .int .i64 2, .slice q yv.length d] 35)) (.slice q yv.length d) yv) := HSv.out.below HBb.out
        clear HOp
        generalize hnv : yv.length = nv at *
        clear hnv
        generalize hzy : Ba yk = z at *
        have HZ : Hid (z = Ba yk) := hzy.symm
        clear hzy
        have hwb : (wr.alloc (.cells #[.string z, .int .i64 2, .slice q nv d] 35)).heap.size = wr.heap.size + 1 := by simp
        go_wp2_with fail
        have hHeld : Below (wr.alloc (.cells #[.string z, .int .i64 2, .slice q nv d] 35)).heap.size (wr.alloc (.cells #[.string z, .int .i64 2, .slice q nv d] 35)) (wr.alloc (.cells #[.string z, .int .i64 2, .slice q nv d] 35)).drew := (Below.refl _ _).drew
        refine M_begin 11 11 (fun w' => Below (wr.alloc (.cells #[.string z, .int .i64 2, .slice q nv d] 35)).heap.size (wr.alloc (.cells #[.string z, .int .i64 2, .slice q nv d] 35)) w') (by kernel_rfl) rfl ?_
        refine N_take 0 (oi := { dst := some 43, op := Op.move (Operand.tmp 0), type := 22, pos := "query.go:295", after := #[], guard := none }) (v := ?vv1) rfl (by kernel_rfl) (by kernel_rfl) (by kernel_rfl) rfl (fun _ _ _ h => h) hHeld (Or.inl ⟨by rfl, ?hy1⟩) ?_
        case hy1 => (intro w' hSw; skip; go_simp; try (with_reducible rfl))
        try simp only [Act.put, List.setIfInBounds_toArray, List.set_cons_zero, List.set_cons_succ]
        refine N_take 2 (oi := { dst := some 45, op := Op.load 35 (Operand.tmp 10), type := 35, pos := "query.go:295", after := #[], guard := none }) (v := .agg #[.string z, .int .i64 2, .slice q nv d]) rfl (by kernel_rfl) (by kernel_rfl) (by kernel_rfl) rfl (fun _ _ _ h => h) hHeld (Or.inl ⟨by rfl, ?hy2⟩) ?_
        case hy2 => (intro w' hSw; obtain ⟨x0, x1, x2⟩ := HBx.out _ hSw; go_simp; try (with_reducible rfl))
        try simp only [Act.put, List.setIfInBounds_toArray, List.set_cons_zero, List.set_cons_succ]
        refine M_ready [1, 3] (by kernel_rfl) (by decide) ?_
        refine AllM.cons (i := 1) (o := { dst := some 44, op := Op.call { callee := Callee.value (Operand.func 26), args := #[Operand.tmp 43], argTypes := #[22] }, type := 22, pos := "query.go:295", after := #[{ on := 0, ground := Ground.data }], guard := none }) rfl (fun K hK => ?_) ?_
        · rw [if_pos (by rfl)]
          go_wp2_with fail
          refine Calls.mono (HCo2.out _ hHeld) ?_
          rintro e x1 ⟨u, rfl, ⟨L, hL1, hL2, hL3⟩, b1⟩
          dsimp only
          have hst0 := hHeld.size
          refine hK.out _ _ (hHeld.trans (b1.mono hHeld.size)) (fun hHeld => ?_)
          clear hK K
          try simp only [Act.put, List.setIfInBounds_toArray, List.set_cons_zero, List.set_cons_succ]
          have HStW0 : Hid (∀ p ∈ L, Strs (wr.alloc (.cells #[.string z, .int .i64 2, .slice q nv d] 35)) p.2 p.1.2.2) := hL2
          refine M_ready [3] (by kernel_rfl) (by decide) ?_
          refine AllM.cons (i := 3) (o := { dst := some 46, op := Op.buildSlice 22 1 #[(0, Operand.tmp 45)], type := 22, pos := "query.go:295", after := #[{ on := 2, ground := Ground.data }], guard := none }) rfl (fun K hK => ?_) AllM.nil
          go_simp
          have b5 : Below x1.heap.size x1 (x1.alloc (.cells #[.string z, .int .i64 2, .slice q nv d] 35)) := (Below.refl _ x1).alloc (Nat.le_refl _) (.cells #[.string z, .int .i64 2, .slice q nv d] 35)
          have n5 : (x1.alloc (.cells #[.string z, .int .i64 2, .slice q nv d] 35)).heap[x1.heap.size]? = some (.cells #[.string z, .int .i64 2, .slice q nv d] 35 (0, 0)) := heap_alloc_new x1 _
          have hst1 : (wr.alloc (.cells #[.string z, .int .i64 2, .slice q nv d] 35)).heap.size ≤ x1.heap.size := hHeld.size
          refine hK.out _ _ (hHeld.trans (b5.mono hHeld.size)) (fun hHeld => ?_)
          generalize (x1.alloc (.cells #[.string z, .int .i64 2, .slice q nv d] 35)) = x5 at *
          clear hK K
          try simp only [Act.put, List.setIfInBounds_toArray, List.set_cons_zero, List.set_cons_succ]
          have hRow : x5.ownsRow (wr.alloc (.cells #[.string z, .int .i64 2, .slice q nv d] 35)).heap.size 35 3 u L.length (flatR L) := row_low (row_below hL3 b5) (Nat.le_refl _)
          have hStr : ∀ p ∈ L, Strs x5 p.2 p.1.2.2 := fun p hp => (HStW0.out p hp).below hHeld
          have hCell : ∀ (j : Nat) (u : Value), [Value.string z, .int .i64 2, .slice q nv d][j]? = some u → x5.cell? ((⟨x1.heap.size, 0, none⟩ : Addr).add j) = some u := cells_of3 n5
          have hLl : L.length = l.length := by rw [← hL1, List.length_map]
          have hLl2 : L.length ≤ 8 := by omega
          have HRow : Hid (_) := hRow
          have HStr : Hid (_) := hStr
          have HCell : Hid (_) := hCell
          have HL1 : Hid (L.map (·.1) = l) := hL1
          clear hRow hStr hCell hL1 hL2 hL3 hLl
          refine M_ready [4] (by kernel_rfl) (by decide) ?_
          refine AllM.cons (i := 4) (o := { dst := some 47, op := Op.call { callee := Callee.builtin Builtin.append, args := #[Operand.tmp 44, Operand.tmp 46], argTypes := #[22, 22] }, type := 22, pos := "query.go:295", after := #[{ on := 1, ground := Ground.data }, { on := 3, ground := Ground.data }, { on := 1, ground := Ground.chain }], guard := none }) rfl (fun K hK => ?_) AllM.nil
          rw [if_pos (by rfl)]
          refine wp_append_own x5 (.tmp 44) (.tmp 46) 22 rfl (wr.alloc (.cells #[.string z, .int .i64 2, .slice q nv d] 35)).heap.size 35 i0 (.agg #[.string ⟨#[]⟩, .int .i64 0, .slice none 0 0]) 3 48 Tryz.underlying22 hi hz0 hz1 hz2 rfl (by decide) _ _ _ rfl HRow.out ⟨x1.heap.size, 0, none⟩ 1 1 [.string z, .int .i64 2, .slice q nv d] rfl rfl HCell.out one3 (by unfold maxLen; omega) (by omega) hHeld.size ?_
          intro v9 x9 hown9 hgrow9 _
          have hH9 : Below (wr.alloc (.cells #[.string z, .int .i64 2, .slice q nv d] 35)).heap.size (wr.alloc (.cells #[.string z, .int .i64 2, .slice q nv d] 35)) x9 := hHeld.grown hgrow9 hHeld.size (fun k e => (World.ownsRow.lt HRow.out k e).1)
          have hWx : Below (wr.alloc (.cells #[.string z, .int .i64 2, .slice q nv d] 35)).heap.size x5 x9 := (Below.refl _ _).grown hgrow9 hHeld.size (fun k e => (World.ownsRow.lt HRow.out k e).1)
          have HRq : Hid (Reqs x9 v9 (l ++ [(yk, (2 : Int), yv)])) := by
            have h9 := HZ.out
            have h8 := hown9
            rw [h9] at h8
            have := reqs_of_owns (L := L ++ [((yk, (2 : Int), yv), Value.slice q nv d)]) (v := v9) (w := x9) (by rw [List.length_append, flatR_snoc]; exact h8) (fun p hp => by
              rcases List.mem_append.1 hp with hp | hp
              · exact (HStW0.out p hp).below hH9
              · simp only [List.mem_singleton] at hp
                subst hp
                exact HSw.out.below hH9)
            rw [List.map_append, HL1.out] at this
            exact this
          have HH9 : Hid (_) := hH9
          refine hK.out _ _ hH9 (fun hHeld => ?_)
          clear hK K
          try simp only [Act.put, List.setIfInBounds_toArray, List.set_cons_zero, List.set_cons_succ]
          clear hown9 hgrow9 hWx HRow HStr HCell HL1
          refine M_ready [5] (by kernel_rfl) (by decide) ?_
          refine AllM.cons (i := 5) (o := { dst := some 48, op := Op.call { callee := Callee.value (Operand.func 23), args := #[Operand.tmp 47], argTypes := #[22] }, type := 51, pos := "query.go:295", after := #[{ on := 4, ground := Ground.data }, { on := 4, ground := Ground.chain }], guard := none }) rfl (fun K hK => ?_) AllM.nil
          rw [if_pos (by rfl)]
          go_wp2_with fail
          refine Calls.mono (HSv2.out x9 v9 _ HRq.out HFi.out) ?_
          rintro e w6 ⟨uu, bb, rfl, hsr, b6⟩
          dsimp only
          have HB6 : Hid (Below w.heap.size w w6) := HB.out.trans ((HBb.out.trans ((HH9.out.trans (b6.mono HH9.out.size)).mono (by simp))).mono HB.out.size)
          have HSR : Hid (SolveR (l ++ [(yk, (2 : Int), yv)]) w6 uu bb) := hsr
          clear hsr
          refine hK.out _ _ (hHeld.trans (b6.mono hHeld.size)) (fun hHeld => ?_)
          clear hK K
          try simp only [Act.put, List.setIfInBounds_toArray, List.set_cons_zero, List.set_cons_succ]
          refine N_take 6 (oi := { dst := some 42, op := Op.move (Operand.tmp 48), type := 51, pos := "query.go:295", after := #[{ on := 5, ground := Ground.data }], guard := none }) (v := ?vv3) rfl (by kernel_rfl) (by kernel_rfl) (by kernel_rfl) rfl (fun _ _ _ h => h) hHeld (Or.inl ⟨by rfl, ?hy3⟩) ?_
          case hy3 => (intro w' hSw; skip; go_simp; try (with_reducible rfl))
          try simp only [Act.put, List.setIfInBounds_toArray, List.set_cons_zero, List.set_cons_succ]
          refine N_take 7 (oi := { dst := some 49, op := Op.extract (Operand.tmp 42) 0, type := 23, pos := "query.go:295", after := #[{ on := 6, ground := Ground.data }], guard := none }) (v := uu) rfl (by kernel_rfl) (by kernel_rfl) (by kernel_rfl) rfl (fun _ _ _ h => h) hHeld (Or.inl ⟨by rfl, ?hy4⟩) ?_
          case hy4 => (intro w' hSw; skip; go_simp; try rfl)
          try simp only [Act.put, List.setIfInBounds_toArray, List.set_cons_zero, List.set_cons_succ]
          refine N_take 8 (oi := { dst := some 50, op := Op.extract (Operand.tmp 42) 1, type := 4, pos := "query.go:295", after := #[{ on := 6, ground := Ground.data }, { on := 9, ground := Ground.gcOnly Departure.lateStores }], guard := none }) (v := .bool bb) rfl (by kernel_rfl) (by kernel_rfl) (by kernel_rfl) rfl (fun _ _ _ h => h) hHeld (Or.inl ⟨by rfl, ?hy5⟩) ?_
          case hy5 => (intro w' hSw; skip; go_simp; try rfl)
          try simp only [Act.put, List.setIfInBounds_toArray, List.set_cons_zero, List.set_cons_succ]
          refine N_take 9 (oi := { dst := some 11, op := Op.assign (Operand.tmp 49), type := 23, pos := "query.go:295", after := #[{ on := 7, ground := Ground.data }, { on := 5, ground := Ground.chain }, { on := 0, ground := Ground.phase }, { on := 1, ground := Ground.phase }, { on := 2, ground := Ground.phase }, { on := 3, ground := Ground.phase }, { on := 4, ground := Ground.phase }, { on := 5, ground := Ground.phase }, { on := 6, ground := Ground.phase }, { on := 7, ground := Ground.phase }, { on := 8, ground := Ground.textOnly Departure.lateStores }], guard := none }) (v := uu) rfl (by kernel_rfl) (by kernel_rfl) (by kernel_rfl) rfl (fun _ _ _ h => h) hHeld (Or.inl ⟨by rfl, ?hy6⟩) ?_
          case hy6 => (intro w' hSw; skip; go_simp; try rfl)
          try simp only [Act.put, List.setIfInBounds_toArray, List.set_cons_zero, List.set_cons_succ]
          refine N_take 10 (oi := { dst := some 12, op := Op.assign (Operand.tmp 50), type := 4, pos := "query.go:295", after := #[{ on := 8, ground := Ground.data }, { on := 9, ground := Ground.chain }, { on := 0, ground := Ground.phase }, { on := 1, ground := Ground.phase }, { on := 2, ground := Ground.phase }, { on := 3, ground := Ground.phase }, { on := 4, ground := Ground.phase }, { on := 5, ground := Ground.phase }, { on := 6, ground := Ground.phase }, { on := 7, ground := Ground.phase }, { on := 8, ground := Ground.phase }, { on := 9, ground := Ground.phase }], guard := none }) (v := .bool bb) rfl (by kernel_rfl) (by kernel_rfl) (by kernel_rfl) rfl (fun _ _ _ h => h) hHeld (Or.inl ⟨by rfl, ?hy7⟩) ?_
          case hy7 => (intro w' hSw; skip; go_simp; try rfl)
          try simp only [Act.put, List.setIfInBounds_toArray, List.set_cons_zero, List.set_cons_succ]
          refine ⟨by kernel_rfl, ?_⟩
          clear hHeld b6 HRq HH9
          rcases HSR.out with ⟨hs, rfl, rfl⟩ | ⟨ls, hs, rfl, hla⟩
          · have HE : Hid (impliesP l (m.drop k) = impliesP l (m.drop (k + 1))) := HSt.out hs
            clear hs HSR
            go_wp2_with fail
            go_roundw
            case rel =>
              have hrelN : ∃ k' : Nat, k' ≤ m.length ∧ (Value.int .i64 ((k : Int) + 1)) = .int .i64 k' ∧ impliesP l (m.drop 0) = impliesP l (m.drop k') ∧ Below w.heap.size w w6 := ⟨k + 1, by omega, by go_num, HA.out.trans HE.out, HB6.out⟩
              first | exact hrelN | ((repeat apply Exists.intro); refine ⟨hrelN, ?_⟩; first | rfl | exact ⟨rfl, rfl⟩ | exact ⟨rfl, rfl, rfl⟩)
            case measure => simp [intOf]; omega
          · have HE : Hid (res = (false, ls)) := by show _ = _; rw [HX.out, HA.out, HHt.out ls hs]
            have HLa : Hid (Labs w6 uu ls) := hla
            clear hs hla HSR
            go_wp2_with fail
            refine bodyPost_ret (v := .tuple #[.bool false, uu, .int .i64 0]) (by simp [results, Tryz.results8, go_sem]) rfl ⟨uu, by rw [HE.out], by rw [HE.out]; exact HLa.out, HB6.out⟩
        refine AllM.cons (i := 3) (o := { dst := some 46, op := Op.buildSlice 22 1 #[(0, Operand.tmp 45)], type := 22, pos := "query.go:295", after := #[{ on := 2, ground := Ground.data }], guard := none }) rfl (fun K hK => ?_) AllM.nil
        go_simp
        have b5 : Below (wr.alloc (.cells #[.string z, .int .i64 2, .slice q nv d] 35)).heap.size (wr.alloc (.cells #[.string z, .int .i64 2, .slice q nv d] 35)).drew ((wr.alloc (.cells #[.string z, .int .i64 2, .slice q nv d] 35)).alloc (.cells #[.string z, .int .i64 2, .slice q nv d] 35)).drew := (Below.refl _ (wr.alloc (.cells #[.string z, .int .i64 2, .slice q nv d] 35)).drew).alloc (Nat.le_refl _) (.cells #[.string z, .int .i64 2, .slice q nv d] 35)
        have n5 : ((wr.alloc (.cells #[.string z, .int .i64 2, .slice q nv d] 35)).alloc (.cells #[.string z, .int .i64 2, .slice q nv d] 35)).drew.heap[(wr.alloc (.cells #[.string z, .int .i64 2, .slice q nv d] 35)).heap.size]? = some (.cells #[.string z, .int .i64 2, .slice q nv d] 35 (0, 0)) := heap_alloc_new (wr.alloc (.cells #[.string z, .int .i64 2, .slice q nv d] 35)).drew _
        have hst1 : (wr.alloc (.cells #[.string z, .int .i64 2, .slice q nv d] 35)).heap.size ≤ (wr.alloc (.cells #[.string z, .int .i64 2, .slice q nv d] 35)).heap.size := hHeld.size
        refine hK.out _ _ (hHeld.trans (b5.mono hHeld.size)) (fun hHeld => ?_)
        generalize ((wr.alloc (.cells #[.string z, .int .i64 2, .slice q nv d] 35)).alloc (.cells #[.string z, .int .i64 2, .slice q nv d] 35)).drew = x5 at *
        clear hK K
        try simp only [Act.put, List.setIfInBounds_toArray, List.set_cons_zero, List.set_cons_succ]
        refine M_ready [1] (by kernel_rfl) (by decide) ?_
        refine AllM.cons (i := 1) (o := { dst := some 44, op := Op.call { callee := Callee.value (Operand.func 26), args := #[Operand.tmp 43], argTypes := #[22] }, type := 22, pos := "query.go:295", after := #[{ on := 0, ground := Ground.data }], guard := none }) rfl (fun K hK => ?_) AllM.nil
        rw [if_pos (by rfl)]
        go_wp2_with fail
        refine Calls.mono (HCo2.out _ hHeld) ?_
        rintro e x1 ⟨u, rfl, ⟨L, hL1, hL2, hL3⟩, b1⟩
        dsimp only
        have hst0 := hHeld.size
        refine hK.out _ _ (hHeld.trans (b1.mono hHeld.size)) (fun hHeld => ?_)
        clear hK K
        try simp only [Act.put, List.setIfInBounds_toArray, List.set_cons_zero, List.set_cons_succ]
        have HStW5 : Hid (∀ p ∈ L, Strs x5 p.2 p.1.2.2) := hL2
        have HRow5 : Hid (x1.ownsRow x5.heap.size 35 3 u L.length (flatR L)) := hL3
        have HB15 : Hid (Below x5.heap.size x5 x1) := b1
        have HStW0 : Hid (∀ p ∈ L, Strs x1 p.2 p.1.2.2) := fun p hp => (HStW5.out p hp).below b1
        have hRow : x1.ownsRow (wr.alloc (.cells #[.string z, .int .i64 2, .slice q nv d] 35)).heap.size 35 3 u L.length (flatR L) := row_low hL3 hst0
        have hStr : ∀ p ∈ L, Strs x1 p.2 p.1.2.2 := fun p hp => HStW0.out p hp
        have hCell : ∀ (j : Nat) (u : Value), [Value.string z, .int .i64 2, .slice q nv d][j]? = some u → x1.cell? ((⟨wr.heap.size + 1, 0, none⟩ : Addr).add j) = some u := by have h77 := cells_of3 ((b1.block _ (lt_of_block n5)).trans n5); rw [hwb] at h77; exact h77
        have hLl : L.length = l.length := by rw [← hL1, List.length_map]
        have hLl2 : L.length ≤ 8 := by omega
        have HRow : Hid (_) := hRow
        have HStr : Hid (_) := hStr
        have HCell : Hid (_) := hCell
        have HL1 : Hid (L.map (·.1) = l) := hL1
        clear hRow hStr hCell hL1 hL2 hL3 hLl
        refine M_ready [4] (by kernel_rfl) (by decide) ?_
        refine AllM.cons (i := 4) (o := { dst := some 47, op := Op.call { callee := Callee.builtin Builtin.append, args := #[Operand.tmp 44, Operand.tmp 46], argTypes := #[22, 22] }, type := 22, pos := "query.go:295", after := #[{ on := 1, ground := Ground.data }, { on := 3, ground := Ground.data }, { on := 1, ground := Ground.chain }], guard := none }) rfl (fun K hK => ?_) AllM.nil
        rw [if_pos (by rfl)]
        refine wp_append_own x1 (.tmp 44) (.tmp 46) 22 rfl (wr.alloc (.cells #[.string z, .int .i64 2, .slice q nv d] 35)).heap.size 35 i0 (.agg #[.string ⟨#[]⟩, .int .i64 0, .slice none 0 0]) 3 48 Tryz.underlying22 hi hz0 hz1 hz2 rfl (by decide) _ _ _ rfl HRow.out ⟨wr.heap.size + 1, 0, none⟩ 1 1 [.string z, .int .i64 2, .slice q nv d] rfl rfl HCell.out one3 (by unfold maxLen; omega) (by omega) hHeld.size ?_
        intro v9 x9 hown9 hgrow9 _
        have hH9 : Below (wr.alloc (.cells #[.string z, .int .i64 2, .slice q nv d] 35)).heap.size (wr.alloc (.cells #[.string z, .int .i64 2, .slice q nv d] 35)) x9 := hHeld.grown hgrow9 hHeld.size (fun k e => (World.ownsRow.lt HRow.out k e).1)
        have hWx : Below (wr.alloc (.cells #[.string z, .int .i64 2, .slice q nv d] 35)).heap.size x1 x9 := (Below.refl _ _).grown hgrow9 hHeld.size (fun k e => (World.ownsRow.lt HRow.out k e).1)
        have HRq : Hid (Reqs x9 v9 (l ++ [(yk, (2 : Int), yv)])) := by
          have h9 := HZ.out
          have h8 := hown9
          rw [h9] at h8
          have := reqs_of_owns (L := L ++ [((yk, (2 : Int), yv), Value.slice q nv d)]) (v := v9) (w := x9) (by rw [List.length_append, flatR_snoc]; exact h8) (fun p hp => by
            rcases List.mem_append.1 hp with hp | hp
            · exact (HStW5.out p hp).below (HB15.out.grown hgrow9 HB15.out.size (fun k e => (World.ownsRow.lt HRow5.out k e).1))
            · simp only [List.mem_singleton] at hp
              subst hp
              exact HSw.out.below hH9)
          rw [List.map_append, HL1.out] at this
          exact this
        have HH9 : Hid (_) := hH9
        refine hK.out _ _ hH9 (fun hHeld => ?_)
        clear hK K
        try simp only [Act.put, List.setIfInBounds_toArray, List.set_cons_zero, List.set_cons_succ]
        clear hown9 hgrow9 hWx HRow HStr HCell HL1
        refine M_ready [5] (by kernel_rfl) (by decide) ?_
        refine AllM.cons (i := 5) (o := { dst := some 48, op := Op.call { callee := Callee.value (Operand.func 23), args := #[Operand.tmp 47], argTypes := #[22] }, type := 51, pos := "query.go:295", after := #[{ on := 4, ground := Ground.data }, { on := 4, ground := Ground.chain }], guard := none }) rfl (fun K hK => ?_) AllM.nil
        rw [if_pos (by rfl)]
        go_wp2_with fail
        refine Calls.mono (HSv2.out x9 v9 _ HRq.out HFi.out) ?_
        rintro e w6 ⟨uu, bb, rfl, hsr, b6⟩
        dsimp only
        have HB6 : Hid (Below w.heap.size w w6) := HB.out.trans ((HBb.out.trans ((HH9.out.trans (b6.mono HH9.out.size)).mono (by simp))).mono HB.out.size)
        have HSR : Hid (SolveR (l ++ [(yk, (2 : Int), yv)]) w6 uu bb) := hsr
        clear hsr
        refine hK.out _ _ (hHeld.trans (b6.mono hHeld.size)) (fun hHeld => ?_)
        clear hK K
        try simp only [Act.put, List.setIfInBounds_toArray, List.set_cons_zero, List.set_cons_succ]
        refine N_take 6 (oi := { dst := some 42, op := Op.move (Operand.tmp 48), type := 51, pos := "query.go:295", after := #[{ on := 5, ground := Ground.data }], guard := none }) (v := ?vv8) rfl (by kernel_rfl) (by kernel_rfl) (by kernel_rfl) rfl (fun _ _ _ h => h) hHeld (Or.inl ⟨by rfl, ?hy8⟩) ?_
        case hy8 => (intro w' hSw; skip; go_simp; try (with_reducible rfl))
        try simp only [Act.put, List.setIfInBounds_toArray, List.set_cons_zero, List.set_cons_succ]
        refine N_take 7 (oi := { dst := some 49, op := Op.extract (Operand.tmp 42) 0, type := 23, pos := "query.go:295", after := #[{ on := 6, ground := Ground.data }], guard := none }) (v := uu) rfl (by kernel_rfl) (by kernel_rfl) (by kernel_rfl) rfl (fun _ _ _ h => h) hHeld (Or.inl ⟨by rfl, ?hy9⟩) ?_
        case hy9 => (intro w' hSw; skip; go_simp; try rfl)
        try simp only [Act.put, List.setIfInBounds_toArray, List.set_cons_zero, List.set_cons_succ]
        refine N_take 8 (oi := { dst := some 50, op := Op.extract (Operand.tmp 42) 1, type := 4, pos := "query.go:295", after := #[{ on := 6, ground := Ground.data }, { on := 9, ground := Ground.gcOnly Departure.lateStores }], guard := none }) (v := .bool bb) rfl (by kernel_rfl) (by kernel_rfl) (by kernel_rfl) rfl (fun _ _ _ h => h) hHeld (Or.inl ⟨by rfl, ?hy10⟩) ?_
        case hy10 => (intro w' hSw; skip; go_simp; try rfl)
        try simp only [Act.put, List.setIfInBounds_toArray, List.set_cons_zero, List.set_cons_succ]
        refine N_take 9 (oi := { dst := some 11, op := Op.assign (Operand.tmp 49), type := 23, pos := "query.go:295", after := #[{ on := 7, ground := Ground.data }, { on := 5, ground := Ground.chain }, { on := 0, ground := Ground.phase }, { on := 1, ground := Ground.phase }, { on := 2, ground := Ground.phase }, { on := 3, ground := Ground.phase }, { on := 4, ground := Ground.phase }, { on := 5, ground := Ground.phase }, { on := 6, ground := Ground.phase }, { on := 7, ground := Ground.phase }, { on := 8, ground := Ground.textOnly Departure.lateStores }], guard := none }) (v := uu) rfl (by kernel_rfl) (by kernel_rfl) (by kernel_rfl) rfl (fun _ _ _ h => h) hHeld (Or.inl ⟨by rfl, ?hy11⟩) ?_
        case hy11 => (intro w' hSw; skip; go_simp; try rfl)
        try simp only [Act.put, List.setIfInBounds_toArray, List.set_cons_zero, List.set_cons_succ]
        refine N_take 10 (oi := { dst := some 12, op := Op.assign (Operand.tmp 50), type := 4, pos := "query.go:295", after := #[{ on := 8, ground := Ground.data }, { on := 9, ground := Ground.chain }, { on := 0, ground := Ground.phase }, { on := 1, ground := Ground.phase }, { on := 2, ground := Ground.phase }, { on := 3, ground := Ground.phase }, { on := 4, ground := Ground.phase }, { on := 5, ground := Ground.phase }, { on := 6, ground := Ground.phase }, { on := 7, ground := Ground.phase }, { on := 8, ground := Ground.phase }, { on := 9, ground := Ground.phase }], guard := none }) (v := .bool bb) rfl (by kernel_rfl) (by kernel_rfl) (by kernel_rfl) rfl (fun _ _ _ h => h) hHeld (Or.inl ⟨by rfl, ?hy12⟩) ?_
        case hy12 => (intro w' hSw; skip; go_simp; try rfl)
        try simp only [Act.put, List.setIfInBounds_toArray, List.set_cons_zero, List.set_cons_succ]
        refine ⟨by kernel_rfl, ?_⟩
        clear hHeld b6 HRq HH9
        rcases HSR.out with ⟨hs, rfl, rfl⟩ | ⟨ls, hs, rfl, hla⟩
        · have HE : Hid (impliesP l (m.drop k) = impliesP l (m.drop (k + 1))) := HSt.out hs
          clear hs HSR
          go_wp2_with fail
          go_roundw
          case rel =>
            have hrelN : ∃ k' : Nat, k' ≤ m.length ∧ (Value.int .i64 ((k : Int) + 1)) = .int .i64 k' ∧ impliesP l (m.drop 0) = impliesP l (m.drop k') ∧ Below w.heap.size w w6 := ⟨k + 1, by omega, by go_num, HA.out.trans HE.out, HB6.out⟩
            first | exact hrelN | ((repeat apply Exists.intro); refine ⟨hrelN, ?_⟩; first | rfl | exact ⟨rfl, rfl⟩ | exact ⟨rfl, rfl, rfl⟩)
          case measure => simp [intOf]; omega
        · have HE : Hid (res = (false, ls)) := by show _ = _; rw [HX.out, HA.out, HHt.out ls hs]
          have HLa : Hid (Labs w6 uu ls) := hla
          clear hs hla HSR
          go_wp2_with fail
          refine bodyPost_ret (v := .tuple #[.bool false, uu, .int .i64 0]) (by simp [results, Tryz.results8, go_sem]) rfl ⟨uu, by rw [HE.out], by rw [HE.out]; exact HLa.out, HB6.out⟩
      · have HOp : Hid (oppR (yk, (2 : Int), yv) = (yk, (1 : Int), yv)) := rfl
        rw [HOp.out] at HSt HHt HFi
        have HBb : Hid (Below wr.heap.size wr (wr.alloc (.cells #[.string (Ba yk), .int .i64 1, .slice q yv.length d] 35))) := (Below.refl _ _).alloc (Nat.le_refl _) _
        have HCo2 : Hid (∀ w1, Below (wr.alloc (.cells #[.string (Ba yk), .int .i64 1, .slice q yv.length d] 35)).heap.size (wr.alloc (.cells #[.string (Ba yk), .int .i64 1, .slice q yv.length d] 35)) w1 → Calls Tryz.prog 26 #[.slice p0 nl c0] w1 fun e w' => ∃ u, e = .returned u ∧ OwnR w1 w1.heap.size w' u l ∧ Below w1.heap.size w1 w') := fun w1 hb1 => HCo.out w1 (HB.out.trans ((HBb.out.trans (hb1.mono (by simp))).mono HB.out.size))
        have HBx : Hid (∀ w3, Below (wr.alloc (.cells #[.string (Ba yk), .int .i64 1, .slice q yv.length d] 35)).heap.size (wr.alloc (.cells #[.string (Ba yk), .int .i64 1, .slice q yv.length d] 35)) w3 → w3.cell? ⟨wr.heap.size, 0, none⟩ = some (.string (Ba yk)) ∧ w3.cell? ⟨wr.heap.size, 1, none⟩ = some (.int .i64 1) ∧ w3.cell? ⟨wr.heap.size, 2, none⟩ = some (.slice q yv.length d)) := fun w3 h => box3 h
        have HSw : Hid (Strs (wr.alloc (.cells #[.string (Ba yk), .int .i64 1, .slice q yv.length d] 35)) (.slice q yv.length d) yv) := HSv.out.below HBb.out
        clear HOp
        generalize hnv : yv.length = nv at *
        clear hnv
        generalize hzy : Ba yk = z at *
        have HZ : Hid (z = Ba yk) := hzy.symm
        clear hzy
        have hwb : (wr.alloc (.cells #[.string z, .int .i64 1, .slice q nv d] 35)).heap.size = wr.heap.size + 1 := by simp
        go_wp2_with fail
        have hHeld : Below (wr.alloc (.cells #[.string z, .int .i64 1, .slice q nv d] 35)).heap.size (wr.alloc (.cells #[.string z, .int .i64 1, .slice q nv d] 35)) (wr.alloc (.cells #[.string z, .int .i64 1, .slice q nv d] 35)).drew := (Below.refl _ _).drew
        refine M_begin 11 11 (fun w' => Below (wr.alloc (.cells #[.string z, .int .i64 1, .slice q nv d] 35)).heap.size (wr.alloc (.cells #[.string z, .int .i64 1, .slice q nv d] 35)) w') (by kernel_rfl) rfl ?_
        refine N_take 0 (oi := { dst := some 43, op := Op.move (Operand.tmp 0), type := 22, pos := "query.go:295", after := #[], guard := none }) (v := ?vv13) rfl (by kernel_rfl) (by kernel_rfl) (by kernel_rfl) rfl (fun _ _ _ h => h) hHeld (Or.inl ⟨by rfl, ?hy13⟩) ?_
        case hy13 => (intro w' hSw; skip; go_simp; try (with_reducible rfl))
        try simp only [Act.put, List.setIfInBounds_toArray, List.set_cons_zero, List.set_cons_succ]
        refine N_take 2 (oi := { dst := some 45, op := Op.load 35 (Operand.tmp 10), type := 35, pos := "query.go:295", after := #[], guard := none }) (v := .agg #[.string z, .int .i64 1, .slice q nv d]) rfl (by kernel_rfl) (by kernel_rfl) (by kernel_rfl) rfl (fun _ _ _ h => h) hHeld (Or.inl ⟨by rfl, ?hy14⟩) ?_
        case hy14 => (intro w' hSw; obtain ⟨x0, x1, x2⟩ := HBx.out _ hSw; go_simp; try (with_reducible rfl))
        try simp only [Act.put, List.setIfInBounds_toArray, List.set_cons_zero, List.set_cons_succ]
        refine M_ready [1, 3] (by kernel_rfl) (by decide) ?_
        refine AllM.cons (i := 1) (o := { dst := some 44, op := Op.call { callee := Callee.value (Operand.func 26), args := #[Operand.tmp 43], argTypes := #[22] }, type := 22, pos := "query.go:295", after := #[{ on := 0, ground := Ground.data }], guard := none }) rfl (fun K hK => ?_) ?_
        · rw [if_pos (by rfl)]
          go_wp2_with fail
          refine Calls.mono (HCo2.out _ hHeld) ?_
          rintro e x1 ⟨u, rfl, ⟨L, hL1, hL2, hL3⟩, b1⟩
          dsimp only
          have hst0 := hHeld.size
          refine hK.out _ _ (hHeld.trans (b1.mono hHeld.size)) (fun hHeld => ?_)
          clear hK K
          try simp only [Act.put, List.setIfInBounds_toArray, List.set_cons_zero, List.set_cons_succ]
          have HStW0 : Hid (∀ p ∈ L, Strs (wr.alloc (.cells #[.string z, .int .i64 1, .slice q nv d] 35)) p.2 p.1.2.2) := hL2
          refine M_ready [3] (by kernel_rfl) (by decide) ?_
          refine AllM.cons (i := 3) (o := { dst := some 46, op := Op.buildSlice 22 1 #[(0, Operand.tmp 45)], type := 22, pos := "query.go:295", after := #[{ on := 2, ground := Ground.data }], guard := none }) rfl (fun K hK => ?_) AllM.nil
          go_simp
          have b5 : Below x1.heap.size x1 (x1.alloc (.cells #[.string z, .int .i64 1, .slice q nv d] 35)) := (Below.refl _ x1).alloc (Nat.le_refl _) (.cells #[.string z, .int .i64 1, .slice q nv d] 35)
          have n5 : (x1.alloc (.cells #[.string z, .int .i64 1, .slice q nv d] 35)).heap[x1.heap.size]? = some (.cells #[.string z, .int .i64 1, .slice q nv d] 35 (0, 0)) := heap_alloc_new x1 _
          have hst1 : (wr.alloc (.cells #[.string z, .int .i64 1, .slice q nv d] 35)).heap.size ≤ x1.heap.size := hHeld.size
          refine hK.out _ _ (hHeld.trans (b5.mono hHeld.size)) (fun hHeld => ?_)
          generalize (x1.alloc (.cells #[.string z, .int .i64 1, .slice q nv d] 35)) = x5 at *
          clear hK K
          try simp only [Act.put, List.setIfInBounds_toArray, List.set_cons_zero, List.set_cons_succ]
          have hRow : x5.ownsRow (wr.alloc (.cells #[.string z, .int .i64 1, .slice q nv d] 35)).heap.size 35 3 u L.length (flatR L) := row_low (row_below hL3 b5) (Nat.le_refl _)
          have hStr : ∀ p ∈ L, Strs x5 p.2 p.1.2.2 := fun p hp => (HStW0.out p hp).below hHeld
          have hCell : ∀ (j : Nat) (u : Value), [Value.string z, .int .i64 1, .slice q nv d][j]? = some u → x5.cell? ((⟨x1.heap.size, 0, none⟩ : Addr).add j) = some u := cells_of3 n5
          have hLl : L.length = l.length := by rw [← hL1, List.length_map]
          have hLl2 : L.length ≤ 8 := by omega
          have HRow : Hid (_) := hRow
          have HStr : Hid (_) := hStr
          have HCell : Hid (_) := hCell
          have HL1 : Hid (L.map (·.1) = l) := hL1
          clear hRow hStr hCell hL1 hL2 hL3 hLl
          refine M_ready [4] (by kernel_rfl) (by decide) ?_
          refine AllM.cons (i := 4) (o := { dst := some 47, op := Op.call { callee := Callee.builtin Builtin.append, args := #[Operand.tmp 44, Operand.tmp 46], argTypes := #[22, 22] }, type := 22, pos := "query.go:295", after := #[{ on := 1, ground := Ground.data }, { on := 3, ground := Ground.data }, { on := 1, ground := Ground.chain }], guard := none }) rfl (fun K hK => ?_) AllM.nil
          rw [if_pos (by rfl)]
          refine wp_append_own x5 (.tmp 44) (.tmp 46) 22 rfl (wr.alloc (.cells #[.string z, .int .i64 1, .slice q nv d] 35)).heap.size 35 i0 (.agg #[.string ⟨#[]⟩, .int .i64 0, .slice none 0 0]) 3 48 Tryz.underlying22 hi hz0 hz1 hz2 rfl (by decide) _ _ _ rfl HRow.out ⟨x1.heap.size, 0, none⟩ 1 1 [.string z, .int .i64 1, .slice q nv d] rfl rfl HCell.out one3 (by unfold maxLen; omega) (by omega) hHeld.size ?_
          intro v9 x9 hown9 hgrow9 _
          have hH9 : Below (wr.alloc (.cells #[.string z, .int .i64 1, .slice q nv d] 35)).heap.size (wr.alloc (.cells #[.string z, .int .i64 1, .slice q nv d] 35)) x9 := hHeld.grown hgrow9 hHeld.size (fun k e => (World.ownsRow.lt HRow.out k e).1)
          have hWx : Below (wr.alloc (.cells #[.string z, .int .i64 1, .slice q nv d] 35)).heap.size x5 x9 := (Below.refl _ _).grown hgrow9 hHeld.size (fun k e => (World.ownsRow.lt HRow.out k e).1)
          have HRq : Hid (Reqs x9 v9 (l ++ [(yk, (1 : Int), yv)])) := by
            have h9 := HZ.out
            have h8 := hown9
            rw [h9] at h8
            have := reqs_of_owns (L := L ++ [((yk, (1 : Int), yv), Value.slice q nv d)]) (v := v9) (w := x9) (by rw [List.length_append, flatR_snoc]; exact h8) (fun p hp => by
              rcases List.mem_append.1 hp with hp | hp
              · exact (HStW0.out p hp).below hH9
              · simp only [List.mem_singleton] at hp
                subst hp
                exact HSw.out.below hH9)
            rw [List.map_append, HL1.out] at this
            exact this
          have HH9 : Hid (_) := hH9
          refine hK.out _ _ hH9 (fun hHeld => ?_)
          clear hK K
          try simp only [Act.put, List.setIfInBounds_toArray, List.set_cons_zero, List.set_cons_succ]
          clear hown9 hgrow9 hWx HRow HStr HCell HL1
          refine M_ready [5] (by kernel_rfl) (by decide) ?_
          refine AllM.cons (i := 5) (o := { dst := some 48, op := Op.call { callee := Callee.value (Operand.func 23), args := #[Operand.tmp 47], argTypes := #[22] }, type := 51, pos := "query.go:295", after := #[{ on := 4, ground := Ground.data }, { on := 4, ground := Ground.chain }], guard := none }) rfl (fun K hK => ?_) AllM.nil
          rw [if_pos (by rfl)]
          go_wp2_with fail
          refine Calls.mono (HSv2.out x9 v9 _ HRq.out HFi.out) ?_
          rintro e w6 ⟨uu, bb, rfl, hsr, b6⟩
          dsimp only
          have HB6 : Hid (Below w.heap.size w w6) := HB.out.trans ((HBb.out.trans ((HH9.out.trans (b6.mono HH9.out.size)).mono (by simp))).mono HB.out.size)
          have HSR : Hid (SolveR (l ++ [(yk, (1 : Int), yv)]) w6 uu bb) := hsr
          clear hsr
          refine hK.out _ _ (hHeld.trans (b6.mono hHeld.size)) (fun hHeld => ?_)
          clear hK K
          try simp only [Act.put, List.setIfInBounds_toArray, List.set_cons_zero, List.set_cons_succ]
          refine N_take 6 (oi := { dst := some 42, op := Op.move (Operand.tmp 48), type := 51, pos := "query.go:295", after := #[{ on := 5, ground := Ground.data }], guard := none }) (v := ?vv15) rfl (by kernel_rfl) (by kernel_rfl) (by kernel_rfl) rfl (fun _ _ _ h => h) hHeld (Or.inl ⟨by rfl, ?hy15⟩) ?_
          case hy15 => (intro w' hSw; skip; go_simp; try (with_reducible rfl))
          try simp only [Act.put, List.setIfInBounds_toArray, List.set_cons_zero, List.set_cons_succ]
          refine N_take 7 (oi := { dst := some 49, op := Op.extract (Operand.tmp 42) 0, type := 23, pos := "query.go:295", after := #[{ on := 6, ground := Ground.data }], guard := none }) (v := uu) rfl (by kernel_rfl) (by kernel_rfl) (by kernel_rfl) rfl (fun _ _ _ h => h) hHeld (Or.inl ⟨by rfl, ?hy16⟩) ?_
          case hy16 => (intro w' hSw; skip; go_simp; try rfl)
          try simp only [Act.put, List.setIfInBounds_toArray, List.set_cons_zero, List.set_cons_succ]
          refine N_take 8 (oi := { dst := some 50, op := Op.extract (Operand.tmp 42) 1, type := 4, pos := "query.go:295", after := #[{ on := 6, ground := Ground.data }, { on := 9, ground := Ground.gcOnly Departure.lateStores }], guard := none }) (v := .bool bb) rfl (by kernel_rfl) (by kernel_rfl) (by kernel_rfl) rfl (fun _ _ _ h => h) hHeld (Or.inl ⟨by rfl, ?hy17⟩) ?_
          case hy17 => (intro w' hSw; skip; go_simp; try rfl)
          try simp only [Act.put, List.setIfInBounds_toArray, List.set_cons_zero, List.set_cons_succ]
          refine N_take 9 (oi := { dst := some 11, op := Op.assign (Operand.tmp 49), type := 23, pos := "query.go:295", after := #[{ on := 7, ground := Ground.data }, { on := 5, ground := Ground.chain }, { on := 0, ground := Ground.phase }, { on := 1, ground := Ground.phase }, { on := 2, ground := Ground.phase }, { on := 3, ground := Ground.phase }, { on := 4, ground := Ground.phase }, { on := 5, ground := Ground.phase }, { on := 6, ground := Ground.phase }, { on := 7, ground := Ground.phase }, { on := 8, ground := Ground.textOnly Departure.lateStores }], guard := none }) (v := uu) rfl (by kernel_rfl) (by kernel_rfl) (by kernel_rfl) rfl (fun _ _ _ h => h) hHeld (Or.inl ⟨by rfl, ?hy18⟩) ?_
          case hy18 => (intro w' hSw; skip; go_simp; try rfl)
          try simp only [Act.put, List.setIfInBounds_toArray, List.set_cons_zero, List.set_cons_succ]
          refine N_take 10 (oi := { dst := some 12, op := Op.assign (Operand.tmp 50), type := 4, pos := "query.go:295", after := #[{ on := 8, ground := Ground.data }, { on := 9, ground := Ground.chain }, { on := 0, ground := Ground.phase }, { on := 1, ground := Ground.phase }, { on := 2, ground := Ground.phase }, { on := 3, ground := Ground.phase }, { on := 4, ground := Ground.phase }, { on := 5, ground := Ground.phase }, { on := 6, ground := Ground.phase }, { on := 7, ground := Ground.phase }, { on := 8, ground := Ground.phase }, { on := 9, ground := Ground.phase }], guard := none }) (v := .bool bb) rfl (by kernel_rfl) (by kernel_rfl) (by kernel_rfl) rfl (fun _ _ _ h => h) hHeld (Or.inl ⟨by rfl, ?hy19⟩) ?_
          case hy19 => (intro w' hSw; skip; go_simp; try rfl)
          try simp only [Act.put, List.setIfInBounds_toArray, List.set_cons_zero, List.set_cons_succ]
          refine ⟨by kernel_rfl, ?_⟩
          clear hHeld b6 HRq HH9
          rcases HSR.out with ⟨hs, rfl, rfl⟩ | ⟨ls, hs, rfl, hla⟩
          · have HE : Hid (impliesP l (m.drop k) = impliesP l (m.drop (k + 1))) := HSt.out hs
            clear hs HSR
            go_wp2_with fail
            go_roundw
            case rel =>
              have hrelN : ∃ k' : Nat, k' ≤ m.length ∧ (Value.int .i64 ((k : Int) + 1)) = .int .i64 k' ∧ impliesP l (m.drop 0) = impliesP l (m.drop k') ∧ Below w.heap.size w w6 := ⟨k + 1, by omega, by go_num, HA.out.trans HE.out, HB6.out⟩
              first | exact hrelN | ((repeat apply Exists.intro); refine ⟨hrelN, ?_⟩; first | rfl | exact ⟨rfl, rfl⟩ | exact ⟨rfl, rfl, rfl⟩)
            case measure => simp [intOf]; omega
          · have HE : Hid (res = (false, ls)) := by show _ = _; rw [HX.out, HA.out, HHt.out ls hs]
            have HLa : Hid (Labs w6 uu ls) := hla
            clear hs hla HSR
            go_wp2_with fail
            refine bodyPost_ret (v := .tuple #[.bool false, uu, .int .i64 0]) (by simp [results, Tryz.results8, go_sem]) rfl ⟨uu, by rw [HE.out], by rw [HE.out]; exact HLa.out, HB6.out⟩
        refine AllM.cons (i := 3) (o := { dst := some 46, op := Op.buildSlice 22 1 #[(0, Operand.tmp 45)], type := 22, pos := "query.go:295", after := #[{ on := 2, ground := Ground.data }], guard := none }) rfl (fun K hK => ?_) AllM.nil
        go_simp
        have b5 : Below (wr.alloc (.cells #[.string z, .int .i64 1, .slice q nv d] 35)).heap.size (wr.alloc (.cells #[.string z, .int .i64 1, .slice q nv d] 35)).drew ((wr.alloc (.cells #[.string z, .int .i64 1, .slice q nv d] 35)).alloc (.cells #[.string z, .int .i64 1, .slice q nv d] 35)).drew := (Below.refl _ (wr.alloc (.cells #[.string z, .int .i64 1, .slice q nv d] 35)).drew).alloc (Nat.le_refl _) (.cells #[.string z, .int .i64 1, .slice q nv d] 35)
        have n5 : ((wr.alloc (.cells #[.string z, .int .i64 1, .slice q nv d] 35)).alloc (.cells #[.string z, .int .i64 1, .slice q nv d] 35)).drew.heap[(wr.alloc (.cells #[.string z, .int .i64 1, .slice q nv d] 35)).heap.size]? = some (.cells #[.string z, .int .i64 1, .slice q nv d] 35 (0, 0)) := heap_alloc_new (wr.alloc (.cells #[.string z, .int .i64 1, .slice q nv d] 35)).drew _
        have hst1 : (wr.alloc (.cells #[.string z, .int .i64 1, .slice q nv d] 35)).heap.size ≤ (wr.alloc (.cells #[.string z, .int .i64 1, .slice q nv d] 35)).heap.size := hHeld.size
        refine hK.out _ _ (hHeld.trans (b5.mono hHeld.size)) (fun hHeld => ?_)
        generalize ((wr.alloc (.cells #[.string z, .int .i64 1, .slice q nv d] 35)).alloc (.cells #[.string z, .int .i64 1, .slice q nv d] 35)).drew = x5 at *
        clear hK K
        try simp only [Act.put, List.setIfInBounds_toArray, List.set_cons_zero, List.set_cons_succ]
        refine M_ready [1] (by kernel_rfl) (by decide) ?_
        refine AllM.cons (i := 1) (o := { dst := some 44, op := Op.call { callee := Callee.value (Operand.func 26), args := #[Operand.tmp 43], argTypes := #[22] }, type := 22, pos := "query.go:295", after := #[{ on := 0, ground := Ground.data }], guard := none }) rfl (fun K hK => ?_) AllM.nil
        rw [if_pos (by rfl)]
        go_wp2_with fail
        refine Calls.mono (HCo2.out _ hHeld) ?_
        rintro e x1 ⟨u, rfl, ⟨L, hL1, hL2, hL3⟩, b1⟩
        dsimp only
        have hst0 := hHeld.size
        refine hK.out _ _ (hHeld.trans (b1.mono hHeld.size)) (fun hHeld => ?_)
        clear hK K
        try simp only [Act.put, List.setIfInBounds_toArray, List.set_cons_zero, List.set_cons_succ]
        have HStW5 : Hid (∀ p ∈ L, Strs x5 p.2 p.1.2.2) := hL2
        have HRow5 : Hid (x1.ownsRow x5.heap.size 35 3 u L.length (flatR L)) := hL3
        have HB15 : Hid (Below x5.heap.size x5 x1) := b1
        have HStW0 : Hid (∀ p ∈ L, Strs x1 p.2 p.1.2.2) := fun p hp => (HStW5.out p hp).below b1
        have hRow : x1.ownsRow (wr.alloc (.cells #[.string z, .int .i64 1, .slice q nv d] 35)).heap.size 35 3 u L.length (flatR L) := row_low hL3 hst0
        have hStr : ∀ p ∈ L, Strs x1 p.2 p.1.2.2 := fun p hp => HStW0.out p hp
        have hCell : ∀ (j : Nat) (u : Value), [Value.string z, .int .i64 1, .slice q nv d][j]? = some u → x1.cell? ((⟨wr.heap.size + 1, 0, none⟩ : Addr).add j) = some u := by have h77 := cells_of3 ((b1.block _ (lt_of_block n5)).trans n5); rw [hwb] at h77; exact h77
        have hLl : L.length = l.length := by rw [← hL1, List.length_map]
        have hLl2 : L.length ≤ 8 := by omega
        have HRow : Hid (_) := hRow
        have HStr : Hid (_) := hStr
        have HCell : Hid (_) := hCell
        have HL1 : Hid (L.map (·.1) = l) := hL1
        clear hRow hStr hCell hL1 hL2 hL3 hLl
        refine M_ready [4] (by kernel_rfl) (by decide) ?_
        refine AllM.cons (i := 4) (o := { dst := some 47, op := Op.call { callee := Callee.builtin Builtin.append, args := #[Operand.tmp 44, Operand.tmp 46], argTypes := #[22, 22] }, type := 22, pos := "query.go:295", after := #[{ on := 1, ground := Ground.data }, { on := 3, ground := Ground.data }, { on := 1, ground := Ground.chain }], guard := none }) rfl (fun K hK => ?_) AllM.nil
        rw [if_pos (by rfl)]
        refine wp_append_own x1 (.tmp 44) (.tmp 46) 22 rfl (wr.alloc (.cells #[.string z, .int .i64 1, .slice q nv d] 35)).heap.size 35 i0 (.agg #[.string ⟨#[]⟩, .int .i64 0, .slice none 0 0]) 3 48 Tryz.underlying22 hi hz0 hz1 hz2 rfl (by decide) _ _ _ rfl HRow.out ⟨wr.heap.size + 1, 0, none⟩ 1 1 [.string z, .int .i64 1, .slice q nv d] rfl rfl HCell.out one3 (by unfold maxLen; omega) (by omega) hHeld.size ?_
        intro v9 x9 hown9 hgrow9 _
        have hH9 : Below (wr.alloc (.cells #[.string z, .int .i64 1, .slice q nv d] 35)).heap.size (wr.alloc (.cells #[.string z, .int .i64 1, .slice q nv d] 35)) x9 := hHeld.grown hgrow9 hHeld.size (fun k e => (World.ownsRow.lt HRow.out k e).1)
        have hWx : Below (wr.alloc (.cells #[.string z, .int .i64 1, .slice q nv d] 35)).heap.size x1 x9 := (Below.refl _ _).grown hgrow9 hHeld.size (fun k e => (World.ownsRow.lt HRow.out k e).1)
        have HRq : Hid (Reqs x9 v9 (l ++ [(yk, (1 : Int), yv)])) := by
          have h9 := HZ.out
          have h8 := hown9
          rw [h9] at h8
          have := reqs_of_owns (L := L ++ [((yk, (1 : Int), yv), Value.slice q nv d)]) (v := v9) (w := x9) (by rw [List.length_append, flatR_snoc]; exact h8) (fun p hp => by
            rcases List.mem_append.1 hp with hp | hp
            · exact (HStW5.out p hp).below (HB15.out.grown hgrow9 HB15.out.size (fun k e => (World.ownsRow.lt HRow5.out k e).1))
            · simp only [List.mem_singleton] at hp
              subst hp
              exact HSw.out.below hH9)
          rw [List.map_append, HL1.out] at this
          exact this
        have HH9 : Hid (_) := hH9
        refine hK.out _ _ hH9 (fun hHeld => ?_)
        clear hK K
        try simp only [Act.put, List.setIfInBounds_toArray, List.set_cons_zero, List.set_cons_succ]
        clear hown9 hgrow9 hWx HRow HStr HCell HL1
        refine M_ready [5] (by kernel_rfl) (by decide) ?_
        refine AllM.cons (i := 5) (o := { dst := some 48, op := Op.call { callee := Callee.value (Operand.func 23), args := #[Operand.tmp 47], argTypes := #[22] }, type := 51, pos := "query.go:295", after := #[{ on := 4, ground := Ground.data }, { on := 4, ground := Ground.chain }], guard := none }) rfl (fun K hK => ?_) AllM.nil
        rw [if_pos (by rfl)]
        go_wp2_with fail
        refine Calls.mono (HSv2.out x9 v9 _ HRq.out HFi.out) ?_
        rintro e w6 ⟨uu, bb, rfl, hsr, b6⟩
        dsimp only
        have HB6 : Hid (Below w.heap.size w w6) := HB.out.trans ((HBb.out.trans ((HH9.out.trans (b6.mono HH9.out.size)).mono (by simp))).mono HB.out.size)
        have HSR : Hid (SolveR (l ++ [(yk, (1 : Int), yv)]) w6 uu bb) := hsr
        clear hsr
        refine hK.out _ _ (hHeld.trans (b6.mono hHeld.size)) (fun hHeld => ?_)
        clear hK K
        try simp only [Act.put, List.setIfInBounds_toArray, List.set_cons_zero, List.set_cons_succ]
        refine N_take 6 (oi := { dst := some 42, op := Op.move (Operand.tmp 48), type := 51, pos := "query.go:295", after := #[{ on := 5, ground := Ground.data }], guard := none }) (v := ?vv20) rfl (by kernel_rfl) (by kernel_rfl) (by kernel_rfl) rfl (fun _ _ _ h => h) hHeld (Or.inl ⟨by rfl, ?hy20⟩) ?_
        case hy20 => (intro w' hSw; skip; go_simp; try (with_reducible rfl))
        try simp only [Act.put, List.setIfInBounds_toArray, List.set_cons_zero, List.set_cons_succ]
        refine N_take 7 (oi := { dst := some 49, op := Op.extract (Operand.tmp 42) 0, type := 23, pos := "query.go:295", after := #[{ on := 6, ground := Ground.data }], guard := none }) (v := uu) rfl (by kernel_rfl) (by kernel_rfl) (by kernel_rfl) rfl (fun _ _ _ h => h) hHeld (Or.inl ⟨by rfl, ?hy21⟩) ?_
        case hy21 => (intro w' hSw; skip; go_simp; try rfl)
        try simp only [Act.put, List.setIfInBounds_toArray, List.set_cons_zero, List.set_cons_succ]
        refine N_take 8 (oi := { dst := some 50, op := Op.extract (Operand.tmp 42) 1, type := 4, pos := "query.go:295", after := #[{ on := 6, ground := Ground.data }, { on := 9, ground := Ground.gcOnly Departure.lateStores }], guard := none }) (v := .bool bb) rfl (by kernel_rfl) (by kernel_rfl) (by kernel_rfl) rfl (fun _ _ _ h => h) hHeld (Or.inl ⟨by rfl, ?hy22⟩) ?_
        case hy22 => (intro w' hSw; skip; go_simp; try rfl)
        try simp only [Act.put, List.setIfInBounds_toArray, List.set_cons_zero, List.set_cons_succ]
        refine N_take 9 (oi := { dst := some 11, op := Op.assign (Operand.tmp 49), type := 23, pos := "query.go:295", after := #[{ on := 7, ground := Ground.data }, { on := 5, ground := Ground.chain }, { on := 0, ground := Ground.phase }, { on := 1, ground := Ground.phase }, { on := 2, ground := Ground.phase }, { on := 3, ground := Ground.phase }, { on := 4, ground := Ground.phase }, { on := 5, ground := Ground.phase }, { on := 6, ground := Ground.phase }, { on := 7, ground := Ground.phase }, { on := 8, ground := Ground.textOnly Departure.lateStores }], guard := none }) (v := uu) rfl (by kernel_rfl) (by kernel_rfl) (by kernel_rfl) rfl (fun _ _ _ h => h) hHeld (Or.inl ⟨by rfl, ?hy23⟩) ?_
        case hy23 => (intro w' hSw; skip; go_simp; try rfl)
        try simp only [Act.put, List.setIfInBounds_toArray, List.set_cons_zero, List.set_cons_succ]
        refine N_take 10 (oi := { dst := some 12, op := Op.assign (Operand.tmp 50), type := 4, pos := "query.go:295", after := #[{ on := 8, ground := Ground.data }, { on := 9, ground := Ground.chain }, { on := 0, ground := Ground.phase }, { on := 1, ground := Ground.phase }, { on := 2, ground := Ground.phase }, { on := 3, ground := Ground.phase }, { on := 4, ground := Ground.phase }, { on := 5, ground := Ground.phase }, { on := 6, ground := Ground.phase }, { on := 7, ground := Ground.phase }, { on := 8, ground := Ground.phase }, { on := 9, ground := Ground.phase }], guard := none }) (v := .bool bb) rfl (by kernel_rfl) (by kernel_rfl) (by kernel_rfl) rfl (fun _ _ _ h => h) hHeld (Or.inl ⟨by rfl, ?hy24⟩) ?_
        case hy24 => (intro w' hSw; skip; go_simp; try rfl)
        try simp only [Act.put, List.setIfInBounds_toArray, List.set_cons_zero, List.set_cons_succ]
        refine ⟨by kernel_rfl, ?_⟩
        clear hHeld b6 HRq HH9
        rcases HSR.out with ⟨hs, rfl, rfl⟩ | ⟨ls, hs, rfl, hla⟩
        · have HE : Hid (impliesP l (m.drop k) = impliesP l (m.drop (k + 1))) := HSt.out hs
          clear hs HSR
          go_wp2_with fail
          go_roundw
          case rel =>
            have hrelN : ∃ k' : Nat, k' ≤ m.length ∧ (Value.int .i64 ((k : Int) + 1)) = .int .i64 k' ∧ impliesP l (m.drop 0) = impliesP l (m.drop k') ∧ Below w.heap.size w w6 := ⟨k + 1, by omega, by go_num, HA.out.trans HE.out, HB6.out⟩
            first | exact hrelN | ((repeat apply Exists.intro); refine ⟨hrelN, ?_⟩; first | rfl | exact ⟨rfl, rfl⟩ | exact ⟨rfl, rfl, rfl⟩)
          case measure => simp [intOf]; omega
        · have HE : Hid (res = (false, ls)) := by show _ = _; rw [HX.out, HA.out, HHt.out ls hs]
          have HLa : Hid (Labs w6 uu ls) := hla
          clear hs hla HSR
          go_wp2_with fail
          refine bodyPost_ret (v := .tuple #[.bool false, uu, .int .i64 0]) (by simp [results, Tryz.results8, go_sem]) rfl ⟨uu, by rw [HE.out], by rw [HE.out]; exact HLa.out, HB6.out⟩
      · have HOp : Hid (oppR (yk, (3 : Int), yv) = (yk, (4 : Int), yv)) := rfl
        rw [HOp.out] at HSt HHt HFi
        have HBb : Hid (Below wr.heap.size wr (wr.alloc (.cells #[.string (Ba yk), .int .i64 4, .slice q yv.length d] 35))) := (Below.refl _ _).alloc (Nat.le_refl _) _
        have HCo2 : Hid (∀ w1, Below (wr.alloc (.cells #[.string (Ba yk), .int .i64 4, .slice q yv.length d] 35)).heap.size (wr.alloc (.cells #[.string (Ba yk), .int .i64 4, .slice q yv.length d] 35)) w1 → Calls Tryz.prog 26 #[.slice p0 nl c0] w1 fun e w' => ∃ u, e = .returned u ∧ OwnR w1 w1.heap.size w' u l ∧ Below w1.heap.size w1 w') := fun w1 hb1 => HCo.out w1 (HB.out.trans ((HBb.out.trans (hb1.mono (by simp))).mono HB.out.size))
        have HBx : Hid (∀ w3, Below (wr.alloc (.cells #[.string (Ba yk), .int .i64 4, .slice q yv.length d] 35)).heap.size (wr.alloc (.cells #[.string (Ba yk), .int .i64 4, .slice q yv.length d] 35)) w3 → w3.cell? ⟨wr.heap.size, 0, none⟩ = some (.string (Ba yk)) ∧ w3.cell? ⟨wr.heap.size, 1, none⟩ = some (.int .i64 4) ∧ w3.cell? ⟨wr.heap.size, 2, none⟩ = some (.slice q yv.length d)) := fun w3 h => box3 h
        have HSw : Hid (Strs (wr.alloc (.cells #[.string (Ba yk), .int .i64 4, .slice q yv.length d] 35)) (.slice q yv.length d) yv) := HSv.out.below HBb.out
        clear HOp
        generalize hnv : yv.length = nv at *
        clear hnv
        generalize hzy : Ba yk = z at *
        have HZ : Hid (z = Ba yk) := hzy.symm
        clear hzy
        have hwb : (wr.alloc (.cells #[.string z, .int .i64 4, .slice q nv d] 35)).heap.size = wr.heap.size + 1 := by simp
        go_wp2_with fail
        have hHeld : Below (wr.alloc (.cells #[.string z, .int .i64 4, .slice q nv d] 35)).heap.size (wr.alloc (.cells #[.string z, .int .i64 4, .slice q nv d] 35)) (wr.alloc (.cells #[.string z, .int .i64 4, .slice q nv d] 35)).drew := (Below.refl _ _).drew
        refine M_begin 11 11 (fun w' => Below (wr.alloc (.cells #[.string z, .int .i64 4, .slice q nv d] 35)).heap.size (wr.alloc (.cells #[.string z, .int .i64 4, .slice q nv d] 35)) w') (by kernel_rfl) rfl ?_
        refine N_take 0 (oi := { dst := some 43, op := Op.move (Operand.tmp 0), type := 22, pos := "query.go:295", after := #[], guard := none }) (v := ?vv25) rfl (by kernel_rfl) (by kernel_rfl) (by kernel_rfl) rfl (fun _ _ _ h => h) hHeld (Or.inl ⟨by rfl, ?hy25⟩) ?_
        case hy25 => (intro w' hSw; skip; go_simp; try (with_reducible rfl))
        try simp only [Act.put, List.setIfInBounds_toArray, List.set_cons_zero, List.set_cons_succ]
        refine N_take 2 (oi := { dst := some 45, op := Op.load 35 (Operand.tmp 10), type := 35, pos := "query.go:295", after := #[], guard := none }) (v := .agg #[.string z, .int .i64 4, .slice q nv d]) rfl (by kernel_rfl) (by kernel_rfl) (by kernel_rfl) rfl (fun _ _ _ h => h) hHeld (Or.inl ⟨by rfl, ?hy26⟩) ?_
        case hy26 => (intro w' hSw; obtain ⟨x0, x1, x2⟩ := HBx.out _ hSw; go_simp; try (with_reducible rfl))
        try simp only [Act.put, List.setIfInBounds_toArray, List.set_cons_zero, List.set_cons_succ]
        refine M_ready [1, 3] (by kernel_rfl) (by decide) ?_
        refine AllM.cons (i := 1) (o := { dst := some 44, op := Op.call { callee := Callee.value (Operand.func 26), args := #[Operand.tmp 43], argTypes := #[22] }, type := 22, pos := "query.go:295", after := #[{ on := 0, ground := Ground.data }], guard := none }) rfl (fun K hK => ?_) ?_
        · rw [if_pos (by rfl)]
          go_wp2_with fail
          refine Calls.mono (HCo2.out _ hHeld) ?_
          rintro e x1 ⟨u, rfl, ⟨L, hL1, hL2, hL3⟩, b1⟩
          dsimp only
          have hst0 := hHeld.size
          refine hK.out _ _ (hHeld.trans (b1.mono hHeld.size)) (fun hHeld => ?_)
          clear hK K
          try simp only [Act.put, List.setIfInBounds_toArray, List.set_cons_zero, List.set_cons_succ]
          have HStW0 : Hid (∀ p ∈ L, Strs (wr.alloc (.cells #[.string z, .int .i64 4, .slice q nv d] 35)) p.2 p.1.2.2) := hL2
          refine M_ready [3] (by kernel_rfl) (by decide) ?_
          refine AllM.cons (i := 3) (o := { dst := some 46, op := Op.buildSlice 22 1 #[(0, Operand.tmp 45)], type := 22, pos := "query.go:295", after := #[{ on := 2, ground := Ground.data }], guard := none }) rfl (fun K hK => ?_) AllM.nil
          go_simp
          have b5 : Below x1.heap.size x1 (x1.alloc (.cells #[.string z, .int .i64 4, .slice q nv d] 35)) := (Below.refl _ x1).alloc (Nat.le_refl _) (.cells #[.string z, .int .i64 4, .slice q nv d] 35)
          have n5 : (x1.alloc (.cells #[.string z, .int .i64 4, .slice q nv d] 35)).heap[x1.heap.size]? = some (.cells #[.string z, .int .i64 4, .slice q nv d] 35 (0, 0)) := heap_alloc_new x1 _
          have hst1 : (wr.alloc (.cells #[.string z, .int .i64 4, .slice q nv d] 35)).heap.size ≤ x1.heap.size := hHeld.size
          refine hK.out _ _ (hHeld.trans (b5.mono hHeld.size)) (fun hHeld => ?_)
          generalize (x1.alloc (.cells #[.string z, .int .i64 4, .slice q nv d] 35)) = x5 at *
          clear hK K
          try simp only [Act.put, List.setIfInBounds_toArray, List.set_cons_zero, List.set_cons_succ]
          have hRow : x5.ownsRow (wr.alloc (.cells #[.string z, .int .i64 4, .slice q nv d] 35)).heap.size 35 3 u L.length (flatR L) := row_low (row_below hL3 b5) (Nat.le_refl _)
          have hStr : ∀ p ∈ L, Strs x5 p.2 p.1.2.2 := fun p hp => (HStW0.out p hp).below hHeld
          have hCell : ∀ (j : Nat) (u : Value), [Value.string z, .int .i64 4, .slice q nv d][j]? = some u → x5.cell? ((⟨x1.heap.size, 0, none⟩ : Addr).add j) = some u := cells_of3 n5
          have hLl : L.length = l.length := by rw [← hL1, List.length_map]
          have hLl2 : L.length ≤ 8 := by omega
          have HRow : Hid (_) := hRow
          have HStr : Hid (_) := hStr
          have HCell : Hid (_) := hCell
          have HL1 : Hid (L.map (·.1) = l) := hL1
          clear hRow hStr hCell hL1 hL2 hL3 hLl
          refine M_ready [4] (by kernel_rfl) (by decide) ?_
          refine AllM.cons (i := 4) (o := { dst := some 47, op := Op.call { callee := Callee.builtin Builtin.append, args := #[Operand.tmp 44, Operand.tmp 46], argTypes := #[22, 22] }, type := 22, pos := "query.go:295", after := #[{ on := 1, ground := Ground.data }, { on := 3, ground := Ground.data }, { on := 1, ground := Ground.chain }], guard := none }) rfl (fun K hK => ?_) AllM.nil
          rw [if_pos (by rfl)]
          refine wp_append_own x5 (.tmp 44) (.tmp 46) 22 rfl (wr.alloc (.cells #[.string z, .int .i64 4, .slice q nv d] 35)).heap.size 35 i0 (.agg #[.string ⟨#[]⟩, .int .i64 0, .slice none 0 0]) 3 48 Tryz.underlying22 hi hz0 hz1 hz2 rfl (by decide) _ _ _ rfl HRow.out ⟨x1.heap.size, 0, none⟩ 1 1 [.string z, .int .i64 4, .slice q nv d] rfl rfl HCell.out one3 (by unfold maxLen; omega) (by omega) hHeld.size ?_
          intro v9 x9 hown9 hgrow9 _
          have hH9 : Below (wr.alloc (.cells #[.string z, .int .i64 4, .slice q nv d] 35)).heap.size (wr.alloc (.cells #[.string z, .int .i64 4, .slice q nv d] 35)) x9 := hHeld.grown hgrow9 hHeld.size (fun k e => (World.ownsRow.lt HRow.out k e).1)
          have hWx : Below (wr.alloc (.cells #[.string z, .int .i64 4, .slice q nv d] 35)).heap.size x5 x9 := (Below.refl _ _).grown hgrow9 hHeld.size (fun k e => (World.ownsRow.lt HRow.out k e).1)
          have HRq : Hid (Reqs x9 v9 (l ++ [(yk, (4 : Int), yv)])) := by
            have h9 := HZ.out
            have h8 := hown9
            rw [h9] at h8
            have := reqs_of_owns (L := L ++ [((yk, (4 : Int), yv), Value.slice q nv d)]) (v := v9) (w := x9) (by rw [List.length_append, flatR_snoc]; exact h8) (fun p hp => by
              rcases List.mem_append.1 hp with hp | hp
              · exact (HStW0.out p hp).below hH9
              · simp only [List.mem_singleton] at hp
                subst hp
                exact HSw.out.below hH9)
            rw [List.map_append, HL1.out] at this
            exact this
          have HH9 : Hid (_) := hH9
          refine hK.out _ _ hH9 (fun hHeld => ?_)
          clear hK K
          try simp only [Act.put, List.setIfInBounds_toArray, List.set_cons_zero, List.set_cons_succ]
          clear hown9 hgrow9 hWx HRow HStr HCell HL1
          refine M_ready [5] (by kernel_rfl) (by decide) ?_
          refine AllM.cons (i := 5) (o := { dst := some 48, op := Op.call { callee := Callee.value (Operand.func 23), args := #[Operand.tmp 47], argTypes := #[22] }, type := 51, pos := "query.go:295", after := #[{ on := 4, ground := Ground.data }, { on := 4, ground := Ground.chain }], guard := none }) rfl (fun K hK => ?_) AllM.nil
          rw [if_pos (by rfl)]
          go_wp2_with fail
          refine Calls.mono (HSv2.out x9 v9 _ HRq.out HFi.out) ?_
          rintro e w6 ⟨uu, bb, rfl, hsr, b6⟩
          dsimp only
          have HB6 : Hid (Below w.heap.size w w6) := HB.out.trans ((HBb.out.trans ((HH9.out.trans (b6.mono HH9.out.size)).mono (by simp))).mono HB.out.size)
          have HSR : Hid (SolveR (l ++ [(yk, (4 : Int), yv)]) w6 uu bb) := hsr
          clear hsr
          refine hK.out _ _ (hHeld.trans (b6.mono hHeld.size)) (fun hHeld => ?_)
          clear hK K
          try simp only [Act.put, List.setIfInBounds_toArray, List.set_cons_zero, List.set_cons_succ]
          refine N_take 6 (oi := { dst := some 42, op := Op.move (Operand.tmp 48), type := 51, pos := "query.go:295", after := #[{ on := 5, ground := Ground.data }], guard := none }) (v := ?vv27) rfl (by kernel_rfl) (by kernel_rfl) (by kernel_rfl) rfl (fun _ _ _ h => h) hHeld (Or.inl ⟨by rfl, ?hy27⟩) ?_
          case hy27 => (intro w' hSw; skip; go_simp; try (with_reducible rfl))
          try simp only [Act.put, List.setIfInBounds_toArray, List.set_cons_zero, List.set_cons_succ]
          refine N_take 7 (oi := { dst := some 49, op := Op.extract (Operand.tmp 42) 0, type := 23, pos := "query.go:295", after := #[{ on := 6, ground := Ground.data }], guard := none }) (v := uu) rfl (by kernel_rfl) (by kernel_rfl) (by kernel_rfl) rfl (fun _ _ _ h => h) hHeld (Or.inl ⟨by rfl, ?hy28⟩) ?_
          case hy28 => (intro w' hSw; skip; go_simp; try rfl)
          try simp only [Act.put, List.setIfInBounds_toArray, List.set_cons_zero, List.set_cons_succ]
          refine N_take 8 (oi := { dst := some 50, op := Op.extract (Operand.tmp 42) 1, type := 4, pos := "query.go:295", after := #[{ on := 6, ground := Ground.data }, { on := 9, ground := Ground.gcOnly Departure.lateStores }], guard := none }) (v := .bool bb) rfl (by kernel_rfl) (by kernel_rfl) (by kernel_rfl) rfl (fun _ _ _ h => h) hHeld (Or.inl ⟨by rfl, ?hy29⟩) ?_
          case hy29 => (intro w' hSw; skip; go_simp; try rfl)
          try simp only [Act.put, List.setIfInBounds_toArray, List.set_cons_zero, List.set_cons_succ]
          refine N_take 9 (oi := { dst := some 11, op := Op.assign (Operand.tmp 49), type := 23, pos := "query.go:295", after := #[{ on := 7, ground := Ground.data }, { on := 5, ground := Ground.chain }, { on := 0, ground := Ground.phase }, { on := 1, ground := Ground.phase }, { on := 2, ground := Ground.phase }, { on := 3, ground := Ground.phase }, { on := 4, ground := Ground.phase }, { on := 5, ground := Ground.phase }, { on := 6, ground := Ground.phase }, { on := 7, ground := Ground.phase }, { on := 8, ground := Ground.textOnly Departure.lateStores }], guard := none }) (v := uu) rfl (by kernel_rfl) (by kernel_rfl) (by kernel_rfl) rfl (fun _ _ _ h => h) hHeld (Or.inl ⟨by rfl, ?hy30⟩) ?_
          case hy30 => (intro w' hSw; skip; go_simp; try rfl)
          try simp only [Act.put, List.setIfInBounds_toArray, List.set_cons_zero, List.set_cons_succ]
          refine N_take 10 (oi := { dst := some 12, op := Op.assign (Operand.tmp 50), type := 4, pos := "query.go:295", after := #[{ on := 8, ground := Ground.data }, { on := 9, ground := Ground.chain }, { on := 0, ground := Ground.phase }, { on := 1, ground := Ground.phase }, { on := 2, ground := Ground.phase }, { on := 3, ground := Ground.phase }, { on := 4, ground := Ground.phase }, { on := 5, ground := Ground.phase }, { on := 6, ground := Ground.phase }, { on := 7, ground := Ground.phase }, { on := 8, ground := Ground.phase }, { on := 9, ground := Ground.phase }], guard := none }) (v := .bool bb) rfl (by kernel_rfl) (by kernel_rfl) (by kernel_rfl) rfl (fun _ _ _ h => h) hHeld (Or.inl ⟨by rfl, ?hy31⟩) ?_
          case hy31 => (intro w' hSw; skip; go_simp; try rfl)
          try simp only [Act.put, List.setIfInBounds_toArray, List.set_cons_zero, List.set_cons_succ]
          refine ⟨by kernel_rfl, ?_⟩
          clear hHeld b6 HRq HH9
          rcases HSR.out with ⟨hs, rfl, rfl⟩ | ⟨ls, hs, rfl, hla⟩
          · have HE : Hid (impliesP l (m.drop k) = impliesP l (m.drop (k + 1))) := HSt.out hs
            clear hs HSR
            go_wp2_with fail
            go_roundw
            case rel =>
              have hrelN : ∃ k' : Nat, k' ≤ m.length ∧ (Value.int .i64 ((k : Int) + 1)) = .int .i64 k' ∧ impliesP l (m.drop 0) = impliesP l (m.drop k') ∧ Below w.heap.size w w6 := ⟨k + 1, by omega, by go_num, HA.out.trans HE.out, HB6.out⟩
              first | exact hrelN | ((repeat apply Exists.intro); refine ⟨hrelN, ?_⟩; first | rfl | exact ⟨rfl, rfl⟩ | exact ⟨rfl, rfl, rfl⟩)
            case measure => simp [intOf]; omega
          · have HE : Hid (res = (false, ls)) := by show _ = _; rw [HX.out, HA.out, HHt.out ls hs]
            have HLa : Hid (Labs w6 uu ls) := hla
            clear hs hla HSR
            go_wp2_with fail
            refine bodyPost_ret (v := .tuple #[.bool false, uu, .int .i64 0]) (by simp [results, Tryz.results8, go_sem]) rfl ⟨uu, by rw [HE.out], by rw [HE.out]; exact HLa.out, HB6.out⟩
        refine AllM.cons (i := 3) (o := { dst := some 46, op := Op.buildSlice 22 1 #[(0, Operand.tmp 45)], type := 22, pos := "query.go:295", after := #[{ on := 2, ground := Ground.data }], guard := none }) rfl (fun K hK => ?_) AllM.nil
        go_simp
        have b5 : Below (wr.alloc (.cells #[.string z, .int .i64 4, .slice q nv d] 35)).heap.size (wr.alloc (.cells #[.string z, .int .i64 4, .slice q nv d] 35)).drew ((wr.alloc (.cells #[.string z, .int .i64 4, .slice q nv d] 35)).alloc (.cells #[.string z, .int .i64 4, .slice q nv d] 35)).drew := (Below.refl _ (wr.alloc (.cells #[.string z, .int .i64 4, .slice q nv d] 35)).drew).alloc (Nat.le_refl _) (.cells #[.string z, .int .i64 4, .slice q nv d] 35)
        have n5 : ((wr.alloc (.cells #[.string z, .int .i64 4, .slice q nv d] 35)).alloc (.cells #[.string z, .int .i64 4, .slice q nv d] 35)).drew.heap[(wr.alloc (.cells #[.string z, .int .i64 4, .slice q nv d] 35)).heap.size]? = some (.cells #[.string z, .int .i64 4, .slice q nv d] 35 (0, 0)) := heap_alloc_new (wr.alloc (.cells #[.string z, .int .i64 4, .slice q nv d] 35)).drew _
        have hst1 : (wr.alloc (.cells #[.string z, .int .i64 4, .slice q nv d] 35)).heap.size ≤ (wr.alloc (.cells #[.string z, .int .i64 4, .slice q nv d] 35)).heap.size := hHeld.size
        refine hK.out _ _ (hHeld.trans (b5.mono hHeld.size)) (fun hHeld => ?_)
        generalize ((wr.alloc (.cells #[.string z, .int .i64 4, .slice q nv d] 35)).alloc (.cells #[.string z, .int .i64 4, .slice q nv d] 35)).drew = x5 at *
        clear hK K
        try simp only [Act.put, List.setIfInBounds_toArray, List.set_cons_zero, List.set_cons_succ]
        refine M_ready [1] (by kernel_rfl) (by decide) ?_
        refine AllM.cons (i := 1) (o := { dst := some 44, op := Op.call { callee := Callee.value (Operand.func 26), args := #[Operand.tmp 43], argTypes := #[22] }, type := 22, pos := "query.go:295", after := #[{ on := 0, ground := Ground.data }], guard := none }) rfl (fun K hK => ?_) AllM.nil
        rw [if_pos (by rfl)]
        go_wp2_with fail
        refine Calls.mono (HCo2.out _ hHeld) ?_
        rintro e x1 ⟨u, rfl, ⟨L, hL1, hL2, hL3⟩, b1⟩
        dsimp only
        have hst0 := hHeld.size
        refine hK.out _ _ (hHeld.trans (b1.mono hHeld.size)) (fun hHeld => ?_)
        clear hK K
        try simp only [Act.put, List.setIfInBounds_toArray, List.set_cons_zero, List.set_cons_succ]
        have HStW5 : Hid (∀ p ∈ L, Strs x5 p.2 p.1.2.2) := hL2
        have HRow5 : Hid (x1.ownsRow x5.heap.size 35 3 u L.length (flatR L)) := hL3
        have HB15 : Hid (Below x5.heap.size x5 x1) := b1
        have HStW0 : Hid (∀ p ∈ L, Strs x1 p.2 p.1.2.2) := fun p hp => (HStW5.out p hp).below b1
        have hRow : x1.ownsRow (wr.alloc (.cells #[.string z, .int .i64 4, .slice q nv d] 35)).heap.size 35 3 u L.length (flatR L) := row_low hL3 hst0
        have hStr : ∀ p ∈ L, Strs x1 p.2 p.1.2.2 := fun p hp => HStW0.out p hp
        have hCell : ∀ (j : Nat) (u : Value), [Value.string z, .int .i64 4, .slice q nv d][j]? = some u → x1.cell? ((⟨wr.heap.size + 1, 0, none⟩ : Addr).add j) = some u := by have h77 := cells_of3 ((b1.block _ (lt_of_block n5)).trans n5); rw [hwb] at h77; exact h77
        have hLl : L.length = l.length := by rw [← hL1, List.length_map]
        have hLl2 : L.length ≤ 8 := by omega
        have HRow : Hid (_) := hRow
        have HStr : Hid (_) := hStr
        have HCell : Hid (_) := hCell
        have HL1 : Hid (L.map (·.1) = l) := hL1
        clear hRow hStr hCell hL1 hL2 hL3 hLl
        refine M_ready [4] (by kernel_rfl) (by decide) ?_
        refine AllM.cons (i := 4) (o := { dst := some 47, op := Op.call { callee := Callee.builtin Builtin.append, args := #[Operand.tmp 44, Operand.tmp 46], argTypes := #[22, 22] }, type := 22, pos := "query.go:295", after := #[{ on := 1, ground := Ground.data }, { on := 3, ground := Ground.data }, { on := 1, ground := Ground.chain }], guard := none }) rfl (fun K hK => ?_) AllM.nil
        rw [if_pos (by rfl)]
        refine wp_append_own x1 (.tmp 44) (.tmp 46) 22 rfl (wr.alloc (.cells #[.string z, .int .i64 4, .slice q nv d] 35)).heap.size 35 i0 (.agg #[.string ⟨#[]⟩, .int .i64 0, .slice none 0 0]) 3 48 Tryz.underlying22 hi hz0 hz1 hz2 rfl (by decide) _ _ _ rfl HRow.out ⟨wr.heap.size + 1, 0, none⟩ 1 1 [.string z, .int .i64 4, .slice q nv d] rfl rfl HCell.out one3 (by unfold maxLen; omega) (by omega) hHeld.size ?_
        intro v9 x9 hown9 hgrow9 _
        have hH9 : Below (wr.alloc (.cells #[.string z, .int .i64 4, .slice q nv d] 35)).heap.size (wr.alloc (.cells #[.string z, .int .i64 4, .slice q nv d] 35)) x9 := hHeld.grown hgrow9 hHeld.size (fun k e => (World.ownsRow.lt HRow.out k e).1)
        have hWx : Below (wr.alloc (.cells #[.string z, .int .i64 4, .slice q nv d] 35)).heap.size x1 x9 := (Below.refl _ _).grown hgrow9 hHeld.size (fun k e => (World.ownsRow.lt HRow.out k e).1)
        have HRq : Hid (Reqs x9 v9 (l ++ [(yk, (4 : Int), yv)])) := by
          have h9 := HZ.out
          have h8 := hown9
          rw [h9] at h8
          have := reqs_of_owns (L := L ++ [((yk, (4 : Int), yv), Value.slice q nv d)]) (v := v9) (w := x9) (by rw [List.length_append, flatR_snoc]; exact h8) (fun p hp => by
            rcases List.mem_append.1 hp with hp | hp
            · exact (HStW5.out p hp).below (HB15.out.grown hgrow9 HB15.out.size (fun k e => (World.ownsRow.lt HRow5.out k e).1))
            · simp only [List.mem_singleton] at hp
              subst hp
              exact HSw.out.below hH9)
          rw [List.map_append, HL1.out] at this
          exact this
        have HH9 : Hid (_) := hH9
        refine hK.out _ _ hH9 (fun hHeld => ?_)
        clear hK K
        try simp only [Act.put, List.setIfInBounds_toArray, List.set_cons_zero, List.set_cons_succ]
        clear hown9 hgrow9 hWx HRow HStr HCell HL1
        refine M_ready [5] (by kernel_rfl) (by decide) ?_
        refine AllM.cons (i := 5) (o := { dst := some 48, op := Op.call { callee := Callee.value (Operand.func 23), args := #[Operand.tmp 47], argTypes := #[22] }, type := 51, pos := "query.go:295", after := #[{ on := 4, ground := Ground.data }, { on := 4, ground := Ground.chain }], guard := none }) rfl (fun K hK => ?_) AllM.nil
        rw [if_pos (by rfl)]
        go_wp2_with fail
        refine Calls.mono (HSv2.out x9 v9 _ HRq.out HFi.out) ?_
        rintro e w6 ⟨uu, bb, rfl, hsr, b6⟩
        dsimp only
        have HB6 : Hid (Below w.heap.size w w6) := HB.out.trans ((HBb.out.trans ((HH9.out.trans (b6.mono HH9.out.size)).mono (by simp))).mono HB.out.size)
        have HSR : Hid (SolveR (l ++ [(yk, (4 : Int), yv)]) w6 uu bb) := hsr
        clear hsr
        refine hK.out _ _ (hHeld.trans (b6.mono hHeld.size)) (fun hHeld => ?_)
        clear hK K
        try simp only [Act.put, List.setIfInBounds_toArray, List.set_cons_zero, List.set_cons_succ]
        refine N_take 6 (oi := { dst := some 42, op := Op.move (Operand.tmp 48), type := 51, pos := "query.go:295", after := #[{ on := 5, ground := Ground.data }], guard := none }) (v := ?vv32) rfl (by kernel_rfl) (by kernel_rfl) (by kernel_rfl) rfl (fun _ _ _ h => h) hHeld (Or.inl ⟨by rfl, ?hy32⟩) ?_
        case hy32 => (intro w' hSw; skip; go_simp; try (with_reducible rfl))
        try simp only [Act.put, List.setIfInBounds_toArray, List.set_cons_zero, List.set_cons_succ]
        refine N_take 7 (oi := { dst := some 49, op := Op.extract (Operand.tmp 42) 0, type := 23, pos := "query.go:295", after := #[{ on := 6, ground := Ground.data }], guard := none }) (v := uu) rfl (by kernel_rfl) (by kernel_rfl) (by kernel_rfl) rfl (fun _ _ _ h => h) hHeld (Or.inl ⟨by rfl, ?hy33⟩) ?_
        case hy33 => (intro w' hSw; skip; go_simp; try rfl)
        try simp only [Act.put, List.setIfInBounds_toArray, List.set_cons_zero, List.set_cons_succ]
        refine N_take 8 (oi := { dst := some 50, op := Op.extract (Operand.tmp 42) 1, type := 4, pos := "query.go:295", after := #[{ on := 6, ground := Ground.data }, { on := 9, ground := Ground.gcOnly Departure.lateStores }], guard := none }) (v := .bool bb) rfl (by kernel_rfl) (by kernel_rfl) (by kernel_rfl) rfl (fun _ _ _ h => h) hHeld (Or.inl ⟨by rfl, ?hy34⟩) ?_
        case hy34 => (intro w' hSw; skip; go_simp; try rfl)
        try simp only [Act.put, List.setIfInBounds_toArray, List.set_cons_zero, List.set_cons_succ]
        refine N_take 9 (oi := { dst := some 11, op := Op.assign (Operand.tmp 49), type := 23, pos := "query.go:295", after := #[{ on := 7, ground := Ground.data }, { on := 5, ground := Ground.chain }, { on := 0, ground := Ground.phase }, { on := 1, ground := Ground.phase }, { on := 2, ground := Ground.phase }, { on := 3, ground := Ground.phase }, { on := 4, ground := Ground.phase }, { on := 5, ground := Ground.phase }, { on := 6, ground := Ground.phase }, { on := 7, ground := Ground.phase }, { on := 8, ground := Ground.textOnly Departure.lateStores }], guard := none }) (v := uu) rfl (by kernel_rfl) (by kernel_rfl) (by kernel_rfl) rfl (fun _ _ _ h => h) hHeld (Or.inl ⟨by rfl, ?hy35⟩) ?_
        case hy35 => (intro w' hSw; skip; go_simp; try rfl)
        try simp only [Act.put, List.setIfInBounds_toArray, List.set_cons_zero, List.set_cons_succ]
        refine N_take 10 (oi := { dst := some 12, op := Op.assign (Operand.tmp 50), type := 4, pos := "query.go:295", after := #[{ on := 8, ground := Ground.data }, { on := 9, ground := Ground.chain }, { on := 0, ground := Ground.phase }, { on := 1, ground := Ground.phase }, { on := 2, ground := Ground.phase }, { on := 3, ground := Ground.phase }, { on := 4, ground := Ground.phase }, { on := 5, ground := Ground.phase }, { on := 6, ground := Ground.phase }, { on := 7, ground := Ground.phase }, { on := 8, ground := Ground.phase }, { on := 9, ground := Ground.phase }], guard := none }) (v := .bool bb) rfl (by kernel_rfl) (by kernel_rfl) (by kernel_rfl) rfl (fun _ _ _ h => h) hHeld (Or.inl ⟨by rfl, ?hy36⟩) ?_
        case hy36 => (intro w' hSw; skip; go_simp; try rfl)
        try simp only [Act.put, List.setIfInBounds_toArray, List.set_cons_zero, List.set_cons_succ]
        refine ⟨by kernel_rfl, ?_⟩
        clear hHeld b6 HRq HH9
        rcases HSR.out with ⟨hs, rfl, rfl⟩ | ⟨ls, hs, rfl, hla⟩
        · have HE : Hid (impliesP l (m.drop k) = impliesP l (m.drop (k + 1))) := HSt.out hs
          clear hs HSR
          go_wp2_with fail
          go_roundw
          case rel =>
            have hrelN : ∃ k' : Nat, k' ≤ m.length ∧ (Value.int .i64 ((k : Int) + 1)) = .int .i64 k' ∧ impliesP l (m.drop 0) = impliesP l (m.drop k') ∧ Below w.heap.size w w6 := ⟨k + 1, by omega, by go_num, HA.out.trans HE.out, HB6.out⟩
            first | exact hrelN | ((repeat apply Exists.intro); refine ⟨hrelN, ?_⟩; first | rfl | exact ⟨rfl, rfl⟩ | exact ⟨rfl, rfl, rfl⟩)
          case measure => simp [intOf]; omega
        · have HE : Hid (res = (false, ls)) := by show _ = _; rw [HX.out, HA.out, HHt.out ls hs]
          have HLa : Hid (Labs w6 uu ls) := hla
          clear hs hla HSR
          go_wp2_with fail
          refine bodyPost_ret (v := .tuple #[.bool false, uu, .int .i64 0]) (by simp [results, Tryz.results8, go_sem]) rfl ⟨uu, by rw [HE.out], by rw [HE.out]; exact HLa.out, HB6.out⟩
      · have HOp : Hid (oppR (yk, (4 : Int), yv) = (yk, (3 : Int), yv)) := rfl
        rw [HOp.out] at HSt HHt HFi
        have HBb : Hid (Below wr.heap.size wr (wr.alloc (.cells #[.string (Ba yk), .int .i64 3, .slice q yv.length d] 35))) := (Below.refl _ _).alloc (Nat.le_refl _) _
        have HCo2 : Hid (∀ w1, Below (wr.alloc (.cells #[.string (Ba yk), .int .i64 3, .slice q yv.length d] 35)).heap.size (wr.alloc (.cells #[.string (Ba yk), .int .i64 3, .slice q yv.length d] 35)) w1 → Calls Tryz.prog 26 #[.slice p0 nl c0] w1 fun e w' => ∃ u, e = .returned u ∧ OwnR w1 w1.heap.size w' u l ∧ Below w1.heap.size w1 w') := fun w1 hb1 => HCo.out w1 (HB.out.trans ((HBb.out.trans (hb1.mono (by simp))).mono HB.out.size))
        have HBx : Hid (∀ w3, Below (wr.alloc (.cells #[.string (Ba yk), .int .i64 3, .slice q yv.length d] 35)).heap.size (wr.alloc (.cells #[.string (Ba yk), .int .i64 3, .slice q yv.length d] 35)) w3 → w3.cell? ⟨wr.heap.size, 0, none⟩ = some (.string (Ba yk)) ∧ w3.cell? ⟨wr.heap.size, 1, none⟩ = some (.int .i64 3) ∧ w3.cell? ⟨wr.heap.size, 2, none⟩ = some (.slice q yv.length d)) := fun w3 h => box3 h
        have HSw : Hid (Strs (wr.alloc (.cells #[.string (Ba yk), .int .i64 3, .slice q yv.length d] 35)) (.slice q yv.length d) yv) := HSv.out.below HBb.out
        clear HOp
        generalize hnv : yv.length = nv at *
        clear hnv
        generalize hzy : Ba yk = z at *
        have HZ : Hid (z = Ba yk) := hzy.symm
        clear hzy
        have hwb : (wr.alloc (.cells #[.string z, .int .i64 3, .slice q nv d] 35)).heap.size = wr.heap.size + 1 := by simp
        go_wp2_with fail
        have hHeld : Below (wr.alloc (.cells #[.string z, .int .i64 3, .slice q nv d] 35)).heap.size (wr.alloc (.cells #[.string z, .int .i64 3, .slice q nv d] 35)) (wr.alloc (.cells #[.string z, .int .i64 3, .slice q nv d] 35)).drew := (Below.refl _ _).drew
        refine M_begin 11 11 (fun w' => Below (wr.alloc (.cells #[.string z, .int .i64 3, .slice q nv d] 35)).heap.size (wr.alloc (.cells #[.string z, .int .i64 3, .slice q nv d] 35)) w') (by kernel_rfl) rfl ?_
        refine N_take 0 (oi := { dst := some 43, op := Op.move (Operand.tmp 0), type := 22, pos := "query.go:295", after := #[], guard := none }) (v := ?vv37) rfl (by kernel_rfl) (by kernel_rfl) (by kernel_rfl) rfl (fun _ _ _ h => h) hHeld (Or.inl ⟨by rfl, ?hy37⟩) ?_
        case hy37 => (intro w' hSw; skip; go_simp; try (with_reducible rfl))
        try simp only [Act.put, List.setIfInBounds_toArray, List.set_cons_zero, List.set_cons_succ]
        refine N_take 2 (oi := { dst := some 45, op := Op.load 35 (Operand.tmp 10), type := 35, pos := "query.go:295", after := #[], guard := none }) (v := .agg #[.string z, .int .i64 3, .slice q nv d]) rfl (by kernel_rfl) (by kernel_rfl) (by kernel_rfl) rfl (fun _ _ _ h => h) hHeld (Or.inl ⟨by rfl, ?hy38⟩) ?_
        case hy38 => (intro w' hSw; obtain ⟨x0, x1, x2⟩ := HBx.out _ hSw; go_simp; try (with_reducible rfl))
        try simp only [Act.put, List.setIfInBounds_toArray, List.set_cons_zero, List.set_cons_succ]
        refine M_ready [1, 3] (by kernel_rfl) (by decide) ?_
        refine AllM.cons (i := 1) (o := { dst := some 44, op := Op.call { callee := Callee.value (Operand.func 26), args := #[Operand.tmp 43], argTypes := #[22] }, type := 22, pos := "query.go:295", after := #[{ on := 0, ground := Ground.data }], guard := none }) rfl (fun K hK => ?_) ?_
        · rw [if_pos (by rfl)]
          go_wp2_with fail
          refine Calls.mono (HCo2.out _ hHeld) ?_
          rintro e x1 ⟨u, rfl, ⟨L, hL1, hL2, hL3⟩, b1⟩
          dsimp only
          have hst0 := hHeld.size
          refine hK.out _ _ (hHeld.trans (b1.mono hHeld.size)) (fun hHeld => ?_)
          clear hK K
          try simp only [Act.put, List.setIfInBounds_toArray, List.set_cons_zero, List.set_cons_succ]
          have HStW0 : Hid (∀ p ∈ L, Strs (wr.alloc (.cells #[.string z, .int .i64 3, .slice q nv d] 35)) p.2 p.1.2.2) := hL2
          refine M_ready [3] (by kernel_rfl) (by decide) ?_
          refine AllM.cons (i := 3) (o := { dst := some 46, op := Op.buildSlice 22 1 #[(0, Operand.tmp 45)], type := 22, pos := "query.go:295", after := #[{ on := 2, ground := Ground.data }], guard := none }) rfl (fun K hK => ?_) AllM.nil
          go_simp
          have b5 : Below x1.heap.size x1 (x1.alloc (.cells #[.string z, .int .i64 3, .slice q nv d] 35)) := (Below.refl _ x1).alloc (Nat.le_refl _) (.cells #[.string z, .int .i64 3, .slice q nv d] 35)
          have n5 : (x1.alloc (.cells #[.string z, .int .i64 3, .slice q nv d] 35)).heap[x1.heap.size]? = some (.cells #[.string z, .int .i64 3, .slice q nv d] 35 (0, 0)) := heap_alloc_new x1 _
          have hst1 : (wr.alloc (.cells #[.string z, .int .i64 3, .slice q nv d] 35)).heap.size ≤ x1.heap.size := hHeld.size
          refine hK.out _ _ (hHeld.trans (b5.mono hHeld.size)) (fun hHeld => ?_)
          generalize (x1.alloc (.cells #[.string z, .int .i64 3, .slice q nv d] 35)) = x5 at *
          clear hK K
          try simp only [Act.put, List.setIfInBounds_toArray, List.set_cons_zero, List.set_cons_succ]
          have hRow : x5.ownsRow (wr.alloc (.cells #[.string z, .int .i64 3, .slice q nv d] 35)).heap.size 35 3 u L.length (flatR L) := row_low (row_below hL3 b5) (Nat.le_refl _)
          have hStr : ∀ p ∈ L, Strs x5 p.2 p.1.2.2 := fun p hp => (HStW0.out p hp).below hHeld
          have hCell : ∀ (j : Nat) (u : Value), [Value.string z, .int .i64 3, .slice q nv d][j]? = some u → x5.cell? ((⟨x1.heap.size, 0, none⟩ : Addr).add j) = some u := cells_of3 n5
          have hLl : L.length = l.length := by rw [← hL1, List.length_map]
          have hLl2 : L.length ≤ 8 := by omega
          have HRow : Hid (_) := hRow
          have HStr : Hid (_) := hStr
          have HCell : Hid (_) := hCell
          have HL1 : Hid (L.map (·.1) = l) := hL1
          clear hRow hStr hCell hL1 hL2 hL3 hLl
          refine M_ready [4] (by kernel_rfl) (by decide) ?_
          refine AllM.cons (i := 4) (o := { dst := some 47, op := Op.call { callee := Callee.builtin Builtin.append, args := #[Operand.tmp 44, Operand.tmp 46], argTypes := #[22, 22] }, type := 22, pos := "query.go:295", after := #[{ on := 1, ground := Ground.data }, { on := 3, ground := Ground.data }, { on := 1, ground := Ground.chain }], guard := none }) rfl (fun K hK => ?_) AllM.nil
          rw [if_pos (by rfl)]
          refine wp_append_own x5 (.tmp 44) (.tmp 46) 22 rfl (wr.alloc (.cells #[.string z, .int .i64 3, .slice q nv d] 35)).heap.size 35 i0 (.agg #[.string ⟨#[]⟩, .int .i64 0, .slice none 0 0]) 3 48 Tryz.underlying22 hi hz0 hz1 hz2 rfl (by decide) _ _ _ rfl HRow.out ⟨x1.heap.size, 0, none⟩ 1 1 [.string z, .int .i64 3, .slice q nv d] rfl rfl HCell.out one3 (by unfold maxLen; omega) (by omega) hHeld.size ?_
          intro v9 x9 hown9 hgrow9 _
          have hH9 : Below (wr.alloc (.cells #[.string z, .int .i64 3, .slice q nv d] 35)).heap.size (wr.alloc (.cells #[.string z, .int .i64 3, .slice q nv d] 35)) x9 := hHeld.grown hgrow9 hHeld.size (fun k e => (World.ownsRow.lt HRow.out k e).1)
          have hWx : Below (wr.alloc (.cells #[.string z, .int .i64 3, .slice q nv d] 35)).heap.size x5 x9 := (Below.refl _ _).grown hgrow9 hHeld.size (fun k e => (World.ownsRow.lt HRow.out k e).1)
          have HRq : Hid (Reqs x9 v9 (l ++ [(yk, (3 : Int), yv)])) := by
            have h9 := HZ.out
            have h8 := hown9
            rw [h9] at h8
            have := reqs_of_owns (L := L ++ [((yk, (3 : Int), yv), Value.slice q nv d)]) (v := v9) (w := x9) (by rw [List.length_append, flatR_snoc]; exact h8) (fun p hp => by
              rcases List.mem_append.1 hp with hp | hp
              · exact (HStW0.out p hp).below hH9
              · simp only [List.mem_singleton] at hp
                subst hp
                exact HSw.out.below hH9)
            rw [List.map_append, HL1.out] at this
            exact this
          have HH9 : Hid (_) := hH9
          refine hK.out _ _ hH9 (fun hHeld => ?_)
          clear hK K
          try simp only [Act.put, List.setIfInBounds_toArray, List.set_cons_zero, List.set_cons_succ]
          clear hown9 hgrow9 hWx HRow HStr HCell HL1
          refine M_ready [5] (by kernel_rfl) (by decide) ?_
          refine AllM.cons (i := 5) (o := { dst := some 48, op := Op.call { callee := Callee.value (Operand.func 23), args := #[Operand.tmp 47], argTypes := #[22] }, type := 51, pos := "query.go:295", after := #[{ on := 4, ground := Ground.data }, { on := 4, ground := Ground.chain }], guard := none }) rfl (fun K hK => ?_) AllM.nil
          rw [if_pos (by rfl)]
          go_wp2_with fail
          refine Calls.mono (HSv2.out x9 v9 _ HRq.out HFi.out) ?_
          rintro e w6 ⟨uu, bb, rfl, hsr, b6⟩
          dsimp only
          have HB6 : Hid (Below w.heap.size w w6) := HB.out.trans ((HBb.out.trans ((HH9.out.trans (b6.mono HH9.out.size)).mono (by simp))).mono HB.out.size)
          have HSR : Hid (SolveR (l ++ [(yk, (3 : Int), yv)]) w6 uu bb) := hsr
          clear hsr
          refine hK.out _ _ (hHeld.trans (b6.mono hHeld.size)) (fun hHeld => ?_)
          clear hK K
          try simp only [Act.put, List.setIfInBounds_toArray, List.set_cons_zero, List.set_cons_succ]
          refine N_take 6 (oi := { dst := some 42, op := Op.move (Operand.tmp 48), type := 51, pos := "query.go:295", after := #[{ on := 5, ground := Ground.data }], guard := none }) (v := ?vv39) rfl (by kernel_rfl) (by kernel_rfl) (by kernel_rfl) rfl (fun _ _ _ h => h) hHeld (Or.inl ⟨by rfl, ?hy39⟩) ?_
          case hy39 => (intro w' hSw; skip; go_simp; try (with_reducible rfl))
          try simp only [Act.put, List.setIfInBounds_toArray, List.set_cons_zero, List.set_cons_succ]
          refine N_take 7 (oi := { dst := some 49, op := Op.extract (Operand.tmp 42) 0, type := 23, pos := "query.go:295", after := #[{ on := 6, ground := Ground.data }], guard := none }) (v := uu) rfl (by kernel_rfl) (by kernel_rfl) (by kernel_rfl) rfl (fun _ _ _ h => h) hHeld (Or.inl ⟨by rfl, ?hy40⟩) ?_
          case hy40 => (intro w' hSw; skip; go_simp; try rfl)
          try simp only [Act.put, List.setIfInBounds_toArray, List.set_cons_zero, List.set_cons_succ]
          refine N_take 8 (oi := { dst := some 50, op := Op.extract (Operand.tmp 42) 1, type := 4, pos := "query.go:295", after := #[{ on := 6, ground := Ground.data }, { on := 9, ground := Ground.gcOnly Departure.lateStores }], guard := none }) (v := .bool bb) rfl (by kernel_rfl) (by kernel_rfl) (by kernel_rfl) rfl (fun _ _ _ h => h) hHeld (Or.inl ⟨by rfl, ?hy41⟩) ?_
          case hy41 => (intro w' hSw; skip; go_simp; try rfl)
          try simp only [Act.put, List.setIfInBounds_toArray, List.set_cons_zero, List.set_cons_succ]
          refine N_take 9 (oi := { dst := some 11, op := Op.assign (Operand.tmp 49), type := 23, pos := "query.go:295", after := #[{ on := 7, ground := Ground.data }, { on := 5, ground := Ground.chain }, { on := 0, ground := Ground.phase }, { on := 1, ground := Ground.phase }, { on := 2, ground := Ground.phase }, { on := 3, ground := Ground.phase }, { on := 4, ground := Ground.phase }, { on := 5, ground := Ground.phase }, { on := 6, ground := Ground.phase }, { on := 7, ground := Ground.phase }, { on := 8, ground := Ground.textOnly Departure.lateStores }], guard := none }) (v := uu) rfl (by kernel_rfl) (by kernel_rfl) (by kernel_rfl) rfl (fun _ _ _ h => h) hHeld (Or.inl ⟨by rfl, ?hy42⟩) ?_
          case hy42 => (intro w' hSw; skip; go_simp; try rfl)
          try simp only [Act.put, List.setIfInBounds_toArray, List.set_cons_zero, List.set_cons_succ]
          refine N_take 10 (oi := { dst := some 12, op := Op.assign (Operand.tmp 50), type := 4, pos := "query.go:295", after := #[{ on := 8, ground := Ground.data }, { on := 9, ground := Ground.chain }, { on := 0, ground := Ground.phase }, { on := 1, ground := Ground.phase }, { on := 2, ground := Ground.phase }, { on := 3, ground := Ground.phase }, { on := 4, ground := Ground.phase }, { on := 5, ground := Ground.phase }, { on := 6, ground := Ground.phase }, { on := 7, ground := Ground.phase }, { on := 8, ground := Ground.phase }, { on := 9, ground := Ground.phase }], guard := none }) (v := .bool bb) rfl (by kernel_rfl) (by kernel_rfl) (by kernel_rfl) rfl (fun _ _ _ h => h) hHeld (Or.inl ⟨by rfl, ?hy43⟩) ?_
          case hy43 => (intro w' hSw; skip; go_simp; try rfl)
          try simp only [Act.put, List.setIfInBounds_toArray, List.set_cons_zero, List.set_cons_succ]
          refine ⟨by kernel_rfl, ?_⟩
          clear hHeld b6 HRq HH9
          rcases HSR.out with ⟨hs, rfl, rfl⟩ | ⟨ls, hs, rfl, hla⟩
          · have HE : Hid (impliesP l (m.drop k) = impliesP l (m.drop (k + 1))) := HSt.out hs
            clear hs HSR
            go_wp2_with fail
            go_roundw
            case rel =>
              have hrelN : ∃ k' : Nat, k' ≤ m.length ∧ (Value.int .i64 ((k : Int) + 1)) = .int .i64 k' ∧ impliesP l (m.drop 0) = impliesP l (m.drop k') ∧ Below w.heap.size w w6 := ⟨k + 1, by omega, by go_num, HA.out.trans HE.out, HB6.out⟩
              first | exact hrelN | ((repeat apply Exists.intro); refine ⟨hrelN, ?_⟩; first | rfl | exact ⟨rfl, rfl⟩ | exact ⟨rfl, rfl, rfl⟩)
            case measure => simp [intOf]; omega
          · have HE : Hid (res = (false, ls)) := by show _ = _; rw [HX.out, HA.out, HHt.out ls hs]
            have HLa : Hid (Labs w6 uu ls) := hla
            clear hs hla HSR
            go_wp2_with fail
            refine bodyPost_ret (v := .tuple #[.bool false, uu, .int .i64 0]) (by simp [results, Tryz.results8, go_sem]) rfl ⟨uu, by rw [HE.out], by rw [HE.out]; exact HLa.out, HB6.out⟩
        refine AllM.cons (i := 3) (o := { dst := some 46, op := Op.buildSlice 22 1 #[(0, Operand.tmp 45)], type := 22, pos := "query.go:295", after := #[{ on := 2, ground := Ground.data }], guard := none }) rfl (fun K hK => ?_) AllM.nil
        go_simp
        have b5 : Below (wr.alloc (.cells #[.string z, .int .i64 3, .slice q nv d] 35)).heap.size (wr.alloc (.cells #[.string z, .int .i64 3, .slice q nv d] 35)).drew ((wr.alloc (.cells #[.string z, .int .i64 3, .slice q nv d] 35)).alloc (.cells #[.string z, .int .i64 3, .slice q nv d] 35)).drew := (Below.refl _ (wr.alloc (.cells #[.string z, .int .i64 3, .slice q nv d] 35)).drew).alloc (Nat.le_refl _) (.cells #[.string z, .int .i64 3, .slice q nv d] 35)
        have n5 : ((wr.alloc (.cells #[.string z, .int .i64 3, .slice q nv d] 35)).alloc (.cells #[.string z, .int .i64 3, .slice q nv d] 35)).drew.heap[(wr.alloc (.cells #[.string z, .int .i64 3, .slice q nv d] 35)).heap.size]? = some (.cells #[.string z, .int .i64 3, .slice q nv d] 35 (0, 0)) := heap_alloc_new (wr.alloc (.cells #[.string z, .int .i64 3, .slice q nv d] 35)).drew _
        have hst1 : (wr.alloc (.cells #[.string z, .int .i64 3, .slice q nv d] 35)).heap.size ≤ (wr.alloc (.cells #[.string z, .int .i64 3, .slice q nv d] 35)).heap.size := hHeld.size
        refine hK.out _ _ (hHeld.trans (b5.mono hHeld.size)) (fun hHeld => ?_)
        generalize ((wr.alloc (.cells #[.string z, .int .i64 3, .slice q nv d] 35)).alloc (.cells #[.string z, .int .i64 3, .slice q nv d] 35)).drew = x5 at *
        clear hK K
        try simp only [Act.put, List.setIfInBounds_toArray, List.set_cons_zero, List.set_cons_succ]
        refine M_ready [1] (by kernel_rfl) (by decide) ?_
        refine AllM.cons (i := 1) (o := { dst := some 44, op := Op.call { callee := Callee.value (Operand.func 26), args := #[Operand.tmp 43], argTypes := #[22] }, type := 22, pos := "query.go:295", after := #[{ on := 0, ground := Ground.data }], guard := none }) rfl (fun K hK => ?_) AllM.nil
        rw [if_pos (by rfl)]
        go_wp2_with fail
        refine Calls.mono (HCo2.out _ hHeld) ?_
        rintro e x1 ⟨u, rfl, ⟨L, hL1, hL2, hL3⟩, b1⟩
        dsimp only
        have hst0 := hHeld.size
        refine hK.out _ _ (hHeld.trans (b1.mono hHeld.size)) (fun hHeld => ?_)
        clear hK K
        try simp only [Act.put, List.setIfInBounds_toArray, List.set_cons_zero, List.set_cons_succ]
        have HStW5 : Hid (∀ p ∈ L, Strs x5 p.2 p.1.2.2) := hL2
        have HRow5 : Hid (x1.ownsRow x5.heap.size 35 3 u L.length (flatR L)) := hL3
        have HB15 : Hid (Below x5.heap.size x5 x1) := b1
        have HStW0 : Hid (∀ p ∈ L, Strs x1 p.2 p.1.2.2) := fun p hp => (HStW5.out p hp).below b1
        have hRow : x1.ownsRow (wr.alloc (.cells #[.string z, .int .i64 3, .slice q nv d] 35)).heap.size 35 3 u L.length (flatR L) := row_low hL3 hst0
        have hStr : ∀ p ∈ L, Strs x1 p.2 p.1.2.2 := fun p hp => HStW0.out p hp
        have hCell : ∀ (j : Nat) (u : Value), [Value.string z, .int .i64 3, .slice q nv d][j]? = some u → x1.cell? ((⟨wr.heap.size + 1, 0, none⟩ : Addr).add j) = some u := by have h77 := cells_of3 ((b1.block _ (lt_of_block n5)).trans n5); rw [hwb] at h77; exact h77
        have hLl : L.length = l.length := by rw [← hL1, List.length_map]
        have hLl2 : L.length ≤ 8 := by omega
        have HRow : Hid (_) := hRow
        have HStr : Hid (_) := hStr
        have HCell : Hid (_) := hCell
        have HL1 : Hid (L.map (·.1) = l) := hL1
        clear hRow hStr hCell hL1 hL2 hL3 hLl
        refine M_ready [4] (by kernel_rfl) (by decide) ?_
        refine AllM.cons (i := 4) (o := { dst := some 47, op := Op.call { callee := Callee.builtin Builtin.append, args := #[Operand.tmp 44, Operand.tmp 46], argTypes := #[22, 22] }, type := 22, pos := "query.go:295", after := #[{ on := 1, ground := Ground.data }, { on := 3, ground := Ground.data }, { on := 1, ground := Ground.chain }], guard := none }) rfl (fun K hK => ?_) AllM.nil
        rw [if_pos (by rfl)]
        refine wp_append_own x1 (.tmp 44) (.tmp 46) 22 rfl (wr.alloc (.cells #[.string z, .int .i64 3, .slice q nv d] 35)).heap.size 35 i0 (.agg #[.string ⟨#[]⟩, .int .i64 0, .slice none 0 0]) 3 48 Tryz.underlying22 hi hz0 hz1 hz2 rfl (by decide) _ _ _ rfl HRow.out ⟨wr.heap.size + 1, 0, none⟩ 1 1 [.string z, .int .i64 3, .slice q nv d] rfl rfl HCell.out one3 (by unfold maxLen; omega) (by omega) hHeld.size ?_
        intro v9 x9 hown9 hgrow9 _
        have hH9 : Below (wr.alloc (.cells #[.string z, .int .i64 3, .slice q nv d] 35)).heap.size (wr.alloc (.cells #[.string z, .int .i64 3, .slice q nv d] 35)) x9 := hHeld.grown hgrow9 hHeld.size (fun k e => (World.ownsRow.lt HRow.out k e).1)
        have hWx : Below (wr.alloc (.cells #[.string z, .int .i64 3, .slice q nv d] 35)).heap.size x1 x9 := (Below.refl _ _).grown hgrow9 hHeld.size (fun k e => (World.ownsRow.lt HRow.out k e).1)
        have HRq : Hid (Reqs x9 v9 (l ++ [(yk, (3 : Int), yv)])) := by
          have h9 := HZ.out
          have h8 := hown9
          rw [h9] at h8
          have := reqs_of_owns (L := L ++ [((yk, (3 : Int), yv), Value.slice q nv d)]) (v := v9) (w := x9) (by rw [List.length_append, flatR_snoc]; exact h8) (fun p hp => by
            rcases List.mem_append.1 hp with hp | hp
            · exact (HStW5.out p hp).below (HB15.out.grown hgrow9 HB15.out.size (fun k e => (World.ownsRow.lt HRow5.out k e).1))
            · simp only [List.mem_singleton] at hp
              subst hp
              exact HSw.out.below hH9)
          rw [List.map_append, HL1.out] at this
          exact this
        have HH9 : Hid (_) := hH9
        refine hK.out _ _ hH9 (fun hHeld => ?_)
        clear hK K
        try simp only [Act.put, List.setIfInBounds_toArray, List.set_cons_zero, List.set_cons_succ]
        clear hown9 hgrow9 hWx HRow HStr HCell HL1
        refine M_ready [5] (by kernel_rfl) (by decide) ?_
        refine AllM.cons (i := 5) (o := { dst := some 48, op := Op.call { callee := Callee.value (Operand.func 23), args := #[Operand.tmp 47], argTypes := #[22] }, type := 51, pos := "query.go:295", after := #[{ on := 4, ground := Ground.data }, { on := 4, ground := Ground.chain }], guard := none }) rfl (fun K hK => ?_) AllM.nil
        rw [if_pos (by rfl)]
        go_wp2_with fail
        refine Calls.mono (HSv2.out x9 v9 _ HRq.out HFi.out) ?_
        rintro e w6 ⟨uu, bb, rfl, hsr, b6⟩
        dsimp only
        have HB6 : Hid (Below w.heap.size w w6) := HB.out.trans ((HBb.out.trans ((HH9.out.trans (b6.mono HH9.out.size)).mono (by simp))).mono HB.out.size)
        have HSR : Hid (SolveR (l ++ [(yk, (3 : Int), yv)]) w6 uu bb) := hsr
        clear hsr
        refine hK.out _ _ (hHeld.trans (b6.mono hHeld.size)) (fun hHeld => ?_)
        clear hK K
        try simp only [Act.put, List.setIfInBounds_toArray, List.set_cons_zero, List.set_cons_succ]
        refine N_take 6 (oi := { dst := some 42, op := Op.move (Operand.tmp 48), type := 51, pos := "query.go:295", after := #[{ on := 5, ground := Ground.data }], guard := none }) (v := ?vv44) rfl (by kernel_rfl) (by kernel_rfl) (by kernel_rfl) rfl (fun _ _ _ h => h) hHeld (Or.inl ⟨by rfl, ?hy44⟩) ?_
        case hy44 => (intro w' hSw; skip; go_simp; try (with_reducible rfl))
        try simp only [Act.put, List.setIfInBounds_toArray, List.set_cons_zero, List.set_cons_succ]
        refine N_take 7 (oi := { dst := some 49, op := Op.extract (Operand.tmp 42) 0, type := 23, pos := "query.go:295", after := #[{ on := 6, ground := Ground.data }], guard := none }) (v := uu) rfl (by kernel_rfl) (by kernel_rfl) (by kernel_rfl) rfl (fun _ _ _ h => h) hHeld (Or.inl ⟨by rfl, ?hy45⟩) ?_
        case hy45 => (intro w' hSw; skip; go_simp; try rfl)
        try simp only [Act.put, List.setIfInBounds_toArray, List.set_cons_zero, List.set_cons_succ]
        refine N_take 8 (oi := { dst := some 50, op := Op.extract (Operand.tmp 42) 1, type := 4, pos := "query.go:295", after := #[{ on := 6, ground := Ground.data }, { on := 9, ground := Ground.gcOnly Departure.lateStores }], guard := none }) (v := .bool bb) rfl (by kernel_rfl) (by kernel_rfl) (by kernel_rfl) rfl (fun _ _ _ h => h) hHeld (Or.inl ⟨by rfl, ?hy46⟩) ?_
        case hy46 => (intro w' hSw; skip; go_simp; try rfl)
        try simp only [Act.put, List.setIfInBounds_toArray, List.set_cons_zero, List.set_cons_succ]
        refine N_take 9 (oi := { dst := some 11, op := Op.assign (Operand.tmp 49), type := 23, pos := "query.go:295", after := #[{ on := 7, ground := Ground.data }, { on := 5, ground := Ground.chain }, { on := 0, ground := Ground.phase }, { on := 1, ground := Ground.phase }, { on := 2, ground := Ground.phase }, { on := 3, ground := Ground.phase }, { on := 4, ground := Ground.phase }, { on := 5, ground := Ground.phase }, { on := 6, ground := Ground.phase }, { on := 7, ground := Ground.phase }, { on := 8, ground := Ground.textOnly Departure.lateStores }], guard := none }) (v := uu) rfl (by kernel_rfl) (by kernel_rfl) (by kernel_rfl) rfl (fun _ _ _ h => h) hHeld (Or.inl ⟨by rfl, ?hy47⟩) ?_
        case hy47 => (intro w' hSw; skip; go_simp; try rfl)
        try simp only [Act.put, List.setIfInBounds_toArray, List.set_cons_zero, List.set_cons_succ]
        refine N_take 10 (oi := { dst := some 12, op := Op.assign (Operand.tmp 50), type := 4, pos := "query.go:295", after := #[{ on := 8, ground := Ground.data }, { on := 9, ground := Ground.chain }, { on := 0, ground := Ground.phase }, { on := 1, ground := Ground.phase }, { on := 2, ground := Ground.phase }, { on := 3, ground := Ground.phase }, { on := 4, ground := Ground.phase }, { on := 5, ground := Ground.phase }, { on := 6, ground := Ground.phase }, { on := 7, ground := Ground.phase }, { on := 8, ground := Ground.phase }, { on := 9, ground := Ground.phase }], guard := none }) (v := .bool bb) rfl (by kernel_rfl) (by kernel_rfl) (by kernel_rfl) rfl (fun _ _ _ h => h) hHeld (Or.inl ⟨by rfl, ?hy48⟩) ?_
        case hy48 => (intro w' hSw; skip; go_simp; try rfl)
        try simp only [Act.put, List.setIfInBounds_toArray, List.set_cons_zero, List.set_cons_succ]
        refine ⟨by kernel_rfl, ?_⟩
        clear hHeld b6 HRq HH9
        rcases HSR.out with ⟨hs, rfl, rfl⟩ | ⟨ls, hs, rfl, hla⟩
        · have HE : Hid (impliesP l (m.drop k) = impliesP l (m.drop (k + 1))) := HSt.out hs
          clear hs HSR
          go_wp2_with fail
          go_roundw
          case rel =>
            have hrelN : ∃ k' : Nat, k' ≤ m.length ∧ (Value.int .i64 ((k : Int) + 1)) = .int .i64 k' ∧ impliesP l (m.drop 0) = impliesP l (m.drop k') ∧ Below w.heap.size w w6 := ⟨k + 1, by omega, by go_num, HA.out.trans HE.out, HB6.out⟩
            first | exact hrelN | ((repeat apply Exists.intro); refine ⟨hrelN, ?_⟩; first | rfl | exact ⟨rfl, rfl⟩ | exact ⟨rfl, rfl, rfl⟩)
          case measure => simp [intOf]; omega
        · have HE : Hid (res = (false, ls)) := by show _ = _; rw [HX.out, HA.out, HHt.out ls hs]
          have HLa : Hid (Labs w6 uu ls) := hla
          clear hs hla HSR
          go_wp2_with fail
          refine bodyPost_ret (v := .tuple #[.bool false, uu, .int .i64 0]) (by simp [results, Tryz.results8, go_sem]) rfl ⟨uu, by rw [HE.out], by rw [HE.out]; exact HLa.out, HB6.out⟩
    · have HE : Hid (res = (true, [])) := by show _ = _; rw [HX.out, HA.out, imp_end (by omega)]
      go_wp2_with fail
      refine bodyPost_ret (v := .tuple #[.bool true, .slice none 0 0, .int .i64 0]) (by simp [results, Tryz.results8, go_sem]) rfl ⟨_, by rw [HE.out], by rw [HE.out]; exact Or.inl ⟨rfl, _, _, rfl⟩, HB.out⟩
set_option maxHeartbeats 2000000 in
theorem impR_bad1 (v u : Value) (l m : List Rq) (w : World) (hv : Reqs w v l) (hu : Reqs w u m) (hfl : ∀ r ∈ l, Fit r) (hR : Room w) (h1 : chkI l ≠ 0) :
    Calls Tryz.prog 8 #[v, u] w fun e w' => e = .returned (.tuple #[.bool false, .slice none 0 0, .int .i64 (chkI l)]) ∧ Below w.heap.size w w' := by
  have HC : Hid (Calls Tryz.prog 22 #[v] w fun e w' => e = .returned (.int .i64 (chkI l)) ∧ Below w.heap.size w w') := qcheckR_any v l w hv hfl hR
  obtain ⟨p, c, rfl, hn, hcell⟩ := hv.open
  obtain ⟨p2, c2, rfl, hn2, hcell2⟩ := hu.open
  have hb : (chkI l != 0) = true := by simpa using h1
  clear hv hu hcell hcell2 hfl hR h1 hn hn2
  generalize chkI l = ce at *
  generalize l.length = nl at *
  generalize m.length = nm at *
  go_enter Tryz.func8, Tryz.ntmps8
  go_wp2_with fail
  refine Calls.mono HC.out ?_
  rintro e w1 ⟨rfl, b⟩
  have HB : Hid (Below w.heap.size w w1) := b
  clear b
  go_wp2_with fail
  exact bodyPost_ret (v := .tuple #[.bool false, .slice none 0 0, .int .i64 ce]) (by simp [results, Tryz.results8, go_sem]) rfl ⟨rfl, HB.out⟩
set_option maxHeartbeats 2000000 in
theorem impR_bad2 (v u : Value) (l m : List Rq) (w : World) (hv : Reqs w v l) (hu : Reqs w u m) (hfl : ∀ r ∈ l, Fit r) (hfm : ∀ r ∈ m, Fit r) (hR : Room w) (h1 : chkI l = 0) (h2 : chkI m ≠ 0) :
    Calls Tryz.prog 8 #[v, u] w fun e w' => e = .returned (.tuple #[.bool false, .slice none 0 0, .int .i64 (chkI m)]) ∧ Below w.heap.size w w' := by
  have HC : Hid (Calls Tryz.prog 22 #[v] w fun e w' => e = .returned (.int .i64 0) ∧ Below w.heap.size w w') := by
    have := qcheckR_any v l w hv hfl hR
    rw [h1] at this
    exact this
  have HCm : Hid (∀ w1, Below w.heap.size w w1 → Calls Tryz.prog 22 #[u] w1 fun e w' => e = .returned (.int .i64 (chkI m)) ∧ Below w1.heap.size w1 w') := fun w1 hb => qcheckR_any u m w1 (hu.below hb) hfm (hR.below hb)
  obtain ⟨p, c, rfl, hn, hcell⟩ := hv.open
  obtain ⟨p2, c2, rfl, hn2, hcell2⟩ := hu.open
  have hb : (chkI m != 0) = true := by simpa using h2
  clear hv hu hcell hcell2 hfl hfm hR h1 h2 hn hn2
  generalize chkI m = ce at *
  generalize l.length = nl at *
  generalize m.length = nm at *
  go_enter Tryz.func8, Tryz.ntmps8
  go_wp2_with fail
  refine Calls.mono HC.out ?_
  rintro e w1 ⟨rfl, b⟩
  have HB : Hid (Below w.heap.size w w1) := b
  clear b
  go_wp2_with fail
  refine Calls.mono (HCm.out w1 HB.out) ?_
  rintro e w2 ⟨rfl, b⟩
  have HB2 : Hid (Below w.heap.size w w2) := HB.out.trans (b.mono HB.out.size)
  clear b
  go_wp2_with fail
  exact bodyPost_ret (v := .tuple #[.bool false, .slice none 0 0, .int .i64 ce]) (by simp [results, Tryz.results8, go_sem]) rfl ⟨rfl, HB2.out⟩
theorem impliesR_any (v u : Value) (l m : List Rq) (w : World) (hv : Reqs w v l) (hg : GoodV v) (hu : Reqs w u m) (hfl : ∀ r ∈ l, Fit r) (hfm : ∀ r ∈ m, Fit r) (hR : Room w) :
    Calls Tryz.prog 8 #[v, u] w fun e w' => ∃ yes uu er, e = .returned (.tuple #[.bool yes, uu, .int .i64 er]) ∧ ImpR l m w' yes uu er ∧ Below w.heap.size w w' := by
  by_cases h1 : chkI l = 0
  · by_cases h2 : chkI m = 0
    · refine (impR_loop v u l m w hv hg hu hfl hfm hR h1 h2).mono ?_
      rintro e w' ⟨uu, rfl, hl, b⟩
      exact ⟨_, _, _, rfl, Or.inr (Or.inr ⟨h1, h2, rfl, rfl, hl⟩), b⟩
    · refine (impR_bad2 v u l m w hv hu hfl hfm hR h1 h2).mono ?_
      rintro e w' ⟨rfl, b⟩
      exact ⟨_, _, _, rfl, Or.inr (Or.inl ⟨h1, h2, rfl, rfl, rfl⟩), b⟩
  · refine (impR_bad1 v u l m w hv hu hfl hR h1).mono ?_
    rintro e w' ⟨rfl, b⟩
    exact ⟨_, _, _, rfl, Or.inl ⟨h1, rfl, rfl, rfl⟩, b⟩
end Go.Proofs.YtgaopmdpcjcooaaGreatDoor
