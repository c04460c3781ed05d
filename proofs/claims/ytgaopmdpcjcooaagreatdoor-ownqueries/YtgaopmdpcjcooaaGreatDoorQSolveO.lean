/- Contract over this translation: query.Solve, with the row of its labels. -/
import Derived.Test.YtgaopmdpcjcooaaGreatDoorQSolveTop
namespace Go.Proofs.YtgaopmdpcjcooaaGreatDoor
open Go.RowKit
set_option linter.unusedVariables false
set_option linter.unusedSimpArgs false
def SolveO (l : List Rq) (w : World) (u : Value) (b : Bool) : Prop := (solveP l = none ∧ b = false ∧ u = .slice none 0 0) ∨ ∃ ls, solveP l = some ls ∧ b = true ∧ ∃ B, OwnL B w u ls
set_option maxRecDepth 100000 in
set_option maxHeartbeats 4000000 in
theorem solveO_any (v : Value) (l : List Rq) (w : World) (hv : Reqs w v l) (hf : Fine l) :
    Calls Tryz.prog 21 #[v] w fun e w' => ∃ u b, e = .returned (.tuple #[u, .bool b]) ∧ SolveO l w' u b ∧ Below w.heap.size w w' := by
  obtain ⟨i0, hi, hz0, hz1, hz2⟩ := info_parts info_label
  have hlen : l.length ≤ 9 := hf.1
  have hkl := keysP_len l
  have HKs : Hid (Calls Tryz.prog 33 #[v] w fun e w' => ∃ u, e = .returned u ∧ Strs w' u (keysP l) ∧ Below w.heap.size w w') := keysOf_any v l w hv (by omega)
  have HP : Hid (∀ w1 s, Below w.heap.size w w1 → Calls Tryz.prog 34 #[v, .string (Ba s)] w1 fun e w' => ∃ u, e = .returned u ∧ Reqs w' u (aboutP l s) ∧ Below w1.heap.size w1 w') := fun w1 s hb => partsFor_any v l s w1 (hv.below hb) (by omega)
  have HKL : Hid (∀ k (hk : k < (keysP l).length), (keysP l)[k].length ≤ 100000) := fun k hk => by
    obtain ⟨r, hr, e⟩ := (keysP_mem l _).1 (List.getElem_mem hk)
    have := kI_len (part_ok.1 (hf.2 r hr)).1
    rw [← e]
    omega
  have HVL : Hid (∀ s x, firstP (choicesP (aboutP l s)) (aboutP l s) = some x → x.length ≤ 100000) := fun s x h => by
    have := vI_len (choices_fine hf s x (List.mem_of_find?_eq_some h))
    omega
  have HCh : Hid (∀ w1 u s, Reqs w1 u (aboutP l s) → Calls Tryz.prog 37 #[u] w1 fun e w' => ∃ uc, e = .returned uc ∧ Strs w' uc (choicesP (aboutP l s)) ∧ Below w1.heap.size w1 w') := fun w1 u s h =>
    choices_any u _ w1 h (fun r hr => (part_ok.1 (hf.2 r (List.mem_filter.1 hr).1)).2.2.1) (by have := about_len l s; omega)
  have HRes : Hid (solveP l = solveK l ((keysP l).drop 0)) := rfl
  have HFin : Hid (∀ (u : Value) (b : Bool) w', SolveO l w' u b ↔ (solveP l = none ∧ b = false ∧ u = .slice none 0 0) ∨ ∃ ls, solveP l = some ls ∧ b = true ∧ ∃ B, OwnL B w' u ls) := fun u b w' => Iff.rfl
  obtain ⟨p0, c0, rfl, hn0, hcell0⟩ := hv.open
  clear hcell0 hv hf hn0
  generalize l.length = nl at *
  generalize hks : keysP l = ks at *
  clear hks
  have hkl9 : ks.length ≤ 9 := by omega
  go_enter Tryz.func21, Tryz.ntmps21
  go_wp2_with fail
  refine Calls.mono HKs.out ?_
  rintro e w1 ⟨uk, rfl, hsk, b1⟩
  obtain ⟨p, c, rfl, hn, hcell⟩ := hsk.open
  have HB1 : Hid (Below w.heap.size w w1) := b1
  have HC : Hid (∀ k (hk : k < ks.length), ∃ g o, p = some ⟨g, o, none⟩ ∧ ks.length ≤ c ∧ ∀ w2, Below w1.heap.size w1 w2 → w2.cell? ⟨g, o + k, none⟩ = some (.string (Ba ks[k]))) := hcell
  clear hsk hcell b1 hn
  go_wp2_with fail
  go_loopw [4, 13] (fun x i wr => ∃ (k : Nat) (acc : List Lb), k ≤ ks.length ∧ i = .int .i64 k ∧ acc.length ≤ k ∧ solveK l (ks.drop 0) = (solveK l (ks.drop k)).map (acc ++ ·) ∧ wr.ownsRow w1.heap.size 31 2 x acc.length (flatL acc) ∧ Below w1.heap.size w1 wr) (fun _ i _ => ks.length - (intOf i).toNat)
  case atStart => exact ⟨0, [], Nat.zero_le _, rfl, Nat.le_refl _, by simp, World.ownsRow_nil _ _ _ _, Below.refl _ _⟩
  case round =>
    obtain ⟨k, acc, hk, rfl, hak, hall, hown, hbel⟩ := hrel
    have HA : Hid (solveK l (ks.drop 0) = (solveK l (ks.drop k)).map (acc ++ ·)) := hall
    have HO : Hid (wr.ownsRow w1.heap.size 31 2 u4 acc.length (flatL acc)) := hown
    have HBr1 : Hid (Below w1.heap.size w1 wr) := hbel
    have HBr : Hid (Below w.heap.size w wr) := HB1.out.trans (hbel.mono HB1.out.size)
    clear hall hown hbel
    by_cases hlt : k < ks.length
    · obtain ⟨g, o, rfl, hlc, hc0⟩ := HC.out k hlt
      have ck := hc0 wr HBr1.out
      have HPk : Hid (Calls Tryz.prog 34 #[.slice p0 nl c0, .string (Ba ks[k])] wr fun e w' => ∃ u, e = .returned u ∧ Reqs w' u (aboutP l ks[k]) ∧ Below wr.heap.size wr w') := HP.out wr ks[k] HBr.out
      have HLk : Hid (ks[k].length ≤ 100000) := HKL.out k hlt
      have HSk : Hid (allH (aboutP l ks[k]) none = true → solveK l (ks.drop k) = solveK l (ks.drop (k + 1))) := fun h => solveK_skip hlt h
      have HNk : Hid (allH (aboutP l ks[k]) none = false → firstP (choicesP (aboutP l ks[k])) (aboutP l ks[k]) = none → solveK l (ks.drop k) = none) := fun h g => solveK_not hlt h g
      have HOk : Hid (∀ v, allH (aboutP l ks[k]) none = false → firstP (choicesP (aboutP l ks[k])) (aboutP l ks[k]) = some v → solveK l (ks.drop k) = (solveK l (ks.drop (k + 1))).map ((ks[k], v) :: ·)) := fun v h g => solveK_one hlt h g
      have HCk : Hid (∀ w1 u, Reqs w1 u (aboutP l ks[k]) → Calls Tryz.prog 37 #[u] w1 fun e w' => ∃ uc, e = .returned uc ∧ Strs w' uc (choicesP (aboutP l ks[k])) ∧ Below w1.heap.size w1 w') := fun w1 u h => HCh.out w1 u ks[k] h
      have HVk : Hid (∀ x, firstP (choicesP (aboutP l ks[k])) (aboutP l ks[k]) = some x → x.length ≤ 100000) := HVL.out ks[k]
      clear hc0
      generalize ks[k] = key at *
      generalize aboutP l key = ab at *
      go_wp2_with fail
      refine Calls.mono HPk.out ?_
      rintro e w2 ⟨ua, rfl, hra, b2⟩
      have HB2r : Hid (Below wr.heap.size wr w2) := b2
      have HRa : Hid (Reqs w2 ua ab) := hra
      have HAl : Hid (Calls Tryz.prog 35 #[ua, .agg #[.bool false, .string ⟨#[]⟩]] w2 fun e w' => e = .returned (.bool (allH ab none)) ∧ Below w2.heap.size w2 w') := allHold_any ua ab none w2 hra
      obtain ⟨pa, ca, rfl, hna, hcella⟩ := hra.open
      clear hcella hra b2 hna
      generalize ab.length = nab at *
      cases hx : allH ab none with
      | true =>
        have HS : Hid (solveK l (ks.drop k) = solveK l (ks.drop (k + 1))) := HSk.out hx
        rw [hx] at HAl
        clear hx HNk HOk HCk HVk
        go_wp2_with fail
        refine Calls.mono HAl.out ?_
        rintro e w3 ⟨rfl, b3⟩
        have HB3r : Hid (Below wr.heap.size wr w3) := HB2r.out.trans (b3.mono HB2r.out.size)
        clear b3
        go_wp2_with fail
        go_roundw
        case rel => exact ⟨k + 1, acc, by omega, by go_num, by omega, by rw [HA.out, HS.out], owns_below HO.out HB3r.out, HBr1.out.trans (HB3r.out.mono HBr1.out.size)⟩
        case measure => simp [intOf]; omega
      | false =>
        have HNk2 : Hid (firstP (choicesP ab) ab = none → solveK l (ks.drop k) = none) := HNk.out hx
        have HOk2 : Hid (∀ v, firstP (choicesP ab) ab = some v → solveK l (ks.drop k) = (solveK l (ks.drop (k + 1))).map ((key, v) :: ·)) := fun v => HOk.out v hx
        rw [hx] at HAl
        clear hx HSk HNk HOk
        go_wp2_with fail
        refine Calls.mono HAl.out ?_
        rintro e w3 ⟨rfl, b3⟩
        have HB3r : Hid (Below wr.heap.size wr w3) := HB2r.out.trans (b3.mono HB2r.out.size)
        have HRa3 : Hid (Reqs w3 (.slice pa nab ca) ab) := HRa.out.below b3
        have HCk3 : Hid (Calls Tryz.prog 37 #[.slice pa nab ca] w3 fun e w' => ∃ uc, e = .returned uc ∧ Strs w' uc (choicesP ab) ∧ Below w3.heap.size w3 w') := HCk.out w3 _ HRa3.out
        clear b3
        go_wp2_with fail
        refine Calls.mono HCk3.out ?_
        rintro e w4 ⟨uc, rfl, hsc, b4⟩
        have HB4r : Hid (Below wr.heap.size wr w4) := HB3r.out.trans (b4.mono HB3r.out.size)
        have HFo : Hid (Calls Tryz.prog 36 #[uc, .slice pa nab ca] w4 fun e w' => e = .returned (firstV (firstP (choicesP ab) ab)) ∧ Below w4.heap.size w4 w') := firstOf_any uc _ _ ab w4 hsc (HRa3.out.below b4)
        obtain ⟨pc, cc, rfl, hnc⟩ := hsc.form
        clear b4 hsc hnc
        generalize (choicesP ab).length = nc at *
        cases hfp : firstP (choicesP ab) ab with
        | none =>
          have HE : Hid (solveP l = none) := by show _ = _; rw [HRes.out, HA.out, HNk2.out hfp]; rfl
          rw [hfp] at HFo
          have HFo2 : Hid (Calls Tryz.prog 36 #[.slice pc nc cc, .slice pa nab ca] w4 fun e w' => e = .returned (.tuple #[.string ⟨#[]⟩, .bool false]) ∧ Below w4.heap.size w4 w') := HFo.out
          clear hfp HFo HOk2 HNk2
          go_wp2_with fail
          refine Calls.mono HFo2.out ?_
          rintro e w5 ⟨rfl, b5⟩
          have HB5 : Hid (Below w.heap.size w w5) := HBr.out.trans ((HB4r.out.trans (b5.mono HB4r.out.size)).mono HBr.out.size)
          clear b5
          go_wp2_with fail
          go_ret2
          exact ⟨_, _, rfl, (HFin.out _ _ _).2 (Or.inl ⟨HE.out, rfl, rfl⟩), HB5.out⟩
        | some x =>
          have HO2 : Hid (solveK l (ks.drop 0) = (solveK l (ks.drop (k + 1))).map ((acc ++ [(key, x)]) ++ ·)) := by
            show _ = _
            rw [HA.out, HOk2.out x hfp, Option.map_map]
            congr 1
            funext t
            simp
          have HXl : Hid (x.length ≤ 100000) := HVk.out x hfp
          rw [hfp] at HFo
          have HFo2 : Hid (Calls Tryz.prog 36 #[.slice pc nc cc, .slice pa nab ca] w4 fun e w' => e = .returned (.tuple #[.string (Ba x), .bool true]) ∧ Below w4.heap.size w4 w') := HFo.out
          have HCK : Hid (∀ w1, Calls Tryz.prog 38 #[.string (Ba key)] w1 fun e w' => e = .returned (.string (Ba key)) ∧ Below w1.heap.size w1 w') := fun w1 => clone_any key w1 HLk.out
          have HCX : Hid (∀ w1, Calls Tryz.prog 38 #[.string (Ba x)] w1 fun e w' => e = .returned (.string (Ba x)) ∧ Below w1.heap.size w1 w') := fun w1 => clone_any x w1 HXl.out
          have HFl : Hid (flatL (acc ++ [(key, x)]) = flatL acc ++ [.string (Ba key), .string (Ba x)]) := flatL_snoc _ _
          clear hfp HFo HOk2 HNk2
          generalize Ba key = bk at *
          generalize Ba x = bx at *
          go_wp2_with fail
          refine Calls.mono HFo2.out ?_
          rintro e w5 ⟨rfl, b5⟩
          have HB5r : Hid (Below wr.heap.size wr w5) := HB4r.out.trans (b5.mono HB4r.out.size)
          clear b5
          go_wp2_with fail
          refine Calls.mono (HCK.out w5) ?_
          rintro e w6 ⟨rfl, b6⟩
          have HB6r : Hid (Below wr.heap.size wr w6) := HB5r.out.trans (b6.mono HB5r.out.size)
          clear b6
          go_wp2_with fail
          refine Calls.mono (HCX.out w6) ?_
          rintro e w7 ⟨rfl, b7⟩
          have HB7r : Hid (Below wr.heap.size wr w7) := HB6r.out.trans (b7.mono HB6r.out.size)
          have HB7 : Hid (Below w.heap.size w w7) := HBr.out.trans (HB7r.out.mono HBr.out.size)
          have HO7 : Hid (w7.ownsRow w1.heap.size 31 2 u4 acc.length (flatL acc)) := owns_below HO.out HB7r.out
          have HB71 : Hid (Below w1.heap.size w1 w7) := HBr1.out.trans (HB7r.out.mono HBr1.out.size)
          have h7 := HB71.out.size
          clear b7
          go_wp2_with (at_builtin; refine wpList_append_own _ rfl _ _ 23 rfl w1.heap.size 31 i0 (.agg #[.string ⟨#[]⟩, .string ⟨#[]⟩]) 2 32 Tryz.underlying23 hi hz0 hz1 hz2 rfl (by decide) _ _ _ rfl (HO7.out.alloc _) ⟨w7.heap.size, 0, none⟩ 1 1 [.string bk, .string bx] rfl rfl (new2 rfl) two2 (by unfold maxLen; omega) (by omega) (by simp; omega) ?_)
          intro v' w8 hown' hgrow _
          have HO8 : Hid (w8.ownsRow w1.heap.size 31 2 v' (acc ++ [(key, x)]).length (flatL (acc ++ [(key, x)]))) := by
            show w8.ownsRow _ _ _ _ _ _
            rw [HFl.out, List.length_append]
            exact hown'
          have HB8 : Hid (Below w1.heap.size w1 w8) := (HB71.out.alloc HB71.out.size _).grown hgrow (by simp; omega) (fun b hb => (World.ownsRow.lt HO7.out b hb).1)
          clear hown' hgrow h7
          go_wp2_with fail
          go_roundw
          case rel => exact ⟨k + 1, acc ++ [(key, x)], by omega, by go_num, by simp; omega, HO2.out, HO8.out, HB8.out⟩
          case measure => simp [intOf]; omega
    · have HE : Hid (solveP l = some acc) := by
        show _ = _
        rw [HRes.out, HA.out, List.drop_eq_nil_of_le (by omega)]
        simp [solveK]
      have HL : Hid (∃ B, OwnL B wr u4 acc) := ⟨_, HO.out⟩
      go_wp2_with fail
      go_ret2
      exact ⟨_, _, rfl, (HFin.out _ _ _).2 (Or.inr ⟨acc, HE.out, rfl, HL.out⟩), HBr.out⟩
set_option maxHeartbeats 1000000 in
theorem solveTopO_any (v : Value) (l : List Rq) (w : World) (hv : Reqs w v l) (hf : ∀ r ∈ l, Fit r) (hR : Room w) :
    Calls Tryz.prog 5 #[v] w fun e w' => ∃ u b, e = .returned (.tuple #[u, .bool b, .int .i64 (chkI l)]) ∧ ((chkI l ≠ 0 ∧ b = false ∧ u = .slice none 0 0) ∨ (chkI l = 0 ∧ SolveO l w' u b)) ∧ Below w.heap.size w w' := by
  have HC : Hid (Calls Tryz.prog 20 #[v] w fun e w' => e = .returned (.int .i64 (chkI l)) ∧ Below w.heap.size w w') := chk_any v l w hv hf hR
  have HS : Hid (chkI l = 0 → ∀ w1, Below w.heap.size w w1 → Calls Tryz.prog 21 #[v] w1 fun e w' => ∃ u b, e = .returned (.tuple #[u, .bool b]) ∧ SolveO l w' u b ∧ Below w1.heap.size w1 w') := fun h w1 hb => solveO_any v l w1 (hv.below hb) (fine_of_chk h)
  obtain ⟨p, c, rfl, hn, hcell⟩ := hv.open
  clear hv hcell hf hR hn
  by_cases h1 : chkI l = 0
  · have HS2 : Hid (∀ w1, Below w.heap.size w w1 → Calls Tryz.prog 21 #[.slice p l.length c] w1 fun e w' => ∃ u b, e = .returned (.tuple #[u, .bool b]) ∧ SolveO l w' u b ∧ Below w1.heap.size w1 w') := HS.out h1
    rw [h1] at HC ⊢
    clear h1 HS
    generalize l.length = nl at *
    go_enter Tryz.func5, Tryz.ntmps5
    go_wp2_with fail
    refine Calls.mono HC.out ?_
    rintro e w1 ⟨rfl, b⟩
    have HB : Hid (Below w.heap.size w w1) := b
    clear b
    go_wp2_with fail
    refine Calls.mono (HS2.out w1 HB.out) ?_
    rintro e w2 ⟨u, x, rfl, hs, b⟩
    have HB2 : Hid (Below w.heap.size w w2) := HB.out.trans (b.mono HB.out.size)
    have HSR : Hid (SolveO l w2 u x) := hs
    clear b hs
    go_wp2_with fail
    exact bodyPost_ret (v := .tuple #[u, .bool x, .int .i64 0]) (by simp [results, Tryz.results5, go_sem]) rfl ⟨u, x, rfl, Or.inr ⟨by trivial, HSR.out⟩, HB2.out⟩
  · have hn1 : (chkI l != 0) = true := by simpa using h1
    have HN : Hid (chkI l ≠ 0) := h1
    clear h1 HS
    generalize chkI l = ce at *
    generalize l.length = nl at *
    go_enter Tryz.func5, Tryz.ntmps5
    go_wp2_with fail
    refine Calls.mono HC.out ?_
    rintro e w1 ⟨rfl, b⟩
    have HB : Hid (Below w.heap.size w w1) := b
    clear b
    go_wp2_with fail
    exact bodyPost_ret (v := .tuple #[.slice none 0 0, .bool false, .int .i64 ce]) (by simp [results, Tryz.results5, go_sem]) rfl ⟨_, _, rfl, Or.inl ⟨HN.out, rfl, rfl⟩, HB.out⟩
theorem solveL_any (v : Value) (l : List Rq) (w : World) (hv : Reqs w v l) (hf : ∀ r ∈ l, Fit r) (hR : Room w) :
    Calls Tryz.prog 5 #[v] w fun e w' => ∃ u b er B ls, e = .returned (.tuple #[u, .bool b, .int .i64 er]) ∧ (OwnL B w' u ls ∧ ls.length ≤ 10) ∧ Below w.heap.size w w' := by
  refine (solveTopO_any v l w hv hf hR).mono ?_
  rintro e w' ⟨u, b, rfl, h, hb⟩
  rcases h with ⟨_, rfl, rfl⟩ | ⟨hc, ⟨_, rfl, rfl⟩ | ⟨ls, hs, rfl, B, ho⟩⟩
  · exact ⟨_, _, _, 0, [], rfl, ⟨World.ownsRow_nil _ _ _ _, by simp⟩, hb⟩
  · exact ⟨_, _, _, 0, [], rfl, ⟨World.ownsRow_nil _ _ _ _, by simp⟩, hb⟩
  · have := solve_labels (fine_of_chk hc) hs
    refine ⟨_, _, _, B, ls, rfl, ⟨ho, ?_⟩, hb⟩
    unfold labelsI at this
    by_cases h : 10 < ls.length
    · rw [if_pos h] at this; cases this
    · omega
end Go.Proofs.YtgaopmdpcjcooaaGreatDoor
