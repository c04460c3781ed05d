/- Contract over this translation: query.solve. -/
import Derived.Test.YtgaopmdpcjcooaaGreatDoorQChoice
import Derived.Test.YtgaopmdpcjcooaaGreatDoorQFirst
namespace Go.Proofs.YtgaopmdpcjcooaaGreatDoor
open Go.RowKit
set_option linter.unusedVariables false
set_option linter.unusedSimpArgs false
theorem owns_below {w w' : World} {B : Nat} {e : TypeId} {size : Nat} {v : Value} {n : Nat} {xs : List Value} (h : w.ownsRow B e size v n xs) (hb : Below w.heap.size w w') : w'.ownsRow B e size v n xs := by
  obtain ⟨hl, h | ⟨g, cap, cur, hv, hB, hg, rest⟩⟩ := h
  · exact ⟨hl, Or.inl h⟩
  · exact ⟨hl, Or.inr ⟨g, cap, cur, hv, hB, (hb.block g (lt_of_block hg)).trans hg, rest⟩⟩
theorem kI_len {s : Bs} (h : kI s = 0) : s.length ≤ 64 := by
  unfold kI keyI at h
  rw [ba_size] at h
  split at h
  · omega
  · omega
theorem vI_len {s : Bs} (h : vI s = 0) : s.length ≤ 63 := by
  unfold vI valI at h
  rw [ba_size] at h
  split at h
  · omega
  · omega
theorem clone_any (s : Bs) (w : World) (h : s.length ≤ 100000) : Calls Tryz.prog 38 #[.string (Ba s)] w fun e w' => e = .returned (.string (Ba s)) ∧ Below w.heap.size w w' := by
  have HC : Hid (Calls Tryz.prog 67 #[.string (Ba s)] w fun e w' => e = .returned (.string (Ba s)) ∧ Below w.heap.size w w') := Tryz.stringslite_Clone (Ba s) w (by rw [ba_size]; omega)
  generalize Ba s = y at *
  go_enter Tryz.func38, Tryz.ntmps38
  go_wp2_with fail
  refine Calls.mono HC.out ?_
  rintro e w1 ⟨rfl, b⟩
  have HB : Hid (Below w.heap.size w w1) := b
  clear b
  go_wp2_with fail
  go_ret
  exact ⟨rfl, HB.out⟩
def flatL (L : List Lb) : List Value := L.flatMap fun x => [.string (Ba x.1), .string (Ba x.2)]
theorem flatL_snoc (L : List Lb) (x : Lb) : flatL (L ++ [x]) = flatL L ++ [.string (Ba x.1), .string (Ba x.2)] := by simp [flatL]
theorem flatL_at : ∀ (L : List Lb) (i : Nat) (x : Lb), L[i]? = some x → (flatL L)[i * 2]? = some (.string (Ba x.1)) ∧ (flatL L)[i * 2 + 1]? = some (.string (Ba x.2))
  | [], i, p, h => by simp at h
  | q :: r, 0, p, h => by
    simp only [List.getElem?_cons_zero, Option.some.injEq] at h
    subst h
    exact ⟨rfl, rfl⟩
  | q :: r, i + 1, p, h => by
    have e : flatL (q :: r) = [.string (Ba q.1), .string (Ba q.2)] ++ flatL r := by simp [flatL]
    obtain ⟨h1, h2⟩ := flatL_at r i p (by simpa using h)
    rw [e]
    have l3 : ([.string (Ba q.1), .string (Ba q.2)] : List Value).length = 2 := rfl
    refine ⟨?_, ?_⟩
    · rw [List.getElem?_append_right (by rw [l3]; omega), l3, show (i + 1) * 2 - 2 = i * 2 by omega]; exact h1
    · rw [List.getElem?_append_right (by rw [l3]; omega), l3, show (i + 1) * 2 + 1 - 2 = i * 2 + 1 by omega]; exact h2
def OwnL (B : Nat) (w : World) (v : Value) (L : List Lb) : Prop := w.ownsRow B 31 2 v L.length (flatL L)
theorem OwnL.labs {B : Nat} {w : World} {v : Value} {L : List Lb} (h : OwnL B w v L) : Labs w v L := by
  rcases owns_at h with ⟨rfl, h0⟩ | ⟨g, cap, rfl, hB, hg, hc, hm, hcell⟩
  · have : L = [] := List.eq_nil_of_length_eq_zero h0
    subst this
    exact Or.inl ⟨rfl, _, _, rfl⟩
  · refine Or.inr ⟨g, 0, cap, rfl, hc, hm, hg, fun i x hx => ?_⟩
    obtain ⟨h1, h2⟩ := flatL_at L i x hx
    rw [Nat.zero_add]
    exact ⟨hcell _ _ h1, hcell _ _ h2⟩
theorem two2 {a b : ByteArray} : ∀ u ∈ [Value.string a, .string b], u.oneCell' = true := by
  intro u hu
  simp only [List.mem_cons, List.not_mem_nil, or_false] at hu
  rcases hu with rfl | rfl <;> rfl
/-- what solve answers -/
def SolveR (l : List Rq) (w : World) (u : Value) (b : Bool) : Prop := (solveP l = none ∧ b = false ∧ u = .slice none 0 0) ∨ ∃ ls, solveP l = some ls ∧ b = true ∧ Labs w u ls
theorem solveK_skip {l : List Rq} {ks : List Bs} {k : Nat} (hk : k < ks.length) (h : allH (aboutP l ks[k]) none = true) : solveK l (ks.drop k) = solveK l (ks.drop (k + 1)) := by
  rw [List.drop_eq_getElem_cons hk, solveK, if_pos h]
theorem solveK_not {l : List Rq} {ks : List Bs} {k : Nat} (hk : k < ks.length) (h : allH (aboutP l ks[k]) none = false) (g : firstP (choicesP (aboutP l ks[k])) (aboutP l ks[k]) = none) : solveK l (ks.drop k) = none := by
  rw [List.drop_eq_getElem_cons hk, solveK, if_neg (by simp [h]), g]
theorem solveK_one {l : List Rq} {ks : List Bs} {k : Nat} {v : Bs} (hk : k < ks.length) (h : allH (aboutP l ks[k]) none = false) (g : firstP (choicesP (aboutP l ks[k])) (aboutP l ks[k]) = some v) : solveK l (ks.drop k) = (solveK l (ks.drop (k + 1))).map ((ks[k], v) :: ·) := by
  rw [List.drop_eq_getElem_cons hk, solveK, if_neg (by simp [h]), g]
set_option maxRecDepth 100000 in
set_option maxHeartbeats 4000000 in
theorem solve_any (v : Value) (l : List Rq) (w : World) (hv : Reqs w v l) (hf : Fine l) :
    Calls Tryz.prog 21 #[v] w fun e w' => ∃ u b, e = .returned (.tuple #[u, .bool b]) ∧ SolveR l w' u b ∧ Below w.heap.size w w' := by
  obtain ⟨i0, hi, hz0, hz1, hz2⟩ := info_parts info_label
  have hlen : l.length ≤ 9 := hf.1
  have hkl := keysP_len l
  have HKs : Hid (Calls Tryz.prog 33 #[v] w fun e w' => ∃ u, e = .returned u ∧ Strs w' u (keysP l) ∧ Below w.heap.size w w') := keysOf_any v l w hv (by omega)
  have HP : Hid (∀ w1 s, Below w.heap.size w w1 → Calls Tryz.prog 34 #[v, .string (Ba s)] w1 fun e w' => ∃ u, e = .returned u ∧ Reqs w' u (aboutP l s) ∧ Below w1.heap.size w1 w') := fun w1 s hb => partsFor_any v l s w1 (hv.below hb) (by omega)
  have HKL : Hid (∀ k (hk : k < (keysP l).length), (keysP l)[k].length ≤ 100000) := fun k hk => by
    obtain ⟨r, hr, e⟩ := (keysP_mem l _).1 (List.getElem_mem hk)
    have := kI_len (part_ok.1 (hf.2 r hr)).1
    rw [← e]
    omega
  have HVL : Hid (∀ s x, firstP (choicesP (aboutP l s)) (aboutP l s) = some x → x.length ≤ 100000) := fun s x h => by
    have := vI_len (choices_fine hf s x (List.mem_of_find?_eq_some h))
    omega
  have HCh : Hid (∀ w1 u s, Reqs w1 u (aboutP l s) → Calls Tryz.prog 37 #[u] w1 fun e w' => ∃ uc, e = .returned uc ∧ Strs w' uc (choicesP (aboutP l s)) ∧ Below w1.heap.size w1 w') := fun w1 u s h =>
    choices_any u _ w1 h (fun r hr => (part_ok.1 (hf.2 r (List.mem_filter.1 hr).1)).2.2.1) (by have := about_len l s; omega)
  have HRes : Hid (solveP l = solveK l ((keysP l).drop 0)) := rfl
  have HFin : Hid (∀ (u : Value) (b : Bool) w', SolveR l w' u b ↔ (solveP l = none ∧ b = false ∧ u = .slice none 0 0) ∨ ∃ ls, solveP l = some ls ∧ b = true ∧ Labs w' u ls) := fun u b w' => Iff.rfl
  obtain ⟨p0, c0, rfl, hn0, hcell0⟩ := hv.open
  clear hcell0 hv hf hn0
  generalize l.length = nl at *
  generalize hks : keysP l = ks at *
  clear hks
  have hkl9 : ks.length ≤ 9 := by omega
  go_enter Tryz.func21, Tryz.ntmps21
  go_wp2_with fail
  refine Calls.mono HKs.out ?_
  rintro e w1 ⟨uk, rfl, hsk, b1⟩
  obtain ⟨p, c, rfl, hn, hcell⟩ := hsk.open
  have HB1 : Hid (Below w.heap.size w w1) := b1
  have HC : Hid (∀ k (hk : k < ks.length), ∃ g o, p = some ⟨g, o, none⟩ ∧ ks.length ≤ c ∧ ∀ w2, Below w1.heap.size w1 w2 → w2.cell? ⟨g, o + k, none⟩ = some (.string (Ba ks[k]))) := hcell
  clear hsk hcell b1 hn
  go_wp2_with fail
  go_loopw [4, 13] (fun x i wr => ∃ (k : Nat) (acc : List Lb), k ≤ ks.length ∧ i = .int .i64 k ∧ acc.length ≤ k ∧ solveK l (ks.drop 0) = (solveK l (ks.drop k)).map (acc ++ ·) ∧ wr.ownsRow w1.heap.size 31 2 x acc.length (flatL acc) ∧ Below w1.heap.size w1 wr) (fun _ i _ => ks.length - (intOf i).toNat)
  case atStart => exact ⟨0, [], Nat.zero_le _, rfl, Nat.le_refl _, by simp, World.ownsRow_nil _ _ _ _, Below.refl _ _⟩
  case round =>
    obtain ⟨k, acc, hk, rfl, hak, hall, hown, hbel⟩ := hrel
    have HA : Hid (solveK l (ks.drop 0) = (solveK l (ks.drop k)).map (acc ++ ·)) := hall
    have HO : Hid (wr.ownsRow w1.heap.size 31 2 u4 acc.length (flatL acc)) := hown
    have HBr1 : Hid (Below w1.heap.size w1 wr) := hbel
    have HBr : Hid (Below w.heap.size w wr) := HB1.out.trans (hbel.mono HB1.out.size)
    clear hall hown hbel
    by_cases hlt : k < ks.length
    · obtain ⟨g, o, rfl, hlc, hc0⟩ := HC.out k hlt
      have ck := hc0 wr HBr1.out
      have HPk : Hid (Calls Tryz.prog 34 #[.slice p0 nl c0, .string (Ba ks[k])] wr fun e w' => ∃ u, e = .returned u ∧ Reqs w' u (aboutP l ks[k]) ∧ Below wr.heap.size wr w') := HP.out wr ks[k] HBr.out
      have HLk : Hid (ks[k].length ≤ 100000) := HKL.out k hlt
      have HSk : Hid (allH (aboutP l ks[k]) none = true → solveK l (ks.drop k) = solveK l (ks.drop (k + 1))) := fun h => solveK_skip hlt h
      have HNk : Hid (allH (aboutP l ks[k]) none = false → firstP (choicesP (aboutP l ks[k])) (aboutP l ks[k]) = none → solveK l (ks.drop k) = none) := fun h g => solveK_not hlt h g
      have HOk : Hid (∀ v, allH (aboutP l ks[k]) none = false → firstP (choicesP (aboutP l ks[k])) (aboutP l ks[k]) = some v → solveK l (ks.drop k) = (solveK l (ks.drop (k + 1))).map ((ks[k], v) :: ·)) := fun v h g => solveK_one hlt h g
      have HCk : Hid (∀ w1 u, Reqs w1 u (aboutP l ks[k]) → Calls Tryz.prog 37 #[u] w1 fun e w' => ∃ uc, e = .returned uc ∧ Strs w' uc (choicesP (aboutP l ks[k])) ∧ Below w1.heap.size w1 w') := fun w1 u h => HCh.out w1 u ks[k] h
      have HVk : Hid (∀ x, firstP (choicesP (aboutP l ks[k])) (aboutP l ks[k]) = some x → x.length ≤ 100000) := HVL.out ks[k]
      clear hc0
      generalize ks[k] = key at *
      generalize aboutP l key = ab at *
      go_wp2_with fail
      refine Calls.mono HPk.out ?_
      rintro e w2 ⟨ua, rfl, hra, b2⟩
      have HB2r : Hid (Below wr.heap.size wr w2) := b2
      have HRa : Hid (Reqs w2 ua ab) := hra
      have HAl : Hid (Calls Tryz.prog 35 #[ua, .agg #[.bool false, .string ⟨#[]⟩]] w2 fun e w' => e = .returned (.bool (allH ab none)) ∧ Below w2.heap.size w2 w') := allHold_any ua ab none w2 hra
      obtain ⟨pa, ca, rfl, hna, hcella⟩ := hra.open
      clear hcella hra b2 hna
      generalize ab.length = nab at *
      cases hx : allH ab none with
      | true =>
        have HS : Hid (solveK l (ks.drop k) = solveK l (ks.drop (k + 1))) := HSk.out hx
        rw [hx] at HAl
        clear hx HNk HOk HCk HVk
        go_wp2_with fail
        refine Calls.mono HAl.out ?_
        rintro e w3 ⟨rfl, b3⟩
        have HB3r : Hid (Below wr.heap.size wr w3) := HB2r.out.trans (b3.mono HB2r.out.size)
        clear b3
        go_wp2_with fail
        go_roundw
        case rel => exact ⟨k + 1, acc, by omega, by go_num, by omega, by rw [HA.out, HS.out], owns_below HO.out HB3r.out, HBr1.out.trans (HB3r.out.mono HBr1.out.size)⟩
        case measure => simp [intOf]; omega
      | false =>
        have HNk2 : Hid (firstP (choicesP ab) ab = none → solveK l (ks.drop k) = none) := HNk.out hx
        have HOk2 : Hid (∀ v, firstP (choicesP ab) ab = some v → solveK l (ks.drop k) = (solveK l (ks.drop (k + 1))).map ((key, v) :: ·)) := fun v => HOk.out v hx
        rw [hx] at HAl
        clear hx HSk HNk HOk
        go_wp2_with fail
        refine Calls.mono HAl.out ?_
        rintro e w3 ⟨rfl, b3⟩
        have HB3r : Hid (Below wr.heap.size wr w3) := HB2r.out.trans (b3.mono HB2r.out.size)
        have HRa3 : Hid (Reqs w3 (.slice pa nab ca) ab) := HRa.out.below b3
        have HCk3 : Hid (Calls Tryz.prog 37 #[.slice pa nab ca] w3 fun e w' => ∃ uc, e = .returned uc ∧ Strs w' uc (choicesP ab) ∧ Below w3.heap.size w3 w') := HCk.out w3 _ HRa3.out
        clear b3
        go_wp2_with fail
        refine Calls.mono HCk3.out ?_
        rintro e w4 ⟨uc, rfl, hsc, b4⟩
        have HB4r : Hid (Below wr.heap.size wr w4) := HB3r.out.trans (b4.mono HB3r.out.size)
        have HFo : Hid (Calls Tryz.prog 36 #[uc, .slice pa nab ca] w4 fun e w' => e = .returned (firstV (firstP (choicesP ab) ab)) ∧ Below w4.heap.size w4 w') := firstOf_any uc _ _ ab w4 hsc (HRa3.out.below b4)
        obtain ⟨pc, cc, rfl, hnc⟩ := hsc.form
        clear b4 hsc hnc
        generalize (choicesP ab).length = nc at *
        cases hfp : firstP (choicesP ab) ab with
        | none =>
          have HE : Hid (solveP l = none) := by show _ = _; rw [HRes.out, HA.out, HNk2.out hfp]; rfl
          rw [hfp] at HFo
          have HFo2 : Hid (Calls Tryz.prog 36 #[.slice pc nc cc, .slice pa nab ca] w4 fun e w' => e = .returned (.tuple #[.string ⟨#[]⟩, .bool false]) ∧ Below w4.heap.size w4 w') := HFo.out
          clear hfp HFo HOk2 HNk2
          go_wp2_with fail
          refine Calls.mono HFo2.out ?_
          rintro e w5 ⟨rfl, b5⟩
          have HB5 : Hid (Below w.heap.size w w5) := HBr.out.trans ((HB4r.out.trans (b5.mono HB4r.out.size)).mono HBr.out.size)
          clear b5
          go_wp2_with fail
          go_ret2
          exact ⟨_, _, rfl, (HFin.out _ _ _).2 (Or.inl ⟨HE.out, rfl, rfl⟩), HB5.out⟩
        | some x =>
          have HO2 : Hid (solveK l (ks.drop 0) = (solveK l (ks.drop (k + 1))).map ((acc ++ [(key, x)]) ++ ·)) := by
            show _ = _
            rw [HA.out, HOk2.out x hfp, Option.map_map]
            congr 1
            funext t
            simp
          have HXl : Hid (x.length ≤ 100000) := HVk.out x hfp
          rw [hfp] at HFo
          have HFo2 : Hid (Calls Tryz.prog 36 #[.slice pc nc cc, .slice pa nab ca] w4 fun e w' => e = .returned (.tuple #[.string (Ba x), .bool true]) ∧ Below w4.heap.size w4 w') := HFo.out
          have HCK : Hid (∀ w1, Calls Tryz.prog 38 #[.string (Ba key)] w1 fun e w' => e = .returned (.string (Ba key)) ∧ Below w1.heap.size w1 w') := fun w1 => clone_any key w1 HLk.out
          have HCX : Hid (∀ w1, Calls Tryz.prog 38 #[.string (Ba x)] w1 fun e w' => e = .returned (.string (Ba x)) ∧ Below w1.heap.size w1 w') := fun w1 => clone_any x w1 HXl.out
          have HFl : Hid (flatL (acc ++ [(key, x)]) = flatL acc ++ [.string (Ba key), .string (Ba x)]) := flatL_snoc _ _
          clear hfp HFo HOk2 HNk2
          generalize Ba key = bk at *
          generalize Ba x = bx at *
          go_wp2_with fail
          refine Calls.mono HFo2.out ?_
          rintro e w5 ⟨rfl, b5⟩
          have HB5r : Hid (Below wr.heap.size wr w5) := HB4r.out.trans (b5.mono HB4r.out.size)
          clear b5
          go_wp2_with fail
          refine Calls.mono (HCK.out w5) ?_
          rintro e w6 ⟨rfl, b6⟩
          have HB6r : Hid (Below wr.heap.size wr w6) := HB5r.out.trans (b6.mono HB5r.out.size)
          clear b6
          go_wp2_with fail
          refine Calls.mono (HCX.out w6) ?_
          rintro e w7 ⟨rfl, b7⟩
          have HB7r : Hid (Below wr.heap.size wr w7) := HB6r.out.trans (b7.mono HB6r.out.size)
          have HB7 : Hid (Below w.heap.size w w7) := HBr.out.trans (HB7r.out.mono HBr.out.size)
          have HO7 : Hid (w7.ownsRow w1.heap.size 31 2 u4 acc.length (flatL acc)) := owns_below HO.out HB7r.out
          have HB71 : Hid (Below w1.heap.size w1 w7) := HBr1.out.trans (HB7r.out.mono HBr1.out.size)
          have h7 := HB71.out.size
          clear b7
          go_wp2_with (at_builtin; refine wpList_append_own _ rfl _ _ 23 rfl w1.heap.size 31 i0 (.agg #[.string ⟨#[]⟩, .string ⟨#[]⟩]) 2 32 Tryz.underlying23 hi hz0 hz1 hz2 rfl (by decide) _ _ _ rfl (HO7.out.alloc _) ⟨w7.heap.size, 0, none⟩ 1 1 [.string bk, .string bx] rfl rfl (new2 rfl) two2 (by unfold maxLen; omega) (by omega) (by simp; omega) ?_)
          intro v' w8 hown' hgrow _
          have HO8 : Hid (w8.ownsRow w1.heap.size 31 2 v' (acc ++ [(key, x)]).length (flatL (acc ++ [(key, x)]))) := by
            show w8.ownsRow _ _ _ _ _ _
            rw [HFl.out, List.length_append]
            exact hown'
          have HB8 : Hid (Below w1.heap.size w1 w8) := (HB71.out.alloc HB71.out.size _).grown hgrow (by simp; omega) (fun b hb => (World.ownsRow.lt HO7.out b hb).1)
          clear hown' hgrow h7
          go_wp2_with fail
          go_roundw
          case rel => exact ⟨k + 1, acc ++ [(key, x)], by omega, by go_num, by simp; omega, HO2.out, HO8.out, HB8.out⟩
          case measure => simp [intOf]; omega
    · have HE : Hid (solveP l = some acc) := by
        show _ = _
        rw [HRes.out, HA.out, List.drop_eq_nil_of_le (by omega)]
        simp [solveK]
      have HL : Hid (Labs wr u4 acc) := OwnL.labs HO.out
      go_wp2_with fail
      go_ret2
      exact ⟨_, _, rfl, (HFin.out _ _ _).2 (Or.inr ⟨acc, HE.out, rfl, HL.out⟩), HBr.out⟩
end Go.Proofs.YtgaopmdpcjcooaaGreatDoor
