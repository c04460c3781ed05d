/- Contract over this translation: grants.once. -/
import Derived.Test.YtnjjlnhchfoigabDoorGrOwnN
import Derived.Test.YtnjjlnhchfoigabDoorGrGapP
namespace Go.Proofs.YtnjjlnhchfoigabDoor
open Go.RowKit Go.Maps
set_option linter.unusedVariables false
set_option linter.unusedSimpArgs false
theorem run_makeMap_hint (n : Int) (w : World) : Sem.run Tryd.prog (Instr.makeMap 86 (some (.int .i64 n))) w = .ok (.map (some w.heap.size)) (w.alloc (.map #[] 0)) := by
  simp [Instr.makeMap, asInt, Tryd.underlying86, go_sem]
set_option maxRecDepth 100000 in
set_option maxHeartbeats 4000000 in
theorem once_any (v : Value) (l : List Bs) (w : World) (hv : Strs w v l) (hl : l.length ≤ 1048576) (hf : FitS l) :
    Calls Tryd.prog 61 #[v] w fun e w' => ∃ u, e = .returned u ∧ OwnN w.heap.size w' u (onceP l) ∧ u ≠ .slice none 0 0 ∧ Below w.heap.size w w' := by
  obtain ⟨i0, hi, hz0, hz1, hz2⟩ := info_parts info_str
  obtain ⟨p, c, rfl, hln, hcell⟩ := hv.open
  have HC : Hid (∀ k (hk : k < l.length), ∃ g o, p = some ⟨g, o, none⟩ ∧ l.length ≤ c ∧ ∀ w1, Below w.heap.size w w1 → w1.cell? ⟨g, o + k, none⟩ = some (.string (Ba l[k]))) := hcell
  have HKy : Hid (∀ k (hk : k < l.length), keyOf Tryd.prog 9 (.string (Ba l[k])) = some (.string l[k])) := fun k hk => keyS _ (hf _ (List.getElem_mem hk))
  clear hcell hv hf hln
  have hmm := run_makeMap_hint
  go_enter Tryd.func61, Tryd.ntmps61
  go_wp2_with (refine wpList_make_own _ rfl _ _ 26 rfl (w.heap.size) 9 i0 (.string ⟨#[]⟩) 1 Tryd.underlying26 hi hz0 hz1 .i64 .i64 _ l.length rfl rfl rfl (by rw [hz2]; omega) (by unfold maxLen; omega) (by simp) ?_)
  intro w1 hown0 hgr0
  have HB1 : Hid (Below w.heap.size w w1) := (Below.refl _ _).grown hgr0 (Nat.le_refl _) (fun k hk => by cases hk)
  have HO1 : Hid (OwnN w.heap.size w1 (.slice (some ⟨w.heap.size, 0, none⟩) 0 l.length) []) := hown0
  clear hown0 hgr0
  go_wp2_with fail
  have HS1 : Hid (SetIs (w1.alloc (.map #[] 0)) w1.heap.size 0 []) := SetIs.made w1
  have HB2 : Hid (Below w.heap.size w (w1.alloc (.map #[] 0))) := HB1.out.alloc HB1.out.size _
  have HO2 : Hid (OwnN w.heap.size (w1.alloc (.map #[] 0)) (.slice (some ⟨w.heap.size, 0, none⟩) 0 l.length) []) := HO1.out.below ((Below.refl _ _).alloc (Nat.le_refl _) _)
  have HBs : Hid (w.heap.size ≤ w1.heap.size) := HB1.out.size
  clear HO1 HB1
  go_loopw [3, 17] (fun sv iv wr => ∃ (k : Nat), k ≤ l.length ∧ iv = .int .i64 k ∧ OwnN w.heap.size wr sv (onceP (l.take k)) ∧ SetIs wr w1.heap.size k (onceP (l.take k)) ∧ sv ≠ .slice none 0 0 ∧ Below w.heap.size w wr) (fun _ iv _ => l.length - (intOf iv).toNat)
  case atStart => exact ⟨0, Nat.zero_le _, rfl, HO2.out, HS1.out, by simp, HB2.out⟩
  case round =>
    obtain ⟨k, hk, rfl, hown, ⟨D, hset, hhas⟩, hnn, hbel⟩ := hrel
    have HNn : Hid (u3 ≠ .slice none 0 0) := hnn
    clear hnn
    have HO : Hid (OwnN w.heap.size wr u3 (onceP (l.take k))) := hown
    have HB : Hid (Below w.heap.size w wr) := hbel
    have HM : Hid (wr.ownsMap Tryd.prog 9 unitElem w1.heap.size k D) := hset
    have HH : Hid (∀ s : Bs, Maps.has D (.string s) = decide (s ∈ onceP (l.take k))) := hhas
    clear hown hbel hset hhas HO2 HS1 HB2
    have HMr : Hid (wr.ownsMap Tryd.prog 9 unitElem w1.heap.size k D) := HM.out
    by_cases hlt : k < l.length
    · obtain ⟨g', o', rfl, hlc, hc0⟩ := HC.out k hlt
      have hc1 := hc0 wr HB.out
      have hkey := HKy.out k hlt
      have hkI : (k : Int) < (l.length : Int) := by omega
      have HTk : Hid (onceP (l.take (k + 1)) = addW (onceP (l.take k)) l[k]) := once_succ l hlt
      have HLn : Hid ((onceP (l.take k)).length ≤ k) := by
        show _ ≤ _
        have h1 := once_len (l.take k)
        have h2 : (l.take k).length ≤ k := by rw [List.length_take]; omega
        omega
      have hhk := HH.out l[k]
      clear hc0
      generalize l[k] = s at *
      generalize hy : Ba s = y at *
      have HY : Hid (Ba s = y) := hy
      clear hy
      generalize onceP (l.take k) = T at *
      generalize hx1 : onceP (l.take (k + 1)) = T1 at *
      by_cases hm : s ∈ T
      · rw [decide_eq_true hm] at hhk
        have HT : Hid (T1 = T) := by show _ = _; rw [HTk.out]; exact if_pos hm
        clear hm HTk
        go_wp2_with (at_lookup; refine wpList_lookup_own_unit _ rfl _ _ 86 rfl 9 88 lawS Tryd.underlying86 (zeroU _) w1.heap.size k D rfl HM.out _ _ rfl hkey ?_; rw [hhk])
        go_roundw
        case rel => exact ⟨k + 1, by omega, by go_num, by rw [hx1, HT.out]; exact HO.out.below ((Below.refl _ _).alloc (Nat.le_refl _) _), by rw [hx1, HT.out]; exact ⟨D, (HM.out.alloc _).mono (Nat.le_succ _), HH.out⟩, HNn.out, HB.out.alloc HB.out.size _⟩
        case measure => simp [intOf]; omega
      · rw [decide_eq_false hm] at hhk
        have HT : Hid (T1 = T ++ [s]) := by show _ = _; rw [HTk.out]; exact if_neg hm
        have HT0 : Hid (OwnN w.heap.size (wr.alloc (.cells #[] 88)) u3 T) := HO.out.below ((Below.refl _ _).alloc (Nat.le_refl _) _)
        have HM0 : Hid ((wr.alloc (.cells #[] 88)).ownsMap Tryd.prog 9 unitElem w1.heap.size k D) := HM.out.alloc _
        have HB0 : Hid (Below w.heap.size w (wr.alloc (.cells #[] 88))) := HB.out.alloc HB.out.size _
        have HH2 : Hid (∀ t : Bs, Maps.has (D.put (.string s) (.agg [])) (.string t) = decide (t ∈ T ++ [s])) := has_put HM.out.isMap HH.out _
        clear hm HTk HO HM HB HH
        have HLl : Hid (T.length + 1 ≤ 1048576) := by have := HLn.out; show _ ≤ _; omega
        go_wp2_with (first
          | (at_lookup; refine wpList_lookup_own_unit _ rfl _ _ 86 rfl 9 88 lawS Tryd.underlying86 (zeroU _) w1.heap.size k D rfl (by first | exact HM0.out | exact HMr.out) _ _ rfl hkey ?_; rw [hhk])
          | (at_mapUpdate; refine wpList_mapUpdate_own _ rfl _ _ _ 86 rfl 9 88 lawS Tryd.underlying86 (unitElem (H := Unit)) w1.heap.size k D rfl HM0.out (by unfold maxLen; omega) _ _ _ rfl rfl hkey _ [] unitElem_mk ?_; intro w2 hown2 hgrow2)
          | (at_builtin; refine wpList_append_own _ rfl _ _ 26 rfl w.heap.size 9 i0 (.string ⟨#[]⟩) 1 16 Tryd.underlying26 hi hz0 hz1 hz2 rfl (by decide) _ _ _ rfl (World.ownsRow.alloc (World.ownsRow.kept HT0.out hgrow2 (Or.inr (row_map_ne HT0.out HM0.out))) _) ⟨w2.heap.size, 0, none⟩ 1 1 [.string y] rfl rfl (cell_one_new _ _ _) (by simp [Value.oneCell']) (by have := HLl.out; unfold maxLen; omega) (by have := HLl.out; omega) (by have := HB0.out.size; have := hgrow2.size; have := HBs.out; first | omega | (simp; omega)) ?_; intro v' w3 hown' hgrow3 hnil3))
        have HNv : Hid (v' ≠ .slice none 0 0) := fun e => by have := (hnil3.1 e).2; omega
        clear hnil3
        have h0 : OwnN w.heap.size (w2.alloc (.cells #[.string y] 9)) u3 T := World.ownsRow.alloc (World.ownsRow.kept HT0.out hgrow2 (Or.inr (row_map_ne HT0.out HM0.out))) _
        have HO3 : Hid (OwnN w.heap.size w3 v' T1) := by
          show World.ownsRow _ _ _ _ _ _ _
          rw [HT.out, List.length_append, List.map_append]
          have := hown'
          rw [← HY.out] at this
          exact this
        have HM3 : Hid (SetIs w3 w1.heap.size (k + 1) T1) := by
          have h1 := (hown2.alloc (.cells #[.string y] 9)).kept hgrow3 (fun e => row_map_ne h0 (hown2.alloc (.cells #[.string y] 9)) e.symm)
          rw [HT.out]
          exact ⟨_, h1, HH2.out⟩
        have HB3 : Hid (Below w.heap.size w w3) := by
          have b2 := HB0.out.grown hgrow2 HB0.out.size (fun j hj => by injection hj with hj; subst hj; exact HBs.out)
          exact (b2.alloc b2.size _).grown hgrow3 (b2.alloc b2.size _).size (fun j hj => (World.ownsRow.lt h0 j hj).1)
        clear hown' hgrow3 hown2 hgrow2 h0 HT0 HM0 HB0
        go_roundw
        case rel => exact ⟨k + 1, by omega, by go_num, by rw [hx1]; exact HO3.out, by rw [hx1]; exact HM3.out, HNv.out, HB3.out⟩
        case measure => simp [intOf]; omega
    · have hke : k = l.length := by omega
      have HN : Hid (OwnN w.heap.size wr u3 (onceP l)) := by
        have h := HO.out
        rw [hke, List.take_of_length_le (Nat.le_refl _)] at h
        exact h
      have hkI : ¬ ((k : Int) < (l.length : Int)) := by omega
      clear hke HO HM HH HMr
      go_wp2_with fail
      go_ret
      exact ⟨_, rfl, HN.out, HNn.out, HB.out⟩
end Go.Proofs.YtnjjlnhchfoigabDoor
