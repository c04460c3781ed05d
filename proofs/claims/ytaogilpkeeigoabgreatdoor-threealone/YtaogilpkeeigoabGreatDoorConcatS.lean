/- Contracts over this translation of slices.Grow and slices.Concat, at lists of texts. -/
import Derived.Test.YtaogilpkeeigoabGreatDoorInsert
import Derived.Test.YtaogilpkeeigoabGreatDoorThrNm
import Derived.Test.YtaogilpkeeigoabGreatDoorRdList
import Derived.Laws.AppendOwnNone
namespace Go.Proofs.YtaogilpkeeigoabGreatDoor
open Go.RowKit
set_option linter.unusedVariables false
set_option linter.unusedSimpArgs false
theorem grow_fitsS {k : Nat} (h0 : 0 < k) (h : k ≤ 100000) : Builtin.nextslicecap (0 + k) 0 * 16 ≤ 281474976710656 := growslice_fits (by omega) (by omega)
set_option maxRecDepth 100000 in
set_option maxHeartbeats 2000000 in
theorem growS_any (k : Nat) (w : World) (hk : k ≤ 100000) :
    Calls Tryz.prog 114 #[.slice none 0 0, .int .i64 k] w fun e w' => ∃ v, e = .returned v ∧ w'.ownsRow w.heap.size 9 1 v 0 [] ∧ Below w.heap.size w w' := by
  by_cases h0 : k = 0
  · subst h0
    go_enter Tryz.func114, Tryz.ntmps114
    go_wp2_with fail
    go_ret
    exact ⟨_, rfl, World.ownsRow_nil _ _ _ _, Below.refl _ _⟩
  · obtain ⟨i0, hi0, hz0, hzs, hzb⟩ := info_parts info_strN
    have hk0 : 0 < k := by omega
    have hrz := fun ty => Lib.run_append_grow_zeros (P := Tryz.prog) w 34 3 ty 9 i0 _ .i64 .i64 Tryz.underlying34 Tryz.underlying3 hi0 hz0 none 0 0 [] (run_firstCells_none _ _ _ _ _) k hk0 (by rw [hzs]; omega) (by omega) (by omega) (by rw [hzb]; omega) (by rw [hzb]; exact grow_fitsS hk0 hk)
    obtain ⟨GC, hGC⟩ : ∃ GC : Nat, GC = grownCap w (0 + k) 0 9 := ⟨_, rfl⟩
    have hGn : k ≤ GC := by have := grownCap_ge w (0 + k) 0 9; omega
    have hGm : GC ≤ 9223372036854775807 := by
      have := grownCap_le_maxLen w (0 + k) 0 9 (by unfold maxLen; omega)
      rw [← hGC] at this
      unfold maxLen at this
      omega
    rw [← hGC] at hrz
    obtain ⟨R0, hR0⟩ : ∃ R0 : Array Value, R0 = ([] : List Value).toArray ++ Builtin.zeroCells (Value.string ⟨#[]⟩).cells k ++ Builtin.zeroCells (Value.string ⟨#[]⟩).cells (GC - (0 + k)) := ⟨_, rfl⟩
    rw [← hR0] at hrz
    have hR0s : R0.size = GC * 1 := by
      rw [hR0, Array.size_append, Array.size_append, size_zeroCells, size_zeroCells]
      show 0 + k * 1 + (GC - (0 + k)) * 1 = GC * 1
      omega
    have HRZ : Hid (∀ ty, (Builtin.append_ #[34, 3] ty #[.slice none 0 0, .int .i64 (k : Int)]).run Tryz.prog w = .ok (.slice (some ⟨w.heap.size, 0, none⟩) k GC) (w.drew.alloc (.cells R0 9))) := fun ty => by
      have h := hrz ty
      rw [Nat.zero_add] at h
      exact h
    have HN : Hid ((w.drew.alloc (.cells R0 9)).heap[w.heap.size]? = some (.cells R0 9 (0, 0))) := heap_alloc_new w _
    have HB : Hid (Below w.heap.size w (w.drew.alloc (.cells R0 9))) := ((Below.refl _ w).drew).alloc (Nat.le_refl _) _
    have HRs : Hid (R0.size = GC * 1) := hR0s
    have hI : (0 : Int) < (k : Int) := by omega
    clear hrz hR0 hR0s hGC h0
    go_enter Tryz.func114, Tryz.ntmps114
    go_wp2_with (at_builtin; refine Lib.wpList_append_run _ rfl _ _ 34 3 rfl _ _ rfl rfl _ _ (HRZ.out _) ?_)
    go_ret
    exact ⟨_, rfl, ⟨by simp, Or.inr ⟨w.heap.size, GC, R0, rfl, Nat.le_refl _, HN.out, Nat.zero_le _, by unfold maxLen; omega, HRs.out, by simp⟩⟩, HB.out⟩
/-- a slice that is handed in: what its cells hold -/
def PartS (w : World) (pv : Value) (m : Nat) (cs : List Value) : Prop :=
  cs.length = m * 1 ∧ (∀ u ∈ cs, u.oneCell' = true) ∧ ((pv = .slice none 0 0 ∧ m = 0) ∨ ∃ (g o c : Nat), pv = .slice (some ⟨g, o, none⟩) m c ∧ (0 < m → g < w.heap.size) ∧ ∀ (j : Nat) (u : Value), cs[j]? = some u → w.cell? ⟨g, o + j, none⟩ = some u)
theorem PartS.below {w w' : World} {pv : Value} {m : Nat} {cs : List Value} (h : PartS w pv m cs) (hb : Below w.heap.size w w') : PartS w' pv m cs := by
  obtain ⟨h1, h2, h3⟩ := h
  refine ⟨h1, h2, ?_⟩
  rcases h3 with h3 | ⟨g, o, c, h3, h4, h5⟩
  · exact Or.inl h3
  · refine Or.inr ⟨g, o, c, h3, fun h => by have := h4 h; have := hb.size; omega, fun j u hj => ?_⟩
    have hlt : j < cs.length := (List.getElem?_eq_some_iff.1 hj).1
    rw [hb.cell (p := ⟨g, o + j, none⟩) (h4 (by
      rcases Nat.eq_zero_or_pos m with rfl | h
      · rw [Nat.zero_mul] at h1; omega
      · exact h))]
    exact h5 j u hj
theorem PartS.shape {w : World} {pv : Value} {m : Nat} {cs : List Value} (h : PartS w pv m cs) : ∃ q c, pv = .slice q m c := by
  rcases h.2.2 with ⟨rfl, rfl⟩ | ⟨g, o, c, rfl, _⟩
  · exact ⟨_, _, rfl⟩
  · exact ⟨_, _, rfl⟩
/-- several of them -/
def PartsS (w : World) : List (Value × Nat × List Value) → Prop := fun l => ∀ p ∈ l, PartS w p.1 p.2.1 p.2.2
def manyS (l : List (Value × Nat × List Value)) : Nat := (l.map fun p => p.2.1).sum
def allS (l : List (Value × Nat × List Value)) : List Value := (l.map fun p => p.2.2).flatten
theorem manyS_snoc (l : List (Value × Nat × List Value)) (p : Value × Nat × List Value) : manyS (l ++ [p]) = manyS l + p.2.1 := by simp [manyS]
theorem allS_snoc (l : List (Value × Nat × List Value)) (p : Value × Nat × List Value) : allS (l ++ [p]) = allS l ++ p.2.2 := by simp [allS]
theorem manyS_take (l : List (Value × Nat × List Value)) (k : Nat) : manyS (l.take k) ≤ manyS l := by
  have h : manyS l = manyS (l.take k) + manyS (l.drop k) := by
    unfold manyS
    rw [← List.sum_append, ← List.map_append, List.take_append_drop]
  omega
set_option maxRecDepth 100000 in
set_option maxHeartbeats 4000000 in
theorem concatS_any (l : List (Value × Nat × List Value)) (gg cc : Nat) (w : World) (hl : l.length ≤ 10) (hcc : l.length ≤ cc) (hccm : cc ≤ maxLen) (hgg : gg < w.heap.size) (hcell : ∀ (j : Nat) (p : Value × Nat × List Value), l[j]? = some p → w.cell? ⟨gg, j, none⟩ = some p.1) (hP : PartsS w l) (hm : manyS l ≤ 100000) :
    Calls Tryz.prog 70 #[.slice (some ⟨gg, 0, none⟩) l.length cc] w fun e w' => ∃ v, e = .returned v ∧ w'.ownsRow w.heap.size 9 1 v (manyS l) (allS l) ∧ Below w.heap.size w w' := by
  obtain ⟨i0, hi, hz0, hz1, hz2⟩ := info_parts info_strN
  unfold maxLen at hccm
  have HC : Hid (∀ w1, Below w.heap.size w w1 → ∀ k (hk : k < l.length), w1.cell? ⟨gg, k, none⟩ = some l[k].1 ∧ PartS w1 l[k].1 l[k].2.1 l[k].2.2) := by
    intro w1 hb k hk
    exact ⟨by rw [hb.cell (p := ⟨gg, k, none⟩) hgg]; exact hcell k _ (List.getElem?_eq_getElem hk), (hP _ (List.getElem_mem hk)).below hb⟩
  have HT : Hid (∀ k (hk : k < l.length), manyS (l.take (k + 1)) = manyS (l.take k) + l[k].2.1 ∧ allS (l.take (k + 1)) = allS (l.take k) ++ l[k].2.2) := fun k hk => by
    rw [List.take_succ_eq_append_getElem hk, manyS_snoc, allS_snoc]
    exact ⟨rfl, rfl⟩
  have HM : Hid (∀ k, manyS (l.take k) ≤ 100000) := fun k => Nat.le_trans (manyS_take l k) hm
  have HAll : Hid (∀ k, l.length ≤ k → l.take k = l) := fun k hk => List.take_of_length_le hk
  clear hcell hP
  go_enter Tryz.func70, Tryz.ntmps70
  go_wp2_with fail
  go_loopw [3, 11] (fun x i wr => ∃ k : Nat, k ≤ l.length ∧ i = .int .i64 k ∧ x = .int .i64 (manyS (l.take k)) ∧ wr = w) (fun _ i _ => l.length - (intOf i).toNat)
  case atStart => exact ⟨0, Nat.zero_le _, rfl, rfl, rfl⟩
  case round =>
    obtain ⟨k, hk, rfl, rfl, hw⟩ := hrel
    have hw := hw.symm
    subst hw
    have hmk := HM.out k
    by_cases hlt : k < l.length
    · obtain ⟨hc, hp⟩ := HC.out w (Below.refl _ _) k hlt
      obtain ⟨q, c, hq⟩ := hp.shape
      rw [hq] at hc
      have ht := (HT.out k hlt).1
      have hmk1 := HM.out (k + 1)
      obtain ⟨x, hx⟩ : ∃ x, manyS (l.take k) = x := ⟨_, rfl⟩
      obtain ⟨z, hz⟩ : ∃ z, l[k].2.1 = z := ⟨_, rfl⟩
      rw [hx, hz] at ht
      rw [hx] at hmk ⊢
      rw [hz] at hc
      have HTk : Hid (manyS (l.take (k + 1)) = x + z) := ht
      have hb1 : z ≤ 100000 := by omega
      clear ht hp hq hx hz hmk1
      go_wp2_with fail
      go_roundw
      case rel => exact ⟨k + 1, by omega, by go_num, by rw [HTk.out]; go_num, trivial⟩
      case measure => simp [intOf]; omega
    · have hta := HAll.out k (by omega)
      rw [hta] at hmk ⊢
      obtain ⟨tot, htot⟩ : ∃ tot, manyS l = tot := ⟨_, rfl⟩
      rw [htot] at hmk ⊢
      have HTot : Hid (manyS l = tot) := htot
      clear htot hta hm
      go_wp2_with fail
      refine (growS_any tot _ hmk).mono ?_
      rintro e w1 ⟨v1, rfl, hown, b1⟩
      have HO1 : Hid (w1.ownsRow w.heap.size 9 1 v1 0 []) := hown
      have HB1 : Hid (Below w.heap.size w w1) := b1
      clear hown b1
      go_wp2_with fail
      go_loopw [6, 27] (fun x i wr => ∃ k : Nat, k ≤ l.length ∧ i = .int .i64 k ∧ wr.ownsRow w.heap.size 9 1 x (manyS (l.take k)) (allS (l.take k)) ∧ Below w.heap.size w wr) (fun _ i _ => l.length - (intOf i).toNat)
      case atStart => exact ⟨0, Nat.zero_le _, rfl, HO1.out, HB1.out⟩
      case round =>
        obtain ⟨k, hk, rfl, hown, hbel⟩ := hrel
        have HO : Hid (wr.ownsRow w.heap.size 9 1 u6 (manyS (l.take k)) (allS (l.take k))) := hown
        have HB : Hid (Below w.heap.size w wr) := hbel
        have hmk2 := HM.out k
        have hBr := hbel.size
        clear hown hbel
        by_cases hlt2 : k < l.length
        · obtain ⟨hc, hp⟩ := HC.out wr HB.out k hlt2
          have hmk3 := HM.out (k + 1)
          obtain ⟨ht1, ht2⟩ := HT.out k hlt2
          have HT1 : Hid (manyS (l.take (k + 1)) = manyS (l.take k) + l[k].2.1) := ht1
          have HT2 : Hid (allS (l.take (k + 1)) = allS (l.take k) ++ l[k].2.2) := ht2
          have hzb : l[k].2.1 ≤ 100000 := by omega
          obtain ⟨hcl, hc1, hsh⟩ := hp
          clear ht1 ht2 hmk3
          rcases hsh with ⟨hpv, hm0⟩ | ⟨g, o, c, hpv, hgl, hcs⟩
          · have hn : l[k].2.2 = [] := List.eq_nil_of_length_eq_zero (by rw [hcl, hm0, Nat.zero_mul])
            rw [hpv] at hc
            have HO2 : Hid (wr.ownsRow w.heap.size 9 1 u6 (manyS (l.take (k + 1))) (allS (l.take (k + 1)))) := by
              show wr.ownsRow _ _ _ _ _ _
              rw [HT1.out, HT2.out, hn, hm0, Nat.add_zero, List.append_nil]
              exact HO.out
            clear hcl hc1 hpv hm0 hn
            go_wp2_with (at_builtin; refine wpList_append_own_none rfl _ _ 34 rfl w.heap.size 9 i0 1 Tryz.underlying34 hi _ _ _ rfl HO.out rfl ?_)
            go_roundw
            case rel => exact ⟨k + 1, by omega, by go_num, HO2.out, HB.out⟩
            case measure => simp [intOf]; omega
          · rw [hpv] at hc
            have HN : Hid (∀ (j : Nat) (u : Value), l[k].2.2[j]? = some u → wr.cell? ((⟨g, o, none⟩ : Addr).add j) = some u) := fun j u hj => by
              rw [Addr.add_lit]
              exact hcs j u hj
            have H1 : Hid (∀ u ∈ l[k].2.2, u.oneCell' = true) := hc1
            have HLn : Hid (l[k].2.2.length = l[k].2.1 * 1) := hcl
            clear hcl hc1 hpv hcs
            go_wp2_with (at_builtin; refine wpList_append_own _ rfl _ _ 34 rfl w.heap.size 9 i0 (Value.string ⟨#[]⟩) 1 16 Tryz.underlying34 hi hz0 hz1 hz2 rfl (by decide) _ _ _ rfl HO.out ⟨g, o, none⟩ l[k].2.1 c l[k].2.2 rfl HLn.out HN.out H1.out (by unfold maxLen; omega) (by omega) hBr ?_)
            intro v' w3 hown' hgrow _
            have HO2 : Hid (w3.ownsRow w.heap.size 9 1 v' (manyS (l.take (k + 1))) (allS (l.take (k + 1)))) := by
              show w3.ownsRow _ _ _ _ _ _
              rw [HT1.out, HT2.out]
              exact hown'
            have HB2 : Hid (Below w.heap.size w w3) := HB.out.grown hgrow hBr (fun b hb => (World.ownsRow.lt HO.out b hb).1)
            clear hown' hgrow
            go_wp2_with fail
            go_roundw
            case rel => exact ⟨k + 1, by omega, by go_num, HO2.out, HB2.out⟩
            case measure => simp [intOf]; omega
        · have hta := HAll.out k (by omega)
          have HO3 : Hid (wr.ownsRow w.heap.size 9 1 u6 (manyS l) (allS l)) := by
            have h := HO.out
            rw [hta] at h
            exact h
          go_wp2_with fail
          go_ret
          exact ⟨u6, rfl, HO3.out, HB.out⟩
end Go.Proofs.YtaogilpkeeigoabGreatDoor
