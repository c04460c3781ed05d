/- Several texts in one: ConcatL, PtrPutL, ConcatO, PtrPutO, PtrPut. -/
import Derived.Test.YthdgfehfoidnbabGreatDoorM06
import Derived.Test.YthdgfehfoidnbabGreatDoorM05
import Derived.Laws.AppendOwnNone
import Derived.Test.YthdgfehfoidnbabGreatDoorM09
import Derived.Deep.RegionWith
import Derived.RegionTactic
/- Contracts over this translation of slices.Grow and slices.Concat, at lists of values. -/
namespace Go.Proofs.YthdgfehfoidnbabGreatDoor
open Go.RowKit
set_option linter.unusedVariables false
set_option linter.unusedSimpArgs false
theorem grow_fitsL {k : Nat} (h0 : 0 < k) (h : k ≤ 100000) : Builtin.nextslicecap (0 + k) 0 * 16 ≤ 281474976710656 := growslice_fits (by omega) (by omega)
set_option maxRecDepth 100000 in
set_option maxHeartbeats 2000000 in
theorem growL_any (k : Nat) (w : World) (hk : k ≤ 100000) :
    Calls Tryz.prog 63 #[.slice none 0 0, .int .i64 k] w fun e w' => ∃ v, e = .returned v ∧ w'.ownsRow w.heap.size 36 1 v 0 [] ∧ Below w.heap.size w w' := by
  by_cases h0 : k = 0
  · subst h0
    go_enter Tryz.func63, Tryz.ntmps63
    go_wp2_with fail
    go_ret
    exact ⟨_, rfl, World.ownsRow_nil _ _ _ _, Below.refl _ _⟩
  · obtain ⟨i0, hi0, hz0, hzs, hzb⟩ := info_parts info_val
    have hk0 : 0 < k := by omega
    have hrz := fun ty => Lib.run_append_grow_zeros (P := Tryz.prog) w 69 3 ty 36 i0 _ .i64 .i64 Tryz.underlying69 Tryz.underlying3 hi0 hz0 none 0 0 [] (run_firstCells_none _ _ _ _ _) k hk0 (by rw [hzs]; omega) (by omega) (by omega) (by rw [hzb]; omega) (by rw [hzb]; exact grow_fitsL hk0 hk)
    obtain ⟨GC, hGC⟩ : ∃ GC : Nat, GC = grownCap w (0 + k) 0 36 := ⟨_, rfl⟩
    have hGn : k ≤ GC := by have := grownCap_ge w (0 + k) 0 36; omega
    have hGm : GC ≤ 9223372036854775807 := by
      have := grownCap_le_maxLen w (0 + k) 0 36 (by unfold maxLen; omega)
      rw [← hGC] at this
      unfold maxLen at this
      omega
    rw [← hGC] at hrz
    obtain ⟨R0, hR0⟩ : ∃ R0 : Array Value, R0 = ([] : List Value).toArray ++ Builtin.zeroCells (Value.nilIface).cells k ++ Builtin.zeroCells (Value.nilIface).cells (GC - (0 + k)) := ⟨_, rfl⟩
    rw [← hR0] at hrz
    have hR0s : R0.size = GC * 1 := by
      rw [hR0, Array.size_append, Array.size_append, size_zeroCells, size_zeroCells]
      show 0 + k * 1 + (GC - (0 + k)) * 1 = GC * 1
      omega
    have HRZ : Hid (∀ ty, (Builtin.append_ #[69, 3] ty #[.slice none 0 0, .int .i64 (k : Int)]).run Tryz.prog w = .ok (.slice (some ⟨w.heap.size, 0, none⟩) k GC) (w.drew.alloc (.cells R0 36))) := fun ty => by
      have h := hrz ty
      rw [Nat.zero_add] at h
      exact h
    have HN : Hid ((w.drew.alloc (.cells R0 36)).heap[w.heap.size]? = some (.cells R0 36 (0, 0))) := heap_alloc_new w _
    have HB : Hid (Below w.heap.size w (w.drew.alloc (.cells R0 36))) := ((Below.refl _ w).drew).alloc (Nat.le_refl _) _
    have HRs : Hid (R0.size = GC * 1) := hR0s
    have hI : (0 : Int) < (k : Int) := by omega
    clear hrz hR0 hR0s hGC h0
    go_enter Tryz.func63, Tryz.ntmps63
    go_wp2_with (at_builtin; refine Lib.wpList_append_run _ rfl _ _ 69 3 rfl _ _ rfl rfl _ _ (HRZ.out _) ?_)
    go_ret
    exact ⟨_, rfl, ⟨by simp, Or.inr ⟨w.heap.size, GC, R0, rfl, Nat.le_refl _, HN.out, Nat.zero_le _, by unfold maxLen; omega, HRs.out, by simp⟩⟩, HB.out⟩
/-- a slice that is handed in: what its cells hold -/
def PartL (w : World) (pv : Value) (m : Nat) (cs : List Value) : Prop :=
  cs.length = m * 1 ∧ (∀ u ∈ cs, u.oneCell' = true) ∧ ((pv = .slice none 0 0 ∧ m = 0) ∨ ∃ (g o c : Nat), pv = .slice (some ⟨g, o, none⟩) m c ∧ (0 < m → g < w.heap.size) ∧ ∀ (j : Nat) (u : Value), cs[j]? = some u → w.cell? ⟨g, o + j, none⟩ = some u)
theorem PartL.below {w w' : World} {pv : Value} {m : Nat} {cs : List Value} (h : PartL w pv m cs) (hb : Below w.heap.size w w') : PartL w' pv m cs := by
  obtain ⟨h1, h2, h3⟩ := h
  refine ⟨h1, h2, ?_⟩
  rcases h3 with h3 | ⟨g, o, c, h3, h4, h5⟩
  · exact Or.inl h3
  · refine Or.inr ⟨g, o, c, h3, fun h => by have := h4 h; have := hb.size; omega, fun j u hj => ?_⟩
    have hlt : j < cs.length := (List.getElem?_eq_some_iff.1 hj).1
    rw [hb.cell (p := ⟨g, o + j, none⟩) (h4 (by
      rcases Nat.eq_zero_or_pos m with rfl | h
      · rw [Nat.zero_mul] at h1; omega
      · exact h))]
    exact h5 j u hj
theorem PartL.shape {w : World} {pv : Value} {m : Nat} {cs : List Value} (h : PartL w pv m cs) : ∃ q c, pv = .slice q m c := by
  rcases h.2.2 with ⟨rfl, rfl⟩ | ⟨g, o, c, rfl, _⟩
  · exact ⟨_, _, rfl⟩
  · exact ⟨_, _, rfl⟩
/-- several of them -/
def PartsL (w : World) : List (Value × Nat × List Value) → Prop := fun l => ∀ p ∈ l, PartL w p.1 p.2.1 p.2.2
def manyL (l : List (Value × Nat × List Value)) : Nat := (l.map fun p => p.2.1).sum
def allL (l : List (Value × Nat × List Value)) : List Value := (l.map fun p => p.2.2).flatten
theorem manyL_snoc (l : List (Value × Nat × List Value)) (p : Value × Nat × List Value) : manyL (l ++ [p]) = manyL l + p.2.1 := by simp [manyL]
theorem allL_snoc (l : List (Value × Nat × List Value)) (p : Value × Nat × List Value) : allL (l ++ [p]) = allL l ++ p.2.2 := by simp [allL]
theorem manyL_take (l : List (Value × Nat × List Value)) (k : Nat) : manyL (l.take k) ≤ manyL l := by
  have h : manyL l = manyL (l.take k) + manyL (l.drop k) := by
    unfold manyL
    rw [← List.sum_append, ← List.map_append, List.take_append_drop]
  omega
set_option maxRecDepth 100000 in
set_option maxHeartbeats 4000000 in
theorem concatL_any (l : List (Value × Nat × List Value)) (gg cc : Nat) (w : World) (hl : l.length ≤ 10) (hcc : l.length ≤ cc) (hccm : cc ≤ maxLen) (hgg : gg < w.heap.size) (hcell : ∀ (j : Nat) (p : Value × Nat × List Value), l[j]? = some p → w.cell? ⟨gg, j, none⟩ = some p.1) (hP : PartsL w l) (hm : manyL l ≤ 100000) :
    Calls Tryz.prog 41 #[.slice (some ⟨gg, 0, none⟩) l.length cc] w fun e w' => ∃ v, e = .returned v ∧ w'.ownsRow w.heap.size 36 1 v (manyL l) (allL l) ∧ Below w.heap.size w w' := by
  obtain ⟨i0, hi, hz0, hz1, hz2⟩ := info_parts info_val
  unfold maxLen at hccm
  have HC : Hid (∀ w1, Below w.heap.size w w1 → ∀ k (hk : k < l.length), w1.cell? ⟨gg, k, none⟩ = some l[k].1 ∧ PartL w1 l[k].1 l[k].2.1 l[k].2.2) := by
    intro w1 hb k hk
    exact ⟨by rw [hb.cell (p := ⟨gg, k, none⟩) hgg]; exact hcell k _ (List.getElem?_eq_getElem hk), (hP _ (List.getElem_mem hk)).below hb⟩
  have HT : Hid (∀ k (hk : k < l.length), manyL (l.take (k + 1)) = manyL (l.take k) + l[k].2.1 ∧ allL (l.take (k + 1)) = allL (l.take k) ++ l[k].2.2) := fun k hk => by
    rw [List.take_succ_eq_append_getElem hk, manyL_snoc, allL_snoc]
    exact ⟨rfl, rfl⟩
  have HM : Hid (∀ k, manyL (l.take k) ≤ 100000) := fun k => Nat.le_trans (manyL_take l k) hm
  have HAll : Hid (∀ k, l.length ≤ k → l.take k = l) := fun k hk => List.take_of_length_le hk
  clear hcell hP
  go_enter Tryz.func41, Tryz.ntmps41
  go_wp2_with fail
  go_loopw [3, 11] (fun x i wr => ∃ k : Nat, k ≤ l.length ∧ i = .int .i64 k ∧ x = .int .i64 (manyL (l.take k)) ∧ wr = w) (fun _ i _ => l.length - (intOf i).toNat)
  case atStart => exact ⟨0, Nat.zero_le _, rfl, rfl, rfl⟩
  case round =>
    obtain ⟨k, hk, rfl, rfl, hw⟩ := hrel
    have hw := hw.symm
    subst hw
    have hmk := HM.out k
    by_cases hlt : k < l.length
    · obtain ⟨hc, hp⟩ := HC.out w (Below.refl _ _) k hlt
      obtain ⟨q, c, hq⟩ := hp.shape
      rw [hq] at hc
      have ht := (HT.out k hlt).1
      have hmk1 := HM.out (k + 1)
      obtain ⟨x, hx⟩ : ∃ x, manyL (l.take k) = x := ⟨_, rfl⟩
      obtain ⟨z, hz⟩ : ∃ z, l[k].2.1 = z := ⟨_, rfl⟩
      rw [hx, hz] at ht
      rw [hx] at hmk ⊢
      rw [hz] at hc
      have HTk : Hid (manyL (l.take (k + 1)) = x + z) := ht
      have hb1 : z ≤ 100000 := by omega
      clear ht hp hq hx hz hmk1
      go_wp2_with fail
      go_roundw
      case rel => exact ⟨k + 1, by omega, by go_num, by rw [HTk.out]; go_num, trivial⟩
      case measure => simp [intOf]; omega
    · have hta := HAll.out k (by omega)
      rw [hta] at hmk ⊢
      obtain ⟨tot, htot⟩ : ∃ tot, manyL l = tot := ⟨_, rfl⟩
      rw [htot] at hmk ⊢
      have HTot : Hid (manyL l = tot) := htot
      clear htot hta hm
      go_wp2_with fail
      refine (growL_any tot _ hmk).mono ?_
      rintro e w1 ⟨v1, rfl, hown, b1⟩
      have HO1 : Hid (w1.ownsRow w.heap.size 36 1 v1 0 []) := hown
      have HB1 : Hid (Below w.heap.size w w1) := b1
      clear hown b1
      go_wp2_with fail
      go_loopw [6, 27] (fun x i wr => ∃ k : Nat, k ≤ l.length ∧ i = .int .i64 k ∧ wr.ownsRow w.heap.size 36 1 x (manyL (l.take k)) (allL (l.take k)) ∧ Below w.heap.size w wr) (fun _ i _ => l.length - (intOf i).toNat)
      case atStart => exact ⟨0, Nat.zero_le _, rfl, HO1.out, HB1.out⟩
      case round =>
        obtain ⟨k, hk, rfl, hown, hbel⟩ := hrel
        have HO : Hid (wr.ownsRow w.heap.size 36 1 u6 (manyL (l.take k)) (allL (l.take k))) := hown
        have HB : Hid (Below w.heap.size w wr) := hbel
        have hmk2 := HM.out k
        have hBr := hbel.size
        clear hown hbel
        by_cases hlt2 : k < l.length
        · obtain ⟨hc, hp⟩ := HC.out wr HB.out k hlt2
          have hmk3 := HM.out (k + 1)
          obtain ⟨ht1, ht2⟩ := HT.out k hlt2
          have HT1 : Hid (manyL (l.take (k + 1)) = manyL (l.take k) + l[k].2.1) := ht1
          have HT2 : Hid (allL (l.take (k + 1)) = allL (l.take k) ++ l[k].2.2) := ht2
          have hzb : l[k].2.1 ≤ 100000 := by omega
          obtain ⟨hcl, hc1, hsh⟩ := hp
          clear ht1 ht2 hmk3
          rcases hsh with ⟨hpv, hm0⟩ | ⟨g, o, c, hpv, hgl, hcs⟩
          · have hn : l[k].2.2 = [] := List.eq_nil_of_length_eq_zero (by rw [hcl, hm0, Nat.zero_mul])
            rw [hpv] at hc
            have HO2 : Hid (wr.ownsRow w.heap.size 36 1 u6 (manyL (l.take (k + 1))) (allL (l.take (k + 1)))) := by
              show wr.ownsRow _ _ _ _ _ _
              rw [HT1.out, HT2.out, hn, hm0, Nat.add_zero, List.append_nil]
              exact HO.out
            clear hcl hc1 hpv hm0 hn
            go_wp2_with (at_builtin; refine wpList_append_own_none rfl _ _ 69 rfl w.heap.size 36 i0 1 Tryz.underlying69 hi _ _ _ rfl HO.out rfl ?_)
            go_roundw
            case rel => exact ⟨k + 1, by omega, by go_num, HO2.out, HB.out⟩
            case measure => simp [intOf]; omega
          · rw [hpv] at hc
            have HN : Hid (∀ (j : Nat) (u : Value), l[k].2.2[j]? = some u → wr.cell? ((⟨g, o, none⟩ : Addr).add j) = some u) := fun j u hj => by
              rw [Addr.add_lit]
              exact hcs j u hj
            have H1 : Hid (∀ u ∈ l[k].2.2, u.oneCell' = true) := hc1
            have HLn : Hid (l[k].2.2.length = l[k].2.1 * 1) := hcl
            clear hcl hc1 hpv hcs
            go_wp2_with (at_builtin; refine wpList_append_own _ rfl _ _ 69 rfl w.heap.size 36 i0 (Value.nilIface) 1 16 Tryz.underlying69 hi hz0 hz1 hz2 rfl (by decide) _ _ _ rfl HO.out ⟨g, o, none⟩ l[k].2.1 c l[k].2.2 rfl HLn.out HN.out H1.out (by unfold maxLen; omega) (by omega) hBr ?_)
            intro v' w3 hown' hgrow _
            have HO2 : Hid (w3.ownsRow w.heap.size 36 1 v' (manyL (l.take (k + 1))) (allL (l.take (k + 1)))) := by
              show w3.ownsRow _ _ _ _ _ _
              rw [HT1.out, HT2.out]
              exact hown'
            have HB2 : Hid (Below w.heap.size w w3) := HB.out.grown hgrow hBr (fun b hb => (World.ownsRow.lt HO.out b hb).1)
            clear hown' hgrow
            go_wp2_with fail
            go_roundw
            case rel => exact ⟨k + 1, by omega, by go_num, HO2.out, HB2.out⟩
            case measure => simp [intOf]; omega
        · have hta := HAll.out k (by omega)
          have HO3 : Hid (wr.ownsRow w.heap.size 36 1 u6 (manyL l) (allL l)) := by
            have h := HO.out
            rw [hta] at h
            exact h
          go_wp2_with fail
          go_ret
          exact ⟨u6, rfl, HO3.out, HB.out⟩
end Go.Proofs.YthdgfehfoidnbabGreatDoor
/- Contracts over this translation: what is put into a list. -/
namespace Go.Proofs.YthdgfehfoidnbabGreatDoor
open Go.RowKit
set_option linter.unusedVariables false
set_option linter.unusedSimpArgs false
/-- a value in memory that nobody writes any more -/
abbrev S0 (w : World) (n : Nat) (j : J n) (v : Value) : Prop := St (fun _ => False) w n j v
theorem St.s0 {av : Nat → Prop} {w : World} {n : Nat} {j : J n} {v : Value} (h : St av w n j v) : S0 w n j v := h.mono (fun c _ hf => hf.elim)
/-- the values of a list in memory -/
def Items {n : Nat} (w : World) (ys : List (J n)) (us : List Value) : Prop := us.length = ys.length ∧ (∀ u ∈ us, u.oneCell' = true) ∧ ∀ (i : Nat) (y : J n) (u : Value), ys[i]? = some y → us[i]? = some u → S0 w n y u
theorem Items.below {n : Nat} {w w' : World} {ys : List (J n)} {us : List Value} (h : Items w ys us) (hb : Below w.heap.size w w') : Items w' ys us :=
  ⟨h.1, h.2.1, fun i y u hy hu => (h.2.2 i y u hy hu).on hb⟩
theorem Items.take {n : Nat} {w : World} {ys : List (J n)} {us : List Value} (h : Items w ys us) (k : Nat) : Items w (ys.take k) (us.take k) := by
  refine ⟨by simp [h.1], fun u hu => h.2.1 u (List.mem_of_mem_take hu), fun i y u hy hu => ?_⟩
  rw [List.getElem?_take] at hy hu
  split at hy
  · rename_i hlt
    rw [if_pos hlt] at hu
    exact h.2.2 i y u hy hu
  · cases hy
theorem Items.drop {n : Nat} {w : World} {ys : List (J n)} {us : List Value} (h : Items w ys us) (k : Nat) : Items w (ys.drop k) (us.drop k) := by
  refine ⟨by simp [h.1], fun u hu => h.2.1 u (List.mem_of_mem_drop hu), fun i y u hy hu => ?_⟩
  rw [List.getElem?_drop] at hy hu
  exact h.2.2 _ y u hy hu
theorem Items.append {n : Nat} {w : World} {ys zs : List (J n)} {us ts : List Value} (h : Items w ys us) (g : Items w zs ts) : Items w (ys ++ zs) (us ++ ts) := by
  refine ⟨by simp [h.1, g.1], fun u hu => ?_, fun i y u hy hu => ?_⟩
  · rcases List.mem_append.1 hu with hu | hu
    · exact h.2.1 u hu
    · exact g.2.1 u hu
  · rcases Nat.lt_or_ge i ys.length with hlt | hge
    · rw [List.getElem?_append_left hlt] at hy
      rw [List.getElem?_append_left (by rw [h.1]; exact hlt)] at hu
      exact h.2.2 i y u hy hu
    · rw [List.getElem?_append_right hge] at hy
      rw [List.getElem?_append_right (by rw [h.1]; exact hge), h.1] at hu
      exact g.2.2 _ y u hy hu
theorem items_one {n : Nat} {w : World} {y : J n} {T : TypeId} {x : Value} (h : S0 w n y (.iface T x)) : Items w [y] [.iface T x] := by
  refine ⟨rfl, fun u hu => by simp at hu; subst hu; rfl, fun i z u hz hu => ?_⟩
  cases i with
  | zero =>
    simp at hz hu
    subst hz; subst hu
    exact h
  | succ i => simp at hz
/-- a list in memory, its values beside it -/
theorem St.items {av : Nat → Prop} {w : World} {n : Nat} {xs : List (J n)} {v : Value} (h : St av w (n + 1) (Sum.inr (Sum.inl xs)) v) : ∃ (p : Option Addr) (g cap : Nat) (us : List Value), v = .iface 69 (.slice p xs.length cap) ∧ ((p = none ∧ xs = [] ∧ cap = 0) ∨ (p = some ⟨g, 0, none⟩ ∧ g < w.heap.size)) ∧ xs.length ≤ cap ∧ cap ≤ maxLen ∧ Items w xs us ∧ ∀ (i : Nat) (u : Value), us[i]? = some u → w.cell? ⟨g, i, none⟩ = some u := by
  rcases h with ⟨rfl, rfl⟩ | ⟨g, cap, vs, hv, hl, hc, hm, hg, hlt, hcell, hel⟩
  · exact ⟨none, 0, 0, [], rfl, Or.inl ⟨rfl, rfl, rfl⟩, Nat.le_refl _, Nat.zero_le _, ⟨rfl, fun u hu => by simp at hu, fun i y u hy => by simp at hy⟩, fun i u hu => by simp at hu⟩
  · refine ⟨_, g, cap, vs, hv, Or.inr ⟨rfl, hlt⟩, hc, hm, ⟨hl, fun u hu => ?_, fun i y u hy hu => (hel i y u hy hu).s0⟩, hcell⟩
    obtain ⟨i, hi, rfl⟩ := List.getElem_of_mem hu
    obtain ⟨T, x, hx⟩ := st_iface (hel i xs[i] vs[i] (List.getElem?_eq_getElem (by omega)) (List.getElem?_eq_getElem hi))
    rw [hx]
    rfl
theorem own_base {w : World} {B b size m : Nat} {e : TypeId} {v : Value} {xs : List Value} (h : w.ownsRow b e size v m xs) (hb : B ≤ b) : w.ownsRow B e size v m xs := by
  obtain ⟨h1, h2⟩ := h
  refine ⟨h1, ?_⟩
  rcases h2 with h2 | ⟨g, cap, cur, h3, h4, h5⟩
  · exact Or.inl h2
  · exact Or.inr ⟨g, cap, cur, h3, by omega, h5⟩
theorem own_shape {w : World} {b size m : Nat} {e : TypeId} {v : Value} {xs : List Value} (h : w.ownsRow b e size v m xs) : ∃ q k cc, v = .slice q k cc := by
  rcases h.2 with ⟨rfl, _⟩ | ⟨g, cap, cur, rfl, _⟩
  · exact ⟨_, _, _, rfl⟩
  · exact ⟨_, _, _, rfl⟩
theorem st_of_ownsL {n B m : Nat} {w : World} {ys : List (J n)} {us : List Value} {v : Value} (h : w.ownsRow B 36 1 v m us) (hm : m = ys.length) (hi : Items w ys us) : S0 w (n + 1) (Sum.inr (Sum.inl ys)) (.iface 69 v) := by
  subst hm
  obtain ⟨_, h2⟩ := h
  rcases h2 with ⟨rfl, h0⟩ | ⟨g, cap, cur, rfl, hb, hh, h1, h3, h4, h5⟩
  · exact Or.inl ⟨List.eq_nil_of_length_eq_zero h0, rfl⟩
  · refine Or.inr ⟨g, cap, us, rfl, hi.1, h1, h3, fun hf => hf, lt_of_block hh, fun i u hu => ?_, hi.2.2⟩
    rw [cell_of_row _ _ _ _ _ _ hh]
    have hlt : i < us.length := (List.getElem?_eq_some_iff.1 hu).1
    have h6 : (cur.toList.take (ys.length * 1))[i]? = us[i]? := by rw [h5]
    rw [List.getElem?_take, if_pos (by have := hi.1; omega), Array.getElem?_toList, hu] at h6
    exact h6
theorem part_takeL {w : World} {g n cap k : Nat} {us : List Value} (hg : g < w.heap.size) (hl : us.length = n) (h1 : ∀ u ∈ us, u.oneCell' = true) (hc : ∀ (i : Nat) (u : Value), us[i]? = some u → w.cell? ⟨g, i, none⟩ = some u) (hk : k ≤ n) : PartL w (.slice (some ⟨g, 0, none⟩) k cap) k (us.take k) := by
  refine ⟨by rw [List.length_take, hl]; omega, fun u hu => h1 u (List.mem_of_mem_take hu), Or.inr ⟨g, 0, cap, rfl, fun _ => hg, fun j u hj => ?_⟩⟩
  rw [List.getElem?_take] at hj
  split at hj
  · rw [Nat.zero_add]
    exact hc j u hj
  · cases hj
theorem part_dropL {w : World} {g n cap k : Nat} {us : List Value} (hg : g < w.heap.size) (hl : us.length = n) (h1 : ∀ u ∈ us, u.oneCell' = true) (hc : ∀ (i : Nat) (u : Value), us[i]? = some u → w.cell? ⟨g, i, none⟩ = some u) (hk : k ≤ n) : PartL w (.slice (some ⟨g, k, none⟩) (n - k) cap) (n - k) (us.drop k) := by
  refine ⟨by rw [List.length_drop, hl]; omega, fun u hu => h1 u (List.mem_of_mem_drop hu), Or.inr ⟨g, k, cap, rfl, fun _ => hg, fun j u hj => ?_⟩⟩
  rw [List.getElem?_drop] at hj
  exact hc _ u hj
theorem part_endL {w : World} {g o cap : Nat} : PartL w (.slice (some ⟨g, o, none⟩) 0 cap) 0 [] :=
  ⟨rfl, fun u hu => by simp at hu, Or.inr ⟨g, o, cap, rfl, fun h => absurd h (Nat.lt_irrefl _), fun j u hj => by simp at hj⟩⟩
theorem part_nilL {w : World} : PartL w (.slice none 0 0) 0 [] := ⟨rfl, fun u hu => by simp at hu, Or.inl ⟨rfl, rfl⟩⟩
theorem part_newL {w : World} {g : Nat} {T : TypeId} {x : Value} (h : w.cell? ⟨g, 0, none⟩ = some (.iface T x)) (hg : g < w.heap.size) : PartL w (.slice (some ⟨g, 0, none⟩) 1 1) 1 [.iface T x] := by
  refine ⟨rfl, fun u hu => by simp at hu; subst hu; rfl, Or.inr ⟨g, 0, 1, rfl, fun _ => hg, fun j u hj => ?_⟩⟩
  cases j with
  | zero =>
    simp at hj
    subst hj
    exact h
  | succ j => simp at hj
theorem wrap_nat (n : Nat) (h : n ≤ 9223372036854775807) : IntKind.i64.wrap (n : Int) = (n : Int) := by
  rw [IntKind.wrap_i64]
  omega
/-- three slices put together, their own slice at block gg -/
theorem concat3L (B : Nat) (w0 w : World) (p q r : Value) (a b c : Nat) (x y z : List Value) (gg : Nat) (h0 : w0.heap.size = B) (hb : Below B w0 w) (hg : w.heap[gg]? = some (.cells #[p, q, r] 69 (0, 0))) (hp : PartL w p a x) (hq : PartL w q b y) (hr : PartL w r c z) (hm : a + b + c ≤ 100000) :
    Calls Tryz.prog 41 #[.slice (some ⟨gg, 0, none⟩) 3 3] w fun e w' => ∃ v, e = .returned v ∧ Hid (w'.ownsRow B 36 1 v (a + b + c) (x ++ y ++ z)) ∧ Hid (Below B w0 w') := by
  have hs := hb.size
  rw [h0] at hs
  refine (concatL_any [(p, a, x), (q, b, y), (r, c, z)] gg 3 w (by simp) (by simp) (by unfold maxLen; decide) (lt_of_block hg) (fun j t hj => ?_) (fun t ht => ?_) (by simp [manyL]; omega)).mono ?_
  · rw [cell_of_row _ _ _ _ _ _ hg]
    match j, hj with
    | 0, hj => simp at hj; subst hj; rfl
    | 1, hj => simp at hj; subst hj; rfl
    | 2, hj => simp at hj; subst hj; rfl
    | j + 3, hj => simp at hj
  · simp at ht
    rcases ht with rfl | rfl | rfl
    · exact hp
    · exact hq
    · exact hr
  · rintro e w1 ⟨v, rfl, hown, b1⟩
    refine ⟨v, rfl, ?_, hb.trans (b1.mono hs)⟩
    have h2 : manyL [(p, a, x), (q, b, y), (r, c, z)] = a + b + c := by simp [manyL]; omega
    have h3 : allL [(p, a, x), (q, b, y), (r, c, z)] = x ++ y ++ z := by simp [allL]
    rw [h2, h3] at hown
    exact own_base hown hs
/-- what is known of what was put into a list -/
def PutLPost {n : Nat} (o : Option (List (J n))) (w : World) (e : Ending) (w' : World) : Prop :=
  Below w.heap.size w w' ∧ ((o = none ∧ e = .returned (.tuple #[.nilIface, .int .i64 7])) ∨ ∃ ys T x, o = some ys ∧ e = .returned (.tuple #[.iface T x, .int .i64 0]) ∧ S0 w' (n + 1) (Sum.inr (Sum.inl ys)) (.iface T x))
theorem part_behindL {w : World} {g n cap k d : Nat} {us : List Value} (hg : g < w.heap.size) (hl : us.length = n) (h1 : ∀ u ∈ us, u.oneCell' = true) (hc : ∀ (i : Nat) (u : Value), us[i]? = some u → w.cell? ⟨g, i, none⟩ = some u) (hk : k ≤ n) (hn : n ≤ cap) (hd' : d = n - k) {A : Addr} (hA : (if cap = k then some (⟨g, 0, none⟩ : Addr) else some ⟨g, k, none⟩) = some A) :
    PartL w (.slice (some A) d (cap - k)) d (us.drop k) := by
  subst hd'
  split at hA
  · rename_i h
    cases hA
    have h0 : n - k = 0 := by omega
    rw [h0, List.drop_of_length_le (by omega)]
    exact part_endL
  · cases hA
    exact part_dropL hg hl h1 hc hk
theorem named_if (c : Prop) [Decidable c] (a b : Addr) : ∃ A, (if c then some a else some b) = some A := by
  split
  · exact ⟨_, rfl⟩
  · exact ⟨_, rfl⟩
theorem heap_two (w : World) (a b : Obj) : ((w.alloc a).alloc b).drew.heap[w.heap.size]? = some a ∧ ((w.alloc a).alloc b).drew.heap[w.heap.size + 1]? = some b ∧ Below w.heap.size w ((w.alloc a).alloc b).drew := by
  have e : (w.alloc a).heap.size = w.heap.size + 1 := by simp
  refine ⟨?_, ?_, (((Below.refl _ w).alloc (Nat.le_refl _) a).alloc (by simp) b).drew⟩
  · show ((w.alloc a).alloc b).heap[w.heap.size]? = _
    rw [Below.heap_alloc _ _ _ (by simp)]
    exact heap_alloc_new w a
  · show ((w.alloc a).alloc b).heap[w.heap.size + 1]? = _
    rw [← e]
    exact heap_alloc_new _ b
/-- what comes of the three slices: what stood ahead, the new value, what stood behind -/
theorem putCallL {n : Nat} (xs : List (J n)) (c : J n) (g cap k bh d : Nat) (us : List Value) (T : TypeId) (x : Value) (w w1 : World) (hb : Below w.heap.size w w1) (hg : g < w.heap.size) (hlc : xs.length ≤ cap) (hI : Items w xs us) (hcell : ∀ (i : Nat) (u : Value), us[i]? = some u → w.cell? ⟨g, i, none⟩ = some u) (hx : S0 w n c (.iface T x)) (hl : xs.length ≤ 2000) (hk : k ≤ xs.length) (hbh : bh ≤ xs.length) (hd' : d = xs.length - bh) (A : Addr) (hA : (if cap = bh then some (⟨g, 0, none⟩ : Addr) else some ⟨g, bh, none⟩) = some A) :
    Calls Tryz.prog 41 #[.slice (some ⟨w1.heap.size + 1, 0, none⟩) 3 3] ((w1.alloc (.cells #[.iface T x] 36)).alloc (.cells #[.slice (some ⟨g, 0, none⟩) k cap, .slice (some ⟨w1.heap.size, 0, none⟩) 1 1, .slice (some A) d (cap - bh)] 69)).drew
      fun e w' => ∃ q m cc, e = .returned (.slice q m cc) ∧ Hid (S0 w' (n + 1) (Sum.inr (Sum.inl (xs.take k ++ c :: xs.drop bh))) (.iface 69 (.slice q m cc))) ∧ Hid (Below w.heap.size w w') := by
  obtain ⟨e1, e2, e3⟩ := heap_two w1 (.cells #[.iface T x] 36) (.cells #[.slice (some ⟨g, 0, none⟩) k cap, .slice (some ⟨w1.heap.size, 0, none⟩) 1 1, .slice (some A) d (cap - bh)] 69)
  have hbw : Below w.heap.size w _ := hb.trans (e3.mono hb.size)
  generalize ((w1.alloc (.cells #[.iface T x] 36)).alloc (.cells #[.slice (some ⟨g, 0, none⟩) k cap, .slice (some ⟨w1.heap.size, 0, none⟩) 1 1, .slice (some A) d (cap - bh)] 69)).drew = W at *
  have hgW : g < W.heap.size := by have := hbw.size; omega
  have hcW : ∀ (i : Nat) (u : Value), us[i]? = some u → W.cell? ⟨g, i, none⟩ = some u := fun i u hu => by
    rw [hbw.cell (p := ⟨g, i, none⟩) hg]
    exact hcell i u hu
  refine (concat3L w.heap.size w W _ _ _ k 1 d (us.take k) [.iface T x] (us.drop bh) (w1.heap.size + 1) rfl hbw e2 (part_takeL hgW hI.1 hI.2.1 hcW hk) (part_newL (by rw [cell_of_row _ _ _ _ _ _ e1]; rfl) (lt_of_block e1)) (part_behindL hgW hI.1 hI.2.1 hcW hbh hlc hd' hA) (by omega)).mono ?_
  rintro e w2 ⟨v, rfl, hown, hb2⟩
  obtain ⟨q, m, cc, rfl⟩ := own_shape hown.out
  refine ⟨q, m, cc, rfl, ?_, hb2⟩
  have hI2 : Items w2 (xs.take k ++ [c] ++ xs.drop bh) (us.take k ++ [.iface T x] ++ us.drop bh) := (((hI.take k).append (items_one hx)).append (hI.drop bh)).below hb2.out
  have := st_of_ownsL hown.out (by simp; omega) hI2
  show S0 _ _ _ _
  simpa using this
set_option maxRecDepth 100000 in
set_option maxHeartbeats 4000000 in
theorem putItem_dash {n : Nat} (xs : List (J n)) (c : J n) (p : Option Addr) (g cap : Nat) (us : List Value) (T : TypeId) (x : Value) (w : World) (hp : p = some ⟨g, 0, none⟩ ∧ g < w.heap.size) (hlc : xs.length ≤ cap) (hcm : cap ≤ maxLen) (hI : Items w xs us) (hcell : ∀ (i : Nat) (u : Value), us[i]? = some u → w.cell? ⟨g, i, none⟩ = some u) (hx : S0 w n c (.iface T x)) (hl : xs.length ≤ 2000) (hE : Env w) :
    Calls Tryz.prog 37 #[.slice p xs.length cap, .string ⟨#[45]⟩, .iface T x] w (PutLPost (some (xs ++ [c])) w) := by
  obtain ⟨rfl, hg⟩ := hp
  unfold maxLen at hcm
  have HP : Hid (Calls Tryz.prog 40 #[.string ⟨#[45]⟩] w fun e w' => ∃ k b, e = .returned (.tuple #[.int .i64 k, .bool b]) ∧ Below w.heap.size w w') := by
    refine (place_any ⟨#[45]⟩ w (by decide) hE).mono ?_
    rintro e w1 ⟨b1, h1⟩
    rcases h1 with ⟨i, _, _, rfl⟩ | ⟨k, _, rfl⟩
    · exact ⟨_, _, rfl, b1⟩
    · exact ⟨_, _, rfl, b1⟩
  obtain ⟨A, hA⟩ := named_if (cap = xs.length) ⟨g, 0, none⟩ ⟨g, xs.length, none⟩
  have HC := fun w1 hb => putCallL xs c g cap xs.length xs.length 0 us T x w w1 hb hg hlc hI hcell hx hl (Nat.le_refl _) (Nat.le_refl _) (by omega) A hA
  rw [List.take_length, List.drop_length] at HC
  have HC' : Hid (∀ w1, Below w.heap.size w w1 → Calls Tryz.prog 41 #[.slice (some ⟨w1.heap.size + 1, 0, none⟩) 3 3] ((w1.alloc (.cells #[.iface T x] 36)).alloc (.cells #[.slice (some ⟨g, 0, none⟩) xs.length cap, .slice (some ⟨w1.heap.size, 0, none⟩) 1 1, .slice (some A) 0 (cap - xs.length)] 69)).drew
      fun e w' => ∃ q m cc, e = .returned (.slice q m cc) ∧ Hid (S0 w' (n + 1) (Sum.inr (Sum.inl (xs ++ [c]))) (.iface 69 (.slice q m cc))) ∧ Hid (Below w.heap.size w w')) := HC
  have hmin : min ((xs.length : Int) + 1) (xs.length : Int) = (xs.length : Int) := by omega
  have hw1 : IntKind.i64.wrap (xs.length : Int) = (xs.length : Int) := wrap_nat _ (by omega)
  clear hI hcell hx hE HC
  generalize xs.length = len at *
  go_enter Tryz.func37, Tryz.ntmps37
  go_wp2_with fail
  refine Calls.mono HP.out ?_
  rintro e w1 ⟨k, b, rfl, b1⟩
  have HB : Hid (Below w.heap.size w w1) := b1
  clear b1
  go_wp2_with fail
  go_region_with (go_at_call 41; refine Calls.mono (HC'.out w1 HB.out) ?_; rintro e w3 ⟨q, m, cc, rfl, HS, HB3⟩)
  all_goals (go_wp2_with fail; go_ret2)
  all_goals exact ⟨HB3.out, Or.inr ⟨_, _, _, rfl, rfl, HS.out⟩⟩
set_option maxRecDepth 100000 in
set_option maxHeartbeats 4000000 in
theorem putItem_at {n : Nat} (xs : List (J n)) (c : J n) (g cap : Nat) (us : List Value) (T : TypeId) (x : Value) (s : ByteArray) (w : World) (hg : g < w.heap.size) (hlc : xs.length ≤ cap) (hcm : cap ≤ maxLen) (hI : Items w xs us) (hcell : ∀ (i : Nat) (u : Value), us[i]? = some u → w.cell? ⟨g, i, none⟩ = some u) (hx : S0 w n c (.iface T x)) (hl : xs.length ≤ 2000) (hs : s.size ≤ 8000000) (hE : Env w) (hds : (s.toList == ([45] : List UInt8)) = false) (k : Nat) (hpl : placeP s.data.toList = some k) (hk : k < xs.length) :
    Calls Tryz.prog 37 #[.slice (some ⟨g, 0, none⟩) xs.length cap, .string s, .iface T x] w (PutLPost (some (xs.take k ++ c :: xs.drop (k + 1))) w) := by
  unfold maxLen at hcm
  have HP : Hid (Calls Tryz.prog 40 #[.string s] w fun e w' => e = .returned (.tuple #[.int .i64 (k : Int), .bool true]) ∧ Below w.heap.size w w') := by
    refine (place_any s w hs hE).mono ?_
    rintro e w1 ⟨b1, h1⟩
    rcases h1 with ⟨i, hi, _, rfl⟩ | ⟨m, hm, rfl⟩
    · rw [hpl] at hi
      cases hi
      exact ⟨rfl, b1⟩
    · rw [hpl] at hm
      cases hm
  obtain ⟨A, hA⟩ := named_if (cap = k + 1) ⟨g, 0, none⟩ ⟨g, k + 1, none⟩
  have HC : Hid (∀ w1, Below w.heap.size w w1 → Calls Tryz.prog 41 #[.slice (some ⟨w1.heap.size + 1, 0, none⟩) 3 3] ((w1.alloc (.cells #[.iface T x] 36)).alloc (.cells #[.slice (some ⟨g, 0, none⟩) k cap, .slice (some ⟨w1.heap.size, 0, none⟩) 1 1, .slice (some A) (xs.length - (k + 1)) (cap - (k + 1))] 69)).drew
      fun e w' => ∃ q m cc, e = .returned (.slice q m cc) ∧ Hid (S0 w' (n + 1) (Sum.inr (Sum.inl (xs.take k ++ c :: xs.drop (k + 1)))) (.iface 69 (.slice q m cc))) ∧ Hid (Below w.heap.size w w')) :=
    fun w1 hb => putCallL xs c g cap k (k + 1) (xs.length - (k + 1)) us T x w w1 hb hg hlc hI hcell hx hl (by omega) (by omega) (by omega) A hA
  have hmin : min ((k : Int) + 1) (xs.length : Int) = (k : Int) + 1 := by omega
  have hgt : decide ((xs.length : Int) < (k : Int)) = false := decide_eq_false (by omega)
  have hw1 : IntKind.i64.wrap (k : Int) = (k : Int) := wrap_nat _ (by omega)
  have hw2 : IntKind.i64.wrap ((k : Int) + 1) = (k : Int) + 1 := by rw [IntKind.wrap_i64]; omega
  have h1 : (k : Int) + 1 ≤ (xs.length : Int) := by omega
  have h2 : (0 : Int) ≤ (k : Int) + 1 := by omega
  have h3 : ((k : Int) + 1).toNat = k + 1 := by omega
  have h4 : (k : Int) ≤ (cap : Int) := by omega
  clear hI hcell hx hE hpl
  obtain ⟨R, hR⟩ : ∃ R, R = xs.take k ++ c :: xs.drop (k + 1) := ⟨_, rfl⟩
  rw [← hR] at HC ⊢
  clear hR
  generalize xs.length = len at *
  go_enter Tryz.func37, Tryz.ntmps37
  go_wp2_with fail
  refine Calls.mono HP.out ?_
  rintro e w1 ⟨rfl, b1⟩
  have HB : Hid (Below w.heap.size w w1) := b1
  clear b1
  go_wp2_with fail
  go_region_with (go_at_call 41; refine Calls.mono (HC.out w1 HB.out) ?_; rintro e w3 ⟨q, m, cc, rfl, HS, HB3⟩)
  all_goals (go_wp2_with fail; go_ret2)
  all_goals exact ⟨HB3.out, Or.inr ⟨_, _, _, rfl, rfl, HS.out⟩⟩
set_option maxRecDepth 100000 in
set_option maxHeartbeats 4000000 in
theorem putItem_end {n : Nat} (xs : List (J n)) (c : J n) (g cap : Nat) (us : List Value) (T : TypeId) (x : Value) (s : ByteArray) (w : World) (hg : g < w.heap.size) (hlc : xs.length ≤ cap) (hcm : cap ≤ maxLen) (hI : Items w xs us) (hcell : ∀ (i : Nat) (u : Value), us[i]? = some u → w.cell? ⟨g, i, none⟩ = some u) (hx : S0 w n c (.iface T x)) (hl : xs.length ≤ 2000) (hs : s.size ≤ 8000000) (hE : Env w) (hds : (s.toList == ([45] : List UInt8)) = false) (hpl : placeP s.data.toList = some xs.length) :
    Calls Tryz.prog 37 #[.slice (some ⟨g, 0, none⟩) xs.length cap, .string s, .iface T x] w (PutLPost (some (xs ++ [c])) w) := by
  unfold maxLen at hcm
  obtain ⟨k, hk⟩ : ∃ k, xs.length = k := ⟨_, rfl⟩
  rw [hk] at hpl
  have HP : Hid (Calls Tryz.prog 40 #[.string s] w fun e w' => e = .returned (.tuple #[.int .i64 (k : Int), .bool true]) ∧ Below w.heap.size w w') := by
    refine (place_any s w hs hE).mono ?_
    rintro e w1 ⟨b1, h1⟩
    rcases h1 with ⟨i, hi, _, rfl⟩ | ⟨m, hm, rfl⟩
    · rw [hpl] at hi
      cases hi
      exact ⟨rfl, b1⟩
    · rw [hpl] at hm
      cases hm
  obtain ⟨A, hA⟩ := named_if (cap = xs.length) ⟨g, 0, none⟩ ⟨g, xs.length, none⟩
  have HC : Hid (∀ w1, Below w.heap.size w w1 → Calls Tryz.prog 41 #[.slice (some ⟨w1.heap.size + 1, 0, none⟩) 3 3] ((w1.alloc (.cells #[.iface T x] 36)).alloc (.cells #[.slice (some ⟨g, 0, none⟩) xs.length cap, .slice (some ⟨w1.heap.size, 0, none⟩) 1 1, .slice (some A) (0) (cap - (xs.length))] 69)).drew
      fun e w' => ∃ q m cc, e = .returned (.slice q m cc) ∧ Hid (S0 w' (n + 1) (Sum.inr (Sum.inl (xs.take xs.length ++ c :: xs.drop xs.length))) (.iface 69 (.slice q m cc))) ∧ Hid (Below w.heap.size w w')) :=
    fun w1 hb => putCallL xs c g cap xs.length (xs.length) (0) us T x w w1 hb hg hlc hI hcell hx hl (by omega) (by omega) (by omega) A hA
  rw [List.take_length, List.drop_length, hk] at HC
  have hmin : min ((k : Int) + 1) (k : Int) = (k : Int) := by omega
  have hgt : decide ((k : Int) < (k : Int)) = false := decide_eq_false (by omega)
  have hw1 : IntKind.i64.wrap (k : Int) = (k : Int) := wrap_nat _ (by omega)
  rw [hk] at hA hlc hl ⊢
  clear hI hcell hx hE hpl hk
  go_enter Tryz.func37, Tryz.ntmps37
  go_wp2_with fail
  refine Calls.mono HP.out ?_
  rintro e w1 ⟨rfl, b1⟩
  have HB : Hid (Below w.heap.size w w1) := b1
  clear b1
  go_wp2_with fail
  go_region_with (go_at_call 41; refine Calls.mono (HC.out w1 HB.out) ?_; rintro e w3 ⟨q, m, cc, rfl, HS, HB3⟩)
  all_goals (go_wp2_with fail; go_ret2)
  all_goals exact ⟨HB3.out, Or.inr ⟨_, _, _, rfl, rfl, HS.out⟩⟩
set_option maxRecDepth 100000 in
set_option maxHeartbeats 4000000 in
theorem putItem_far {n : Nat} (xs : List (J n)) (p : Option Addr) (cap : Nat) (T : TypeId) (x : Value) (s : ByteArray) (w : World) (hl : xs.length ≤ 2000) (hs : s.size ≤ 8000000) (hE : Env w) (hds : (s.toList == ([45] : List UInt8)) = false) (k : Nat) (hpl : placeP s.data.toList = some k) (hk : xs.length < k) :
    Calls Tryz.prog 37 #[.slice p xs.length cap, .string s, .iface T x] w (PutLPost (none : Option (List (J n))) w) := by
  have HP : Hid (Calls Tryz.prog 40 #[.string s] w fun e w' => e = .returned (.tuple #[.int .i64 (k : Int), .bool true]) ∧ Below w.heap.size w w') := by
    refine (place_any s w hs hE).mono ?_
    rintro e w1 ⟨b1, h1⟩
    rcases h1 with ⟨i, hi, _, rfl⟩ | ⟨m, hm, rfl⟩
    · rw [hpl] at hi
      cases hi
      exact ⟨rfl, b1⟩
    · rw [hpl] at hm
      cases hm
  have hgt : decide ((xs.length : Int) < (k : Int)) = true := decide_eq_true (by omega)
  have hgt2 : (xs.length : Int) < (k : Int) := by omega
  clear hE hpl
  generalize xs.length = len at *
  go_enter Tryz.func37, Tryz.ntmps37
  go_wp2_with fail
  refine Calls.mono HP.out ?_
  rintro e w1 ⟨rfl, b1⟩
  have HB : Hid (Below w.heap.size w w1) := b1
  clear b1
  go_wp2_with fail
  go_ret2
  exact ⟨HB.out, Or.inl ⟨rfl, rfl⟩⟩
set_option maxRecDepth 100000 in
set_option maxHeartbeats 4000000 in
theorem putItem_none {n : Nat} (xs : List (J n)) (p : Option Addr) (cap : Nat) (T : TypeId) (x : Value) (s : ByteArray) (w : World) (hl : xs.length ≤ 2000) (hs : s.size ≤ 8000000) (hE : Env w) (hds : (s.toList == ([45] : List UInt8)) = false) (hpl : placeP s.data.toList = none) :
    Calls Tryz.prog 37 #[.slice p xs.length cap, .string s, .iface T x] w (PutLPost (none : Option (List (J n))) w) := by
  have HP : Hid (Calls Tryz.prog 40 #[.string s] w fun e w' => ∃ k : Int, e = .returned (.tuple #[.int .i64 k, .bool false]) ∧ Below w.heap.size w w') := by
    refine (place_any s w hs hE).mono ?_
    rintro e w1 ⟨b1, h1⟩
    rcases h1 with ⟨i, hi, _, rfl⟩ | ⟨m, hm, rfl⟩
    · rw [hpl] at hi
      cases hi
    · exact ⟨_, rfl, b1⟩
  clear hE hpl
  generalize xs.length = len at *
  go_enter Tryz.func37, Tryz.ntmps37
  go_wp2_with fail
  refine Calls.mono HP.out ?_
  rintro e w1 ⟨k, rfl, b1⟩
  have HB : Hid (Below w.heap.size w w1) := b1
  clear b1
  go_wp2_with fail
  go_ret2
  exact ⟨HB.out, Or.inl ⟨rfl, rfl⟩⟩
theorem putCallNil {n : Nat} (c : J n) (T : TypeId) (x : Value) (w w1 : World) (hb : Below w.heap.size w w1) (hx : S0 w n c (.iface T x)) :
    Calls Tryz.prog 41 #[.slice (some ⟨w1.heap.size + 1, 0, none⟩) 3 3] ((w1.alloc (.cells #[.iface T x] 36)).alloc (.cells #[.slice none 0 0, .slice (some ⟨w1.heap.size, 0, none⟩) 1 1, .slice none 0 0] 69)).drew
      fun e w' => ∃ q m cc, e = .returned (.slice q m cc) ∧ Hid (S0 w' (n + 1) (Sum.inr (Sum.inl [c])) (.iface 69 (.slice q m cc))) ∧ Hid (Below w.heap.size w w') := by
  obtain ⟨e1, e2, e3⟩ := heap_two w1 (.cells #[.iface T x] 36) (.cells #[.slice none 0 0, .slice (some ⟨w1.heap.size, 0, none⟩) 1 1, .slice none 0 0] 69)
  have hbw : Below w.heap.size w _ := hb.trans (e3.mono hb.size)
  generalize ((w1.alloc (.cells #[.iface T x] 36)).alloc (.cells #[.slice none 0 0, .slice (some ⟨w1.heap.size, 0, none⟩) 1 1, .slice none 0 0] 69)).drew = W at *
  refine (concat3L w.heap.size w W _ _ _ 0 1 0 [] [.iface T x] [] (w1.heap.size + 1) rfl hbw e2 part_nilL (part_newL (by rw [cell_of_row _ _ _ _ _ _ e1]; rfl) (lt_of_block e1)) part_nilL (by omega)).mono ?_
  rintro e w2 ⟨v, rfl, hown, hb2⟩
  obtain ⟨q, m, cc, rfl⟩ := own_shape hown.out
  refine ⟨q, m, cc, rfl, ?_, hb2⟩
  have := st_of_ownsL hown.out (by simp) ((items_one hx).below hb2.out)
  exact this
set_option maxRecDepth 100000 in
set_option maxHeartbeats 4000000 in
theorem putItem_nilDash {n : Nat} (c : J n) (T : TypeId) (x : Value) (w : World) (hx : S0 w n c (.iface T x)) (hE : Env w) :
    Calls Tryz.prog 37 #[.slice none 0 0, .string ⟨#[45]⟩, .iface T x] w (PutLPost (some [c]) w) := by
  have HP : Hid (Calls Tryz.prog 40 #[.string ⟨#[45]⟩] w fun e w' => ∃ k b, e = .returned (.tuple #[.int .i64 k, .bool b]) ∧ Below w.heap.size w w') := by
    refine (place_any ⟨#[45]⟩ w (by decide) hE).mono ?_
    rintro e w1 ⟨b1, h1⟩
    rcases h1 with ⟨i, _, _, rfl⟩ | ⟨k, _, rfl⟩
    · exact ⟨_, _, rfl, b1⟩
    · exact ⟨_, _, rfl, b1⟩
  have HC : Hid (∀ w1, Below w.heap.size w w1 → _) := fun w1 hb => putCallNil c T x w w1 hb hx
  clear hx hE
  go_enter Tryz.func37, Tryz.ntmps37
  go_wp2_with fail
  refine Calls.mono HP.out ?_
  rintro e w1 ⟨k, b, rfl, b1⟩
  have HB : Hid (Below w.heap.size w w1) := b1
  clear b1
  go_wp2_with fail
  go_region_with (go_at_call 41; refine Calls.mono (HC.out w1 HB.out) ?_; rintro e w3 ⟨q, m, cc, rfl, HS, HB3⟩)
  all_goals (go_wp2_with fail; go_ret2)
  all_goals exact ⟨HB3.out, Or.inr ⟨_, _, _, rfl, rfl, HS.out⟩⟩
set_option maxRecDepth 100000 in
set_option maxHeartbeats 4000000 in
theorem putItem_nilZero {n : Nat} (c : J n) (T : TypeId) (x : Value) (s : ByteArray) (w : World) (hx : S0 w n c (.iface T x)) (hs : s.size ≤ 8000000) (hE : Env w) (hds : (s.toList == ([45] : List UInt8)) = false) (hpl : placeP s.data.toList = some 0) :
    Calls Tryz.prog 37 #[.slice none 0 0, .string s, .iface T x] w (PutLPost (some [c]) w) := by
  have HP : Hid (Calls Tryz.prog 40 #[.string s] w fun e w' => e = .returned (.tuple #[.int .i64 0, .bool true]) ∧ Below w.heap.size w w') := by
    refine (place_any s w hs hE).mono ?_
    rintro e w1 ⟨b1, h1⟩
    rcases h1 with ⟨i, hi, _, rfl⟩ | ⟨m, hm, rfl⟩
    · rw [hpl] at hi
      cases hi
      exact ⟨rfl, b1⟩
    · rw [hpl] at hm
      cases hm
  have HC : Hid (∀ w1, Below w.heap.size w w1 → _) := fun w1 hb => putCallNil c T x w w1 hb hx
  clear hx hE hpl
  go_enter Tryz.func37, Tryz.ntmps37
  go_wp2_with fail
  refine Calls.mono HP.out ?_
  rintro e w1 ⟨rfl, b1⟩
  have HB : Hid (Below w.heap.size w w1) := b1
  clear b1
  go_wp2_with fail
  go_region_with (go_at_call 41; refine Calls.mono (HC.out w1 HB.out) ?_; rintro e w3 ⟨q, m, cc, rfl, HS, HB3⟩)
  all_goals (go_wp2_with fail; go_ret2)
  all_goals exact ⟨HB3.out, Or.inr ⟨_, _, _, rfl, rfl, HS.out⟩⟩
theorem putItem_any {n : Nat} (av : Nat → Prop) (xs : List (J n)) (c : J n) (v : Value) (T : TypeId) (x : Value) (s : ByteArray) (w : World) (hSt : St av w (n + 1) (Sum.inr (Sum.inl xs)) (.iface 69 v)) (hx : S0 w n c (.iface T x)) (hl : xs.length ≤ 2000) (hs : s.size ≤ 8000000) (hE : Env w) :
    Calls Tryz.prog 37 #[v, .string s, .iface T x] w (PutLPost ((putIdx xs.length s.data.toList).map fun i => xs.take i ++ c :: xs.drop (i + 1)) w) := by
  obtain ⟨p, g, cap, us, hv, hp, hlc, hcm, hI, hcell⟩ := hSt.items
  cases hv
  by_cases hd : s.data.toList = [45]
  · have e : s = ⟨#[45]⟩ := by rw [← ba_self s, hd]
    subst e
    have hi : putIdx xs.length (⟨#[45]⟩ : ByteArray).data.toList = some xs.length := by unfold putIdx; rw [if_pos rfl]
    rw [hi, Option.map_some, List.take_length, List.drop_of_length_le (by omega)]
    rcases hp with ⟨rfl, rfl, rfl⟩ | hp
    · exact putItem_nilDash c T x w hx hE
    · exact putItem_dash xs c p g cap us T x w hp hlc hcm hI hcell hx hl hE
  · have hds : (s.toList == ([45] : List UInt8)) = false := by
      rw [ByteArray.toList_eq, beq_eq_false_iff_ne]
      exact hd
    have hi : putIdx xs.length s.data.toList = (placeP s.data.toList).bind fun i => if i ≤ xs.length then some i else none := by unfold putIdx; rw [if_neg hd]
    rw [hi]
    cases hpl : placeP s.data.toList with
    | none => exact putItem_none xs p cap T x s w hl hs hE hds hpl
    | some k =>
      simp only [Option.bind_some]
      rcases Nat.lt_trichotomy k xs.length with hk | hk | hk
      · rw [if_pos (by omega), Option.map_some]
        rcases hp with ⟨rfl, rfl, rfl⟩ | ⟨rfl, hg⟩
        · simp at hk
        · exact putItem_at xs c g cap us T x s w hg hlc hcm hI hcell hx hl hs hE hds k hpl hk
      · subst hk
        rw [if_pos (Nat.le_refl _), Option.map_some, List.take_length, List.drop_of_length_le (by omega)]
        rcases hp with ⟨rfl, rfl, rfl⟩ | ⟨rfl, hg⟩
        · exact putItem_nilZero c T x s w hx hs hE hds hpl
        · exact putItem_end xs c g cap us T x s w hg hlc hcm hI hcell hx hl hs hE hds hpl
      · rw [if_neg (by omega)]
        exact putItem_far xs p cap T x s w hl hs hE hds k hpl hk
end Go.Proofs.YthdgfehfoidnbabGreatDoor
/- Contracts over this translation of slices.Grow and slices.Concat, at fields of objects. -/
namespace Go.Proofs.YthdgfehfoidnbabGreatDoor
open Go.RowKit
set_option linter.unusedVariables false
set_option linter.unusedSimpArgs false
theorem grow_fitsO {k : Nat} (h0 : 0 < k) (h : k ≤ 100000) : Builtin.nextslicecap (0 + k) 0 * 32 ≤ 281474976710656 := growslice_fits (by omega) (by omega)
set_option maxRecDepth 100000 in
set_option maxHeartbeats 2000000 in
theorem growO_any (k : Nat) (w : World) (hk : k ≤ 100000) :
    Calls Tryz.prog 60 #[.slice none 0 0, .int .i64 k] w fun e w' => ∃ v, e = .returned v ∧ w'.ownsRow w.heap.size 75 2 v 0 [] ∧ Below w.heap.size w w' := by
  by_cases h0 : k = 0
  · subst h0
    go_enter Tryz.func60, Tryz.ntmps60
    go_wp2_with fail
    go_ret
    exact ⟨_, rfl, World.ownsRow_nil _ _ _ _, Below.refl _ _⟩
  · obtain ⟨i0, hi0, hz0, hzs, hzb⟩ := info_parts info_field
    have hk0 : 0 < k := by omega
    have hrz := fun ty => Lib.run_append_grow_zeros (P := Tryz.prog) w 66 3 ty 75 i0 _ .i64 .i64 Tryz.underlying66 Tryz.underlying3 hi0 hz0 none 0 0 [] (run_firstCells_none _ _ _ _ _) k hk0 (by rw [hzs]; omega) (by omega) (by omega) (by rw [hzb]; omega) (by rw [hzb]; exact grow_fitsO hk0 hk)
    obtain ⟨GC, hGC⟩ : ∃ GC : Nat, GC = grownCap w (0 + k) 0 75 := ⟨_, rfl⟩
    have hGn : k ≤ GC := by have := grownCap_ge w (0 + k) 0 75; omega
    have hGm : GC ≤ 9223372036854775807 := by
      have := grownCap_le_maxLen w (0 + k) 0 75 (by unfold maxLen; omega)
      rw [← hGC] at this
      unfold maxLen at this
      omega
    rw [← hGC] at hrz
    obtain ⟨R0, hR0⟩ : ∃ R0 : Array Value, R0 = ([] : List Value).toArray ++ Builtin.zeroCells (Value.agg #[.string ⟨#[]⟩, .nilIface]).cells k ++ Builtin.zeroCells (Value.agg #[.string ⟨#[]⟩, .nilIface]).cells (GC - (0 + k)) := ⟨_, rfl⟩
    rw [← hR0] at hrz
    have hR0s : R0.size = GC * 2 := by
      rw [hR0, Array.size_append, Array.size_append, size_zeroCells, size_zeroCells]
      show 0 + k * 2 + (GC - (0 + k)) * 2 = GC * 2
      omega
    have HRZ : Hid (∀ ty, (Builtin.append_ #[66, 3] ty #[.slice none 0 0, .int .i64 (k : Int)]).run Tryz.prog w = .ok (.slice (some ⟨w.heap.size, 0, none⟩) k GC) (w.drew.alloc (.cells R0 75))) := fun ty => by
      have h := hrz ty
      rw [Nat.zero_add] at h
      exact h
    have HN : Hid ((w.drew.alloc (.cells R0 75)).heap[w.heap.size]? = some (.cells R0 75 (0, 0))) := heap_alloc_new w _
    have HB : Hid (Below w.heap.size w (w.drew.alloc (.cells R0 75))) := ((Below.refl _ w).drew).alloc (Nat.le_refl _) _
    have HRs : Hid (R0.size = GC * 2) := hR0s
    have hI : (0 : Int) < (k : Int) := by omega
    clear hrz hR0 hR0s hGC h0
    go_enter Tryz.func60, Tryz.ntmps60
    go_wp2_with (at_builtin; refine Lib.wpList_append_run _ rfl _ _ 66 3 rfl _ _ rfl rfl _ _ (HRZ.out _) ?_)
    go_ret
    exact ⟨_, rfl, ⟨by simp, Or.inr ⟨w.heap.size, GC, R0, rfl, Nat.le_refl _, HN.out, Nat.zero_le _, by unfold maxLen; omega, HRs.out, by simp⟩⟩, HB.out⟩
/-- a slice that is handed in: what its cells hold -/
def PartO (w : World) (pv : Value) (m : Nat) (cs : List Value) : Prop :=
  cs.length = m * 2 ∧ (∀ u ∈ cs, u.oneCell' = true) ∧ ((pv = .slice none 0 0 ∧ m = 0) ∨ ∃ (g o c : Nat), pv = .slice (some ⟨g, o, none⟩) m c ∧ (0 < m → g < w.heap.size) ∧ ∀ (j : Nat) (u : Value), cs[j]? = some u → w.cell? ⟨g, o + j, none⟩ = some u)
theorem PartO.below {w w' : World} {pv : Value} {m : Nat} {cs : List Value} (h : PartO w pv m cs) (hb : Below w.heap.size w w') : PartO w' pv m cs := by
  obtain ⟨h1, h2, h3⟩ := h
  refine ⟨h1, h2, ?_⟩
  rcases h3 with h3 | ⟨g, o, c, h3, h4, h5⟩
  · exact Or.inl h3
  · refine Or.inr ⟨g, o, c, h3, fun h => by have := h4 h; have := hb.size; omega, fun j u hj => ?_⟩
    have hlt : j < cs.length := (List.getElem?_eq_some_iff.1 hj).1
    rw [hb.cell (p := ⟨g, o + j, none⟩) (h4 (by
      rcases Nat.eq_zero_or_pos m with rfl | h
      · rw [Nat.zero_mul] at h1; omega
      · exact h))]
    exact h5 j u hj
theorem PartO.shape {w : World} {pv : Value} {m : Nat} {cs : List Value} (h : PartO w pv m cs) : ∃ q c, pv = .slice q m c := by
  rcases h.2.2 with ⟨rfl, rfl⟩ | ⟨g, o, c, rfl, _⟩
  · exact ⟨_, _, rfl⟩
  · exact ⟨_, _, rfl⟩
/-- several of them -/
def PartsO (w : World) : List (Value × Nat × List Value) → Prop := fun l => ∀ p ∈ l, PartO w p.1 p.2.1 p.2.2
def manyO (l : List (Value × Nat × List Value)) : Nat := (l.map fun p => p.2.1).sum
def allO (l : List (Value × Nat × List Value)) : List Value := (l.map fun p => p.2.2).flatten
theorem manyO_snoc (l : List (Value × Nat × List Value)) (p : Value × Nat × List Value) : manyO (l ++ [p]) = manyO l + p.2.1 := by simp [manyO]
theorem allO_snoc (l : List (Value × Nat × List Value)) (p : Value × Nat × List Value) : allO (l ++ [p]) = allO l ++ p.2.2 := by simp [allO]
theorem manyO_take (l : List (Value × Nat × List Value)) (k : Nat) : manyO (l.take k) ≤ manyO l := by
  have h : manyO l = manyO (l.take k) + manyO (l.drop k) := by
    unfold manyO
    rw [← List.sum_append, ← List.map_append, List.take_append_drop]
  omega
set_option maxRecDepth 100000 in
set_option maxHeartbeats 4000000 in
theorem concatO_any (l : List (Value × Nat × List Value)) (gg cc : Nat) (w : World) (hl : l.length ≤ 10) (hcc : l.length ≤ cc) (hccm : cc ≤ maxLen) (hgg : gg < w.heap.size) (hcell : ∀ (j : Nat) (p : Value × Nat × List Value), l[j]? = some p → w.cell? ⟨gg, j, none⟩ = some p.1) (hP : PartsO w l) (hm : manyO l ≤ 100000) :
    Calls Tryz.prog 39 #[.slice (some ⟨gg, 0, none⟩) l.length cc] w fun e w' => ∃ v, e = .returned v ∧ w'.ownsRow w.heap.size 75 2 v (manyO l) (allO l) ∧ Below w.heap.size w w' := by
  obtain ⟨i0, hi, hz0, hz1, hz2⟩ := info_parts info_field
  unfold maxLen at hccm
  have HC : Hid (∀ w1, Below w.heap.size w w1 → ∀ k (hk : k < l.length), w1.cell? ⟨gg, k, none⟩ = some l[k].1 ∧ PartO w1 l[k].1 l[k].2.1 l[k].2.2) := by
    intro w1 hb k hk
    exact ⟨by rw [hb.cell (p := ⟨gg, k, none⟩) hgg]; exact hcell k _ (List.getElem?_eq_getElem hk), (hP _ (List.getElem_mem hk)).below hb⟩
  have HT : Hid (∀ k (hk : k < l.length), manyO (l.take (k + 1)) = manyO (l.take k) + l[k].2.1 ∧ allO (l.take (k + 1)) = allO (l.take k) ++ l[k].2.2) := fun k hk => by
    rw [List.take_succ_eq_append_getElem hk, manyO_snoc, allO_snoc]
    exact ⟨rfl, rfl⟩
  have HM : Hid (∀ k, manyO (l.take k) ≤ 100000) := fun k => Nat.le_trans (manyO_take l k) hm
  have HAll : Hid (∀ k, l.length ≤ k → l.take k = l) := fun k hk => List.take_of_length_le hk
  clear hcell hP
  go_enter Tryz.func39, Tryz.ntmps39
  go_wp2_with fail
  go_loopw [3, 11] (fun x i wr => ∃ k : Nat, k ≤ l.length ∧ i = .int .i64 k ∧ x = .int .i64 (manyO (l.take k)) ∧ wr = w) (fun _ i _ => l.length - (intOf i).toNat)
  case atStart => exact ⟨0, Nat.zero_le _, rfl, rfl, rfl⟩
  case round =>
    obtain ⟨k, hk, rfl, rfl, hw⟩ := hrel
    have hw := hw.symm
    subst hw
    have hmk := HM.out k
    by_cases hlt : k < l.length
    · obtain ⟨hc, hp⟩ := HC.out w (Below.refl _ _) k hlt
      obtain ⟨q, c, hq⟩ := hp.shape
      rw [hq] at hc
      have ht := (HT.out k hlt).1
      have hmk1 := HM.out (k + 1)
      obtain ⟨x, hx⟩ : ∃ x, manyO (l.take k) = x := ⟨_, rfl⟩
      obtain ⟨z, hz⟩ : ∃ z, l[k].2.1 = z := ⟨_, rfl⟩
      rw [hx, hz] at ht
      rw [hx] at hmk ⊢
      rw [hz] at hc
      have HTk : Hid (manyO (l.take (k + 1)) = x + z) := ht
      have hb1 : z ≤ 100000 := by omega
      clear ht hp hq hx hz hmk1
      go_wp2_with fail
      go_roundw
      case rel => exact ⟨k + 1, by omega, by go_num, by rw [HTk.out]; go_num, trivial⟩
      case measure => simp [intOf]; omega
    · have hta := HAll.out k (by omega)
      rw [hta] at hmk ⊢
      obtain ⟨tot, htot⟩ : ∃ tot, manyO l = tot := ⟨_, rfl⟩
      rw [htot] at hmk ⊢
      have HTot : Hid (manyO l = tot) := htot
      clear htot hta hm
      go_wp2_with fail
      refine (growO_any tot _ hmk).mono ?_
      rintro e w1 ⟨v1, rfl, hown, b1⟩
      have HO1 : Hid (w1.ownsRow w.heap.size 75 2 v1 0 []) := hown
      have HB1 : Hid (Below w.heap.size w w1) := b1
      clear hown b1
      go_wp2_with fail
      go_loopw [6, 27] (fun x i wr => ∃ k : Nat, k ≤ l.length ∧ i = .int .i64 k ∧ wr.ownsRow w.heap.size 75 2 x (manyO (l.take k)) (allO (l.take k)) ∧ Below w.heap.size w wr) (fun _ i _ => l.length - (intOf i).toNat)
      case atStart => exact ⟨0, Nat.zero_le _, rfl, HO1.out, HB1.out⟩
      case round =>
        obtain ⟨k, hk, rfl, hown, hbel⟩ := hrel
        have HO : Hid (wr.ownsRow w.heap.size 75 2 u6 (manyO (l.take k)) (allO (l.take k))) := hown
        have HB : Hid (Below w.heap.size w wr) := hbel
        have hmk2 := HM.out k
        have hBr := hbel.size
        clear hown hbel
        by_cases hlt2 : k < l.length
        · obtain ⟨hc, hp⟩ := HC.out wr HB.out k hlt2
          have hmk3 := HM.out (k + 1)
          obtain ⟨ht1, ht2⟩ := HT.out k hlt2
          have HT1 : Hid (manyO (l.take (k + 1)) = manyO (l.take k) + l[k].2.1) := ht1
          have HT2 : Hid (allO (l.take (k + 1)) = allO (l.take k) ++ l[k].2.2) := ht2
          have hzb : l[k].2.1 ≤ 100000 := by omega
          obtain ⟨hcl, hc1, hsh⟩ := hp
          clear ht1 ht2 hmk3
          rcases hsh with ⟨hpv, hm0⟩ | ⟨g, o, c, hpv, hgl, hcs⟩
          · have hn : l[k].2.2 = [] := List.eq_nil_of_length_eq_zero (by rw [hcl, hm0, Nat.zero_mul])
            rw [hpv] at hc
            have HO2 : Hid (wr.ownsRow w.heap.size 75 2 u6 (manyO (l.take (k + 1))) (allO (l.take (k + 1)))) := by
              show wr.ownsRow _ _ _ _ _ _
              rw [HT1.out, HT2.out, hn, hm0, Nat.add_zero, List.append_nil]
              exact HO.out
            clear hcl hc1 hpv hm0 hn
            go_wp2_with (at_builtin; refine wpList_append_own_none rfl _ _ 66 rfl w.heap.size 75 i0 2 Tryz.underlying66 hi _ _ _ rfl HO.out rfl ?_)
            go_roundw
            case rel => exact ⟨k + 1, by omega, by go_num, HO2.out, HB.out⟩
            case measure => simp [intOf]; omega
          · rw [hpv] at hc
            have HN : Hid (∀ (j : Nat) (u : Value), l[k].2.2[j]? = some u → wr.cell? ((⟨g, o, none⟩ : Addr).add j) = some u) := fun j u hj => by
              rw [Addr.add_lit]
              exact hcs j u hj
            have H1 : Hid (∀ u ∈ l[k].2.2, u.oneCell' = true) := hc1
            have HLn : Hid (l[k].2.2.length = l[k].2.1 * 2) := hcl
            clear hcl hc1 hpv hcs
            go_wp2_with (at_builtin; refine wpList_append_own _ rfl _ _ 66 rfl w.heap.size 75 i0 (Value.agg #[.string ⟨#[]⟩, .nilIface]) 2 32 Tryz.underlying66 hi hz0 hz1 hz2 rfl (by decide) _ _ _ rfl HO.out ⟨g, o, none⟩ l[k].2.1 c l[k].2.2 rfl HLn.out HN.out H1.out (by unfold maxLen; omega) (by omega) hBr ?_)
            intro v' w3 hown' hgrow _
            have HO2 : Hid (w3.ownsRow w.heap.size 75 2 v' (manyO (l.take (k + 1))) (allO (l.take (k + 1)))) := by
              show w3.ownsRow _ _ _ _ _ _
              rw [HT1.out, HT2.out]
              exact hown'
            have HB2 : Hid (Below w.heap.size w w3) := HB.out.grown hgrow hBr (fun b hb => (World.ownsRow.lt HO.out b hb).1)
            clear hown' hgrow
            go_wp2_with fail
            go_roundw
            case rel => exact ⟨k + 1, by omega, by go_num, HO2.out, HB2.out⟩
            case measure => simp [intOf]; omega
        · have hta := HAll.out k (by omega)
          have HO3 : Hid (wr.ownsRow w.heap.size 75 2 u6 (manyO l) (allO l)) := by
            have h := HO.out
            rw [hta] at h
            exact h
          go_wp2_with fail
          go_ret
          exact ⟨u6, rfl, HO3.out, HB.out⟩
end Go.Proofs.YthdgfehfoidnbabGreatDoor
/- Contracts over this translation: what is put into an object. -/
namespace Go.Proofs.YthdgfehfoidnbabGreatDoor
open Go.RowKit
set_option linter.unusedVariables false
set_option linter.unusedSimpArgs false
/-- the cells of fields -/
def cellsF {α : Type} : List (Bs × α) → List Value → List Value
  | f :: fs, u :: us => strV f.1 :: u :: cellsF fs us
  | _, _ => []
theorem cellsF_len {α : Type} : ∀ (fs : List (Bs × α)) (us : List Value), us.length = fs.length → (cellsF fs us).length = fs.length * 2
  | [], [], _ => rfl
  | f :: fs, u :: us, h => by
    have := cellsF_len fs us (by simpa using h)
    simp only [cellsF, List.length_cons, this]
    omega
  | [], _ :: _, h => by simp at h
  | _ :: _, [], h => by simp at h
theorem cellsF_at {α : Type} : ∀ (fs : List (Bs × α)) (us : List Value) (j : Nat) (u : Value), (cellsF fs us)[j]? = some u → ∃ (i : Nat) (f : Bs × α) (v : Value), fs[i]? = some f ∧ us[i]? = some v ∧ ((j = i * 2 ∧ u = strV f.1) ∨ (j = i * 2 + 1 ∧ u = v))
  | [], _, j, u, h => by simp [cellsF] at h
  | _ :: _, [], j, u, h => by simp [cellsF] at h
  | f :: fs, v :: us, 0, u, h => by
    simp [cellsF] at h
    exact ⟨0, f, v, rfl, rfl, Or.inl ⟨rfl, h.symm⟩⟩
  | f :: fs, v :: us, 1, u, h => by
    simp [cellsF] at h
    exact ⟨0, f, v, rfl, rfl, Or.inr ⟨rfl, h.symm⟩⟩
  | f :: fs, v :: us, j + 2, u, h => by
    simp only [cellsF, List.getElem?_cons_succ] at h
    obtain ⟨i, g, x, h1, h2, h3⟩ := cellsF_at fs us j u h
    refine ⟨i + 1, g, x, by simpa using h1, by simpa using h2, ?_⟩
    rcases h3 with ⟨h3, h4⟩ | ⟨h3, h4⟩
    · exact Or.inl ⟨by omega, h4⟩
    · exact Or.inr ⟨by omega, h4⟩
theorem cellsF_get {α : Type} : ∀ (fs : List (Bs × α)) (us : List Value) (i : Nat) (f : Bs × α) (u : Value), fs[i]? = some f → us[i]? = some u → (cellsF fs us)[i * 2]? = some (strV f.1) ∧ (cellsF fs us)[i * 2 + 1]? = some u
  | [], _, i, f, u, h, _ => by simp at h
  | _ :: _, [], i, f, u, _, h => by simp at h
  | g :: fs, v :: us, 0, f, u, h, h2 => by
    simp at h h2
    subst h; subst h2
    exact ⟨rfl, rfl⟩
  | g :: fs, v :: us, i + 1, f, u, h, h2 => by
    have := cellsF_get fs us i f u (by simpa using h) (by simpa using h2)
    have e1 : (i + 1) * 2 = i * 2 + 2 := by omega
    rw [e1]
    exact this
theorem cellsF_append {α : Type} : ∀ (fs gs : List (Bs × α)) (us vs : List Value), us.length = fs.length → cellsF (fs ++ gs) (us ++ vs) = cellsF fs us ++ cellsF gs vs
  | [], gs, [], vs, _ => rfl
  | f :: fs, gs, u :: us, vs, h => by
    have := cellsF_append fs gs us vs (by simpa using h)
    simp only [List.cons_append, cellsF, this]
  | [], _, _ :: _, _, h => by simp at h
  | _ :: _, _, [], _, h => by simp at h
/-- the fields of an object in memory -/
def FItems {n : Nat} (w : World) (fs : List (Bs × J n)) (us : List Value) : Prop := us.length = fs.length ∧ (∀ u ∈ us, u.oneCell' = true) ∧ ∀ (i : Nat) (f : Bs × J n) (u : Value), fs[i]? = some f → us[i]? = some u → S0 w n f.2 u
section
variable {n : Nat} {w w' : World} {fs gs : List (Bs × J n)} {us ts : List Value}
theorem FItems.below (h : FItems w fs us) (hb : Below w.heap.size w w') : FItems w' fs us := ⟨h.1, h.2.1, fun i y u hy hu => (h.2.2 i y u hy hu).on hb⟩
theorem FItems.take (h : FItems w fs us) (k : Nat) : FItems w (fs.take k) (us.take k) := by
  refine ⟨by simp [h.1], fun u hu => h.2.1 u (List.mem_of_mem_take hu), fun i y u hy hu => ?_⟩
  rw [List.getElem?_take] at hy hu
  split at hy
  · rename_i hlt
    rw [if_pos hlt] at hu
    exact h.2.2 i y u hy hu
  · cases hy
theorem FItems.drop (h : FItems w fs us) (k : Nat) : FItems w (fs.drop k) (us.drop k) := by
  refine ⟨by simp [h.1], fun u hu => h.2.1 u (List.mem_of_mem_drop hu), fun i y u hy hu => ?_⟩
  rw [List.getElem?_drop] at hy hu
  exact h.2.2 _ y u hy hu
theorem FItems.append (h : FItems w fs us) (g : FItems w gs ts) : FItems w (fs ++ gs) (us ++ ts) := by
  refine ⟨by simp [h.1, g.1], fun u hu => ?_, fun i y u hy hu => ?_⟩
  · rcases List.mem_append.1 hu with hu | hu
    · exact h.2.1 u hu
    · exact g.2.1 u hu
  · rcases Nat.lt_or_ge i fs.length with hlt | hge
    · rw [List.getElem?_append_left hlt] at hy
      rw [List.getElem?_append_left (by rw [h.1]; exact hlt)] at hu
      exact h.2.2 i y u hy hu
    · rw [List.getElem?_append_right hge] at hy
      rw [List.getElem?_append_right (by rw [h.1]; exact hge), h.1] at hu
      exact g.2.2 _ y u hy hu
theorem fitems_one {nm : Bs} {y : J n} {T : TypeId} {x : Value} (h : S0 w n y (.iface T x)) : FItems w [(nm, y)] [.iface T x] := by
  refine ⟨rfl, fun u hu => by simp at hu; subst hu; rfl, fun i z u hz hu => ?_⟩
  cases i with
  | zero =>
    simp at hz hu
    subst hz; subst hu
    exact h
  | succ i => simp at hz
theorem one_cells (h : FItems w fs us) : ∀ u ∈ cellsF fs us, u.oneCell' = true := by
  intro u hu
  obtain ⟨j, hj, rfl⟩ := List.getElem_of_mem hu
  obtain ⟨i, f, v, h1, h2, h3⟩ := cellsF_at fs us j _ (List.getElem?_eq_getElem hj)
  rcases h3 with ⟨_, h4⟩ | ⟨_, h4⟩
  · rw [h4]; rfl
  · rw [h4]; exact h.2.1 v (List.mem_of_getElem? h2)
theorem St.fitems {av : Nat → Prop} {v : Value} (h : St av w (n + 1) (Sum.inr (Sum.inr fs)) v) : ∃ (p : Option Addr) (g cap : Nat) (us : List Value), v = .iface 66 (.slice p fs.length cap) ∧ ((p = none ∧ fs = [] ∧ cap = 0) ∨ (p = some ⟨g, 0, none⟩ ∧ g < w.heap.size)) ∧ fs.length ≤ cap ∧ cap ≤ maxLen ∧ FItems w fs us ∧ Fields w g fs us := by
  rcases h with ⟨rfl, rfl⟩ | ⟨g, cap, vs, hv, hl, hc, hm, hg, hlt, hcell, hel⟩
  · exact ⟨none, 0, 0, [], rfl, Or.inl ⟨rfl, rfl, rfl⟩, Nat.le_refl _, Nat.zero_le _, ⟨rfl, fun u hu => by simp at hu, fun i y u hy => by simp at hy⟩, ⟨rfl, fun i f u hf => by simp at hf⟩⟩
  · refine ⟨_, g, cap, vs, hv, Or.inr ⟨rfl, hlt⟩, hc, hm, ⟨hl, fun u hu => ?_, fun i y u hy hu => (hel i y u hy hu).s0⟩, ⟨hl, hcell⟩⟩
    obtain ⟨i, hi, rfl⟩ := List.getElem_of_mem hu
    obtain ⟨T, x, hx⟩ := st_iface (hel i fs[i] vs[i] (List.getElem?_eq_getElem (by omega)) (List.getElem?_eq_getElem hi))
    rw [hx]
    rfl
theorem st_of_ownsO {B m : Nat} {v : Value} (h : w.ownsRow B 75 2 v m (cellsF fs us)) (hm : m = fs.length) (hi : FItems w fs us) : S0 w (n + 1) (Sum.inr (Sum.inr fs)) (.iface 66 v) := by
  subst hm
  obtain ⟨_, h2⟩ := h
  rcases h2 with ⟨rfl, h0⟩ | ⟨g, cap, cur, rfl, hb, hh, h1, h3, h4, h5⟩
  · exact Or.inl ⟨List.eq_nil_of_length_eq_zero h0, rfl⟩
  · refine Or.inr ⟨g, cap, us, rfl, hi.1, h1, h3, fun hf => hf, lt_of_block hh, fun i f u hf hu => ?_, hi.2.2⟩
    have hlt : i < fs.length := (List.getElem?_eq_some_iff.1 hf).1
    have hg := cellsF_get fs us i f u hf hu
    have h6 : ∀ j, j < fs.length * 2 → cur[j]? = (cellsF fs us)[j]? := fun j hj => by
      have : (cur.toList.take (fs.length * 2))[j]? = (cellsF fs us)[j]? := by rw [h5]
      rw [List.getElem?_take, if_pos hj, Array.getElem?_toList] at this
      exact this
    rw [cell_of_row _ _ _ _ _ _ hh, cell_of_row _ _ _ _ _ _ hh, h6 _ (by omega), h6 _ (by omega)]
    exact hg
theorem part_takeO {g cap k : Nat} (hg : g < w.heap.size) (hI : FItems w fs us) (hF : Fields w g fs us) (hk : k ≤ fs.length) : PartO w (.slice (some ⟨g, 0, none⟩) k cap) k (cellsF (fs.take k) (us.take k)) := by
  refine ⟨by rw [cellsF_len _ _ (hI.take k).1, List.length_take]; omega, one_cells (hI.take k), Or.inr ⟨g, 0, cap, rfl, fun _ => hg, fun j u hj => ?_⟩⟩
  obtain ⟨i, f, v, h1, h2, h3⟩ := cellsF_at _ _ j u hj
  rw [List.getElem?_take] at h1 h2
  split at h1
  · rename_i hlt
    rw [if_pos hlt] at h2
    have hc := hF.2 i f v h1 h2
    rw [Nat.zero_add]
    rcases h3 with ⟨rfl, rfl⟩ | ⟨rfl, rfl⟩
    · exact hc.1
    · exact hc.2
  · cases h1
theorem part_dropO {g cap k : Nat} (hg : g < w.heap.size) (hI : FItems w fs us) (hF : Fields w g fs us) (hk : k ≤ fs.length) : PartO w (.slice (some ⟨g, k * 2, none⟩) (fs.length - k) cap) (fs.length - k) (cellsF (fs.drop k) (us.drop k)) := by
  refine ⟨by rw [cellsF_len _ _ (hI.drop k).1, List.length_drop], one_cells (hI.drop k), Or.inr ⟨g, k * 2, cap, rfl, fun _ => hg, fun j u hj => ?_⟩⟩
  obtain ⟨i, f, v, h1, h2, h3⟩ := cellsF_at _ _ j u hj
  rw [List.getElem?_drop] at h1 h2
  have hc := hF.2 (k + i) f v h1 h2
  rcases h3 with ⟨rfl, rfl⟩ | ⟨rfl, rfl⟩
  · rw [show k * 2 + i * 2 = (k + i) * 2 from by omega]
    exact hc.1
  · rw [show k * 2 + (i * 2 + 1) = (k + i) * 2 + 1 from by omega]
    exact hc.2
theorem part_endO {g o cap : Nat} : PartO w (.slice (some ⟨g, o, none⟩) 0 cap) 0 [] :=
  ⟨rfl, fun u hu => by simp at hu, Or.inr ⟨g, o, cap, rfl, fun h => absurd h (Nat.lt_irrefl _), fun j u hj => by simp at hj⟩⟩
theorem part_nilO : PartO w (.slice none 0 0) 0 [] := ⟨rfl, fun u hu => by simp at hu, Or.inl ⟨rfl, rfl⟩⟩
theorem part_newO {g : Nat} {nm : Bs} {T : TypeId} {x : Value} (h : w.heap[g]? = some (.cells #[strV nm, .iface T x] 75 (0, 0))) : PartO w (.slice (some ⟨g, 0, none⟩) 1 1) 1 [strV nm, .iface T x] := by
  refine ⟨rfl, fun u hu => ?_, Or.inr ⟨g, 0, 1, rfl, fun _ => lt_of_block h, fun j u hj => ?_⟩⟩
  · simp at hu
    rcases hu with rfl | rfl <;> rfl
  · rw [cell_of_row _ _ _ _ _ _ h]
    match j, hj with
    | 0, hj => simp at hj; subst hj; rfl
    | 1, hj => simp at hj; subst hj; rfl
    | j + 2, hj => simp at hj
theorem part_behindO {g cap k d : Nat} (hg : g < w.heap.size) (hI : FItems w fs us) (hF : Fields w g fs us) (hk : k ≤ fs.length) (hn : fs.length ≤ cap) (hd' : d = fs.length - k) {A : Addr} (hA : (if cap = k then some (⟨g, 0, none⟩ : Addr) else some ⟨g, k * 2, none⟩) = some A) :
    PartO w (.slice (some A) d (cap - k)) d (cellsF (fs.drop k) (us.drop k)) := by
  subst hd'
  split at hA
  · rename_i h
    cases hA
    have h0 : fs.length - k = 0 := by omega
    rw [h0, List.drop_of_length_le (by omega)]
    exact part_endO
  · cases hA
    exact part_dropO hg hI hF hk
end
/-- three slices put together, their own slice at block gg -/
theorem concat3O (B : Nat) (w0 w : World) (p q r : Value) (a b c : Nat) (x y z : List Value) (gg : Nat) (h0 : w0.heap.size = B) (hb : Below B w0 w) (hg : w.heap[gg]? = some (.cells #[p, q, r] 66 (0, 0))) (hp : PartO w p a x) (hq : PartO w q b y) (hr : PartO w r c z) (hm : a + b + c ≤ 100000) :
    Calls Tryz.prog 39 #[.slice (some ⟨gg, 0, none⟩) 3 3] w fun e w' => ∃ v, e = .returned v ∧ Hid (w'.ownsRow B 75 2 v (a + b + c) (x ++ y ++ z)) ∧ Hid (Below B w0 w') := by
  have hs := hb.size
  rw [h0] at hs
  refine (concatO_any [(p, a, x), (q, b, y), (r, c, z)] gg 3 w (by simp) (by simp) (by unfold maxLen; decide) (lt_of_block hg) (fun j t hj => ?_) (fun t ht => ?_) (by simp [manyO]; omega)).mono ?_
  · rw [cell_of_row _ _ _ _ _ _ hg]
    match j, hj with
    | 0, hj => simp at hj; subst hj; rfl
    | 1, hj => simp at hj; subst hj; rfl
    | 2, hj => simp at hj; subst hj; rfl
    | j + 3, hj => simp at hj
  · simp at ht
    rcases ht with rfl | rfl | rfl
    · exact hp
    · exact hq
    · exact hr
  · rintro e w1 ⟨v, rfl, hown, b1⟩
    refine ⟨v, rfl, ?_, hb.trans (b1.mono hs)⟩
    have h2 : manyO [(p, a, x), (q, b, y), (r, c, z)] = a + b + c := by simp [manyO]; omega
    have h3 : allO [(p, a, x), (q, b, y), (r, c, z)] = x ++ y ++ z := by simp [allO]
    rw [h2, h3] at hown
    exact own_base hown hs
theorem putCallO {n : Nat} (fs : List (Bs × J n)) (c : J n) (g cap k bh d : Nat) (us : List Value) (nm : ByteArray) (T : TypeId) (x : Value) (w w1 : World) (hb : Below w.heap.size w w1) (hg : g < w.heap.size) (hlc : fs.length ≤ cap) (hI : FItems w fs us) (hF : Fields w g fs us) (hx : S0 w n c (.iface T x)) (hl : fs.length ≤ 2000) (hk : k ≤ fs.length) (hbh : bh ≤ fs.length) (hd' : d = fs.length - bh) (A : Addr) (hA : (if cap = bh then some (⟨g, 0, none⟩ : Addr) else some ⟨g, bh * 2, none⟩) = some A) :
    Calls Tryz.prog 39 #[.slice (some ⟨w1.heap.size + 1, 0, none⟩) 3 3] ((w1.alloc (.cells #[.string nm, .iface T x] 75)).alloc (.cells #[.slice (some ⟨g, 0, none⟩) k cap, .slice (some ⟨w1.heap.size, 0, none⟩) 1 1, .slice (some A) d (cap - bh)] 66)).drew
      fun e w' => ∃ q m cc, e = .returned (.slice q m cc) ∧ Hid (S0 w' (n + 1) (Sum.inr (Sum.inr (fs.take k ++ (nm.data.toList, c) :: fs.drop bh))) (.iface 66 (.slice q m cc))) ∧ Hid (Below w.heap.size w w') := by
  obtain ⟨e1, e2, e3⟩ := heap_two w1 (.cells #[.string nm, .iface T x] 75) (.cells #[.slice (some ⟨g, 0, none⟩) k cap, .slice (some ⟨w1.heap.size, 0, none⟩) 1 1, .slice (some A) d (cap - bh)] 66)
  have hbw : Below w.heap.size w _ := hb.trans (e3.mono hb.size)
  generalize ((w1.alloc (.cells #[.string nm, .iface T x] 75)).alloc (.cells #[.slice (some ⟨g, 0, none⟩) k cap, .slice (some ⟨w1.heap.size, 0, none⟩) 1 1, .slice (some A) d (cap - bh)] 66)).drew = W at *
  have hgW : g < W.heap.size := by have := hbw.size; omega
  have hnm : Value.string nm = strV nm.data.toList := by unfold strV; rw [ba_self]
  rw [hnm] at e1
  refine (concat3O w.heap.size w W _ _ _ k 1 d (cellsF (fs.take k) (us.take k)) [strV nm.data.toList, .iface T x] (cellsF (fs.drop bh) (us.drop bh)) (w1.heap.size + 1) rfl hbw e2 (part_takeO hgW (hI.below hbw) (hF.below hbw hg) hk) (part_newO e1) (part_behindO hgW (hI.below hbw) (hF.below hbw hg) hbh hlc hd' hA) (by omega)).mono ?_
  rintro e w2 ⟨v, rfl, hown, hb2⟩
  obtain ⟨q, m, cc, rfl⟩ := own_shape hown.out
  refine ⟨q, m, cc, rfl, ?_, hb2⟩
  have hI2 : FItems w2 (fs.take k ++ [(nm.data.toList, c)] ++ fs.drop bh) (us.take k ++ [.iface T x] ++ us.drop bh) := (((hI.take k).append (fitems_one hx)).append (hI.drop bh)).below hb2.out
  have e9 : cellsF (fs.take k ++ [(nm.data.toList, c)] ++ fs.drop bh) (us.take k ++ [.iface T x] ++ us.drop bh) = cellsF (fs.take k) (us.take k) ++ [strV nm.data.toList, .iface T x] ++ cellsF (fs.drop bh) (us.drop bh) := by
    rw [cellsF_append _ _ _ _ (by simp [hI.1]), cellsF_append _ _ _ _ (hI.take k).1]
    rfl
  have hown' := hown.out
  rw [← e9] at hown'
  have := st_of_ownsO hown' (by simp; omega) hI2
  show S0 _ _ _ _
  simpa using this
/-- what is known of what was put into an object -/
def PutOPost {n : Nat} (ys : List (Bs × J n)) (w : World) (e : Ending) (w' : World) : Prop :=
  Below w.heap.size w w' ∧ ∃ T x, e = .returned (.iface T x) ∧ S0 w' (n + 1) (Sum.inr (Sum.inr ys)) (.iface T x)
set_option maxRecDepth 100000 in
set_option maxHeartbeats 4000000 in
theorem putField_there {n : Nat} (fs : List (Bs × J n)) (c : J n) (g cap : Nat) (us : List Value) (T : TypeId) (x : Value) (s : ByteArray) (w : World) (hg : g < w.heap.size) (hlc : fs.length ≤ cap) (hcm : cap ≤ maxLen) (hI : FItems w fs us) (hF : Fields w g fs us) (hr : Rising fs) (hx : S0 w n c (.iface T x)) (hl : fs.length ≤ 2000) (ha : (fs.any fun f => f.1 == s.data.toList) = true) :
    Calls Tryz.prog 36 #[.slice (some ⟨g, 0, none⟩) fs.length cap, .string s, .iface T x] w (PutOPost (setAt fs s.data.toList c) w) := by
  have hFi := find_any g cap fs us s w hF hg hr hl hlc hcm
  rw [ha] at hFi
  obtain ⟨hlt, hfq⟩ := field_idx hr ha
  clear hfq
  have hset : setAt fs s.data.toList c = fs.take (placeOfName fs s.data.toList) ++ (s.data.toList, c) :: fs.drop (placeOfName fs s.data.toList + 1) := by
    unfold setAt
    rw [ha, if_pos rfl]
  unfold maxLen at hcm
  obtain ⟨k, hk⟩ : ∃ k, placeOfName fs s.data.toList = k := ⟨_, rfl⟩
  rw [hk] at hFi hset hlt
  obtain ⟨A, hA⟩ := named_if (cap = k + 1) ⟨g, 0, none⟩ ⟨g, (k + 1) * 2, none⟩
  have HC : Hid (∀ w1, Below w.heap.size w w1 → Calls Tryz.prog 39 #[.slice (some ⟨w1.heap.size + 1, 0, none⟩) 3 3] ((w1.alloc (.cells #[.string s, .iface T x] 75)).alloc (.cells #[.slice (some ⟨g, 0, none⟩) k cap, .slice (some ⟨w1.heap.size, 0, none⟩) 1 1, .slice (some A) (fs.length - (k + 1)) (cap - (k + 1))] 66)).drew
      fun e w' => ∃ q m cc, e = .returned (.slice q m cc) ∧ Hid (S0 w' (n + 1) (Sum.inr (Sum.inr (setAt fs s.data.toList c))) (.iface 66 (.slice q m cc))) ∧ Hid (Below w.heap.size w w')) := by
    intro w1 hb
    rw [hset]
    exact putCallO fs c g cap k (k + 1) (fs.length - (k + 1)) us s T x w w1 hb hg hlc hI hF hx hl (by omega) (by omega) rfl A hA
  have HFi : Hid (Calls Tryz.prog 38 #[.slice (some ⟨g, 0, none⟩) fs.length cap, .string s] w fun e w' => e = .returned (.tuple #[.int .i64 k, .bool true]) ∧ Below w.heap.size w w') := hFi
  have hw1 : IntKind.i64.wrap (k : Int) = (k : Int) := wrap_nat _ (by omega)
  have hw2 : IntKind.i64.wrap ((k : Int) + 1) = (k : Int) + 1 := by rw [IntKind.wrap_i64]; omega
  have h1 : (k : Int) + 1 ≤ (fs.length : Int) := by omega
  have h2 : (0 : Int) ≤ (k : Int) + 1 := by omega
  have h3 : ((k : Int) + 1).toNat = k + 1 := by omega
  have h4 : (k : Int) ≤ (cap : Int) := by omega
  clear hI hF hx hFi hset hk ha hr
  generalize setAt fs s.data.toList c = R at *
  generalize fs.length = len at *
  go_enter Tryz.func36, Tryz.ntmps36
  go_wp2_with fail
  refine Calls.mono HFi.out ?_
  rintro e w1 ⟨rfl, b1⟩
  have HB : Hid (Below w.heap.size w w1) := b1
  clear b1
  go_wp2_with fail
  go_region_with (go_at_call 39; refine Calls.mono (HC.out w1 HB.out) ?_; rintro e w3 ⟨q, m, cc, rfl, HS, HB3⟩)
  all_goals (go_wp2_with fail; go_ret)
  all_goals exact ⟨HB3.out, _, _, rfl, HS.out⟩
set_option maxRecDepth 100000 in
set_option maxHeartbeats 4000000 in
theorem putField_new {n : Nat} (fs : List (Bs × J n)) (c : J n) (g cap : Nat) (us : List Value) (T : TypeId) (x : Value) (s : ByteArray) (w : World) (hg : g < w.heap.size) (hlc : fs.length ≤ cap) (hcm : cap ≤ maxLen) (hI : FItems w fs us) (hF : Fields w g fs us) (hr : Rising fs) (hx : S0 w n c (.iface T x)) (hl : fs.length ≤ 2000) (ha : (fs.any fun f => f.1 == s.data.toList) = false) :
    Calls Tryz.prog 36 #[.slice (some ⟨g, 0, none⟩) fs.length cap, .string s, .iface T x] w (PutOPost (setAt fs s.data.toList c) w) := by
  have hFi := find_any g cap fs us s w hF hg hr hl hlc hcm
  rw [ha] at hFi
  have hlt := place_le fs s.data.toList
  have hset : setAt fs s.data.toList c = fs.take (placeOfName fs s.data.toList) ++ (s.data.toList, c) :: fs.drop (placeOfName fs s.data.toList) := by
    unfold setAt
    rw [ha, if_neg (by decide), Nat.add_zero]
  unfold maxLen at hcm
  obtain ⟨k, hk⟩ : ∃ k, placeOfName fs s.data.toList = k := ⟨_, rfl⟩
  rw [hk] at hFi hset hlt
  obtain ⟨A, hA⟩ := named_if (cap = k) ⟨g, 0, none⟩ ⟨g, k * 2, none⟩
  have HC : Hid (∀ w1, Below w.heap.size w w1 → Calls Tryz.prog 39 #[.slice (some ⟨w1.heap.size + 1, 0, none⟩) 3 3] ((w1.alloc (.cells #[.string s, .iface T x] 75)).alloc (.cells #[.slice (some ⟨g, 0, none⟩) k cap, .slice (some ⟨w1.heap.size, 0, none⟩) 1 1, .slice (some A) (fs.length - k) (cap - k)] 66)).drew
      fun e w' => ∃ q m cc, e = .returned (.slice q m cc) ∧ Hid (S0 w' (n + 1) (Sum.inr (Sum.inr (setAt fs s.data.toList c))) (.iface 66 (.slice q m cc))) ∧ Hid (Below w.heap.size w w')) := by
    intro w1 hb
    rw [hset]
    exact putCallO fs c g cap k k (fs.length - k) us s T x w w1 hb hg hlc hI hF hx hl (by omega) (by omega) rfl A hA
  have HFi : Hid (Calls Tryz.prog 38 #[.slice (some ⟨g, 0, none⟩) fs.length cap, .string s] w fun e w' => e = .returned (.tuple #[.int .i64 k, .bool false]) ∧ Below w.heap.size w w') := hFi
  have hw1 : IntKind.i64.wrap (k : Int) = (k : Int) := wrap_nat _ (by omega)
  have h1 : (k : Int) ≤ (fs.length : Int) := by omega
  have h4 : (k : Int) ≤ (cap : Int) := by omega
  clear hI hF hx hFi hset hk ha hr
  generalize setAt fs s.data.toList c = R at *
  generalize fs.length = len at *
  go_enter Tryz.func36, Tryz.ntmps36
  go_wp2_with fail
  refine Calls.mono HFi.out ?_
  rintro e w1 ⟨rfl, b1⟩
  have HB : Hid (Below w.heap.size w w1) := b1
  clear b1
  go_wp2_with fail
  go_region_with (go_at_call 39; refine Calls.mono (HC.out w1 HB.out) ?_; rintro e w3 ⟨q, m, cc, rfl, HS, HB3⟩)
  all_goals (go_wp2_with fail; go_ret)
  all_goals exact ⟨HB3.out, _, _, rfl, HS.out⟩
theorem putCallNilO {n : Nat} (c : J n) (nm : ByteArray) (T : TypeId) (x : Value) (w w1 : World) (hb : Below w.heap.size w w1) (hx : S0 w n c (.iface T x)) :
    Calls Tryz.prog 39 #[.slice (some ⟨w1.heap.size + 1, 0, none⟩) 3 3] ((w1.alloc (.cells #[.string nm, .iface T x] 75)).alloc (.cells #[.slice none 0 0, .slice (some ⟨w1.heap.size, 0, none⟩) 1 1, .slice none 0 0] 66)).drew
      fun e w' => ∃ q m cc, e = .returned (.slice q m cc) ∧ Hid (S0 w' (n + 1) (Sum.inr (Sum.inr [(nm.data.toList, c)])) (.iface 66 (.slice q m cc))) ∧ Hid (Below w.heap.size w w') := by
  obtain ⟨e1, e2, e3⟩ := heap_two w1 (.cells #[.string nm, .iface T x] 75) (.cells #[.slice none 0 0, .slice (some ⟨w1.heap.size, 0, none⟩) 1 1, .slice none 0 0] 66)
  have hbw : Below w.heap.size w _ := hb.trans (e3.mono hb.size)
  generalize ((w1.alloc (.cells #[.string nm, .iface T x] 75)).alloc (.cells #[.slice none 0 0, .slice (some ⟨w1.heap.size, 0, none⟩) 1 1, .slice none 0 0] 66)).drew = W at *
  have hnm : Value.string nm = strV nm.data.toList := by unfold strV; rw [ba_self]
  rw [hnm] at e1
  refine (concat3O w.heap.size w W _ _ _ 0 1 0 [] [strV nm.data.toList, .iface T x] [] (w1.heap.size + 1) rfl hbw e2 part_nilO (part_newO e1) part_nilO (by omega)).mono ?_
  rintro e w2 ⟨v, rfl, hown, hb2⟩
  obtain ⟨q, m, cc, rfl⟩ := own_shape hown.out
  refine ⟨q, m, cc, rfl, ?_, hb2⟩
  exact st_of_ownsO (fs := [(nm.data.toList, c)]) (us := [.iface T x]) hown.out (by simp) ((fitems_one hx).below hb2.out)
set_option maxRecDepth 100000 in
set_option maxHeartbeats 4000000 in
theorem putField_nil {n : Nat} (c : J n) (T : TypeId) (x : Value) (s : ByteArray) (w : World) (hx : S0 w n c (.iface T x)) :
    Calls Tryz.prog 36 #[.slice none 0 0, .string s, .iface T x] w (PutOPost [(s.data.toList, c)] w) := by
  have HC : Hid (∀ w1, Below w.heap.size w w1 → _) := fun w1 hb => putCallNilO c s T x w w1 hb hx
  have HFi : Hid (Calls Tryz.prog 38 #[.slice none 0 0, .string s] w fun e w' => e = .returned (.tuple #[.int .i64 0, .bool false]) ∧ Below w.heap.size w w') := find_nil s w
  clear hx
  go_enter Tryz.func36, Tryz.ntmps36
  go_wp2_with fail
  refine Calls.mono HFi.out ?_
  rintro e w1 ⟨rfl, b1⟩
  have HB : Hid (Below w.heap.size w w1) := b1
  clear b1
  go_wp2_with fail
  go_region_with (go_at_call 39; refine Calls.mono (HC.out w1 HB.out) ?_; rintro e w3 ⟨q, m, cc, rfl, HS, HB3⟩)
  all_goals (go_wp2_with fail; go_ret)
  all_goals exact ⟨HB3.out, _, _, rfl, HS.out⟩
theorem putField_any {n : Nat} (av : Nat → Prop) (fs : List (Bs × J n)) (c : J n) (v : Value) (T : TypeId) (x : Value) (s : ByteArray) (w : World) (hSt : St av w (n + 1) (Sum.inr (Sum.inr fs)) (.iface 66 v)) (hr : Rising fs) (hx : S0 w n c (.iface T x)) (hl : fs.length ≤ 2000) :
    Calls Tryz.prog 36 #[v, .string s, .iface T x] w (PutOPost (setAt fs s.data.toList c) w) := by
  obtain ⟨p, g, cap, us, hv, hp, hlc, hcm, hI, hF⟩ := hSt.fitems
  cases hv
  rcases hp with ⟨rfl, rfl, rfl⟩ | ⟨rfl, hg⟩
  · exact putField_nil c T x s w hx
  · cases ha : (fs.any fun f => f.1 == s.data.toList) with
    | true => exact putField_there fs c g cap us T x s w hg hlc hcm hI hF hr hx hl ha
    | false => exact putField_new fs c g cap us T x s w hg hlc hcm hI hF hr hx hl ha
end Go.Proofs.YthdgfehfoidnbabGreatDoor
/- Contracts over this translation: what is put where a step leads. -/
namespace Go.Proofs.YthdgfehfoidnbabGreatDoor
open Go.RowKit
set_option linter.unusedVariables false
set_option linter.unusedSimpArgs false
/-- what is known of a value that was made -/
def MadePost (n : Nat) (r : Except Nat (J n)) (w : World) (e : Ending) (w' : World) : Prop :=
  Below w.heap.size w w' ∧ ((∃ er : Nat, r = .error er ∧ er ≠ 0 ∧ er < 100 ∧ e = .returned (.tuple #[.nilIface, .int .i64 er])) ∨ ∃ j' T x, r = .ok j' ∧ e = .returned (.tuple #[.iface T x, .int .i64 0]) ∧ S0 w' n j' (.iface T x))
set_option maxRecDepth 100000 in
set_option maxHeartbeats 1000000 in
theorem put_leaf (l : Leaf) (s : ByteArray) (y : Value) (w : World) : Calls Tryz.prog 21 #[leafV l, .string s, y] w fun e w' => e = .returned (.tuple #[.nilIface, .int .i64 7]) ∧ Below w.heap.size w w' := by
  match l with
  | none =>
    obtain ⟨a1, a2, a3, a4, a5, a6⟩ := tas_Null
    unfold leafV
    go_enter Tryz.func21, Tryz.ntmps21
    go_wp2_with fail
    go_ret2
    exact ⟨rfl, Below.refl _ _⟩
  | some (Sum.inl b) =>
    obtain ⟨a1, a2, a3, a4, a5, a6⟩ := tas_Bool
    unfold leafV
    go_enter Tryz.func21, Tryz.ntmps21
    go_wp2_with fail
    go_ret2
    exact ⟨rfl, Below.refl _ _⟩
  | some (Sum.inr (Sum.inl i)) =>
    obtain ⟨a1, a2, a3, a4, a5, a6⟩ := tas_Number
    unfold leafV
    go_enter Tryz.func21, Tryz.ntmps21
    go_wp2_with fail
    go_ret2
    exact ⟨rfl, Below.refl _ _⟩
  | some (Sum.inr (Sum.inr t)) =>
    obtain ⟨a1, a2, a3, a4, a5, a6⟩ := tas_Text
    unfold leafV
    go_enter Tryz.func21, Tryz.ntmps21
    go_wp2_with fail
    go_ret2
    exact ⟨rfl, Below.refl _ _⟩
theorem put_leafP {n : Nat} (l : Leaf) (s : ByteArray) (c : J n) (y : Value) (w : World) : Calls Tryz.prog 21 #[leafV l, .string s, y] w (MadePost (n + 1) (putAt (Sum.inl l) s.data.toList c) w) := by
  refine (put_leaf l s y w).mono ?_
  rintro e w1 ⟨rfl, b1⟩
  exact ⟨b1, Or.inl ⟨7, rfl, by decide, by decide, rfl⟩⟩
set_option maxRecDepth 100000 in
set_option maxHeartbeats 2000000 in
theorem put_list2 {n : Nat} (xs : List (J n)) (c : J n) (v : Value) (s : ByteArray) (T : TypeId) (x : Value) (w : World) (hSt : S0 w (n + 1) (Sum.inr (Sum.inl xs)) v) (hx : S0 w n c (.iface T x)) (hl : xs.length ≤ 2000) (hs : s.size ≤ 8000000) (hE : Env w) :
    Calls Tryz.prog 21 #[v, .string s, .iface T x] w (MadePost (n + 1) (putAt (Sum.inr (Sum.inl xs)) s.data.toList c) w) := by
  obtain ⟨a1, a2, a3, a4, a5, a6⟩ := tas_List
  obtain ⟨p, g, cap, us, rfl, _⟩ := hSt.items
  have hP := putItem_any _ xs c _ T x s w hSt hx hl hs hE
  have HE : Hid (putAt (Sum.inr (Sum.inl xs)) s.data.toList c = match (putIdx xs.length s.data.toList).map fun i => xs.take i ++ c :: xs.drop (i + 1) with
      | none => .error eNone
      | some ys => .ok (Sum.inr (Sum.inl ys))) := by
    show putAt _ _ _ = _
    unfold putAt
    cases hq : putIdx xs.length s.data.toList <;> simp [hq]
  generalize ((putIdx xs.length s.data.toList).map fun i => xs.take i ++ c :: xs.drop (i + 1)) = o at *
  generalize putAt (Sum.inr (Sum.inl xs)) s.data.toList c = r at *
  have HP : Hid (Calls Tryz.prog 37 #[.slice p xs.length cap, .string s, .iface T x] w (PutLPost o w)) := hP
  clear hP hSt hx hE
  go_enter Tryz.func21, Tryz.ntmps21
  go_wp2_with fail
  refine Calls.mono HP.out ?_
  rintro e w1 ⟨b1, h1⟩
  have HB : Hid (Below w.heap.size w w1) := b1
  clear b1
  rcases h1 with ⟨h1, rfl⟩ | ⟨ys, T', x', h1, rfl, h2⟩
  · have HR : Hid (r = .error 7) := by have := HE.out; rw [h1] at this; exact this
    clear h1
    go_wp2_with fail
    go_ret2
    exact ⟨HB.out, Or.inl ⟨7, HR.out, by decide, by decide, rfl⟩⟩
  · have HR : Hid (r = .ok (Sum.inr (Sum.inl ys))) := by have := HE.out; rw [h1] at this; exact this
    have HS : Hid (S0 w1 (n + 1) (Sum.inr (Sum.inl ys)) (.iface T' x')) := h2
    clear h1 h2
    go_wp2_with fail
    go_ret2
    exact ⟨HB.out, Or.inr ⟨_, _, _, HR.out, rfl, HS.out⟩⟩
set_option maxRecDepth 100000 in
set_option maxHeartbeats 2000000 in
theorem put_obj2 {n : Nat} (fs : List (Bs × J n)) (c : J n) (v : Value) (s : ByteArray) (T : TypeId) (x : Value) (w : World) (hSt : S0 w (n + 1) (Sum.inr (Sum.inr fs)) v) (hr : Rising fs) (hx : S0 w n c (.iface T x)) (hl : fs.length ≤ 2000) :
    Calls Tryz.prog 21 #[v, .string s, .iface T x] w (MadePost (n + 1) (putAt (Sum.inr (Sum.inr fs)) s.data.toList c) w) := by
  obtain ⟨a1, a2, a3, a4, a5, a6⟩ := tas_Object
  obtain ⟨p, g, cap, us, rfl, _⟩ := hSt.fitems
  have hP := putField_any _ fs c _ T x s w hSt hr hx hl
  have HE : Hid (putAt (Sum.inr (Sum.inr fs)) s.data.toList c = .ok (Sum.inr (Sum.inr (setAt fs s.data.toList c)))) := rfl
  generalize setAt fs s.data.toList c = ys at *
  generalize putAt (Sum.inr (Sum.inr fs)) s.data.toList c = r at *
  have HP : Hid (Calls Tryz.prog 36 #[.slice p fs.length cap, .string s, .iface T x] w (PutOPost ys w)) := hP
  clear hP hSt hx hr
  go_enter Tryz.func21, Tryz.ntmps21
  go_wp2_with fail
  refine Calls.mono HP.out ?_
  rintro e w1 ⟨b1, T', x', rfl, h2⟩
  have HB : Hid (Below w.heap.size w w1) := b1
  have HS : Hid (S0 w1 (n + 1) (Sum.inr (Sum.inr ys)) (.iface T' x')) := h2
  clear b1 h2
  go_wp2_with fail
  go_ret2
  exact ⟨HB.out, Or.inr ⟨_, _, _, HE.out, rfl, HS.out⟩⟩
theorem put_any {n : Nat} (j : J (n + 1)) (c : J n) (v : Value) (s : ByteArray) (T : TypeId) (x : Value) (w : World) (hSt : S0 w (n + 1) j v) (hr : Rise (n + 1) j) (hn : nodes (n + 1) j ≤ 2000) (hx : S0 w n c (.iface T x)) (hs : s.size ≤ 8000000) (hE : Env w) :
    Calls Tryz.prog 21 #[v, .string s, .iface T x] w (MadePost (n + 1) (putAt j s.data.toList c) w) := by
  match j, hSt, hr, hn with
  | Sum.inl l, hSt, hr, hn =>
    have e : v = leafV l := hSt
    subst e
    exact put_leafP l s c _ w
  | Sum.inr (Sum.inl xs), hSt, hr, hn => exact put_list2 xs c v s T x w hSt hx (by have := len_nodes_list xs; omega) hs hE
  | Sum.inr (Sum.inr fs), hSt, hr, hn => exact put_obj2 fs c v s T x w hSt hr.1 hx (by have := len_nodes_obj fs; omega)
theorem strs_tail {w : World} {g o cap : Nat} {s : Bs} {L : List Bs} (h : Strs w (.slice (some ⟨g, o, none⟩) (s :: L).length cap) (s :: L)) {A : Addr} (hA : (if cap = 1 then some (⟨g, o, none⟩ : Addr) else some ⟨g, o + 1, none⟩) = some A) : Strs w (.slice (some A) L.length (cap - 1)) L := by
  rcases h with ⟨h, _⟩ | ⟨g', o', cap', hv, h1, h2, h3, h4⟩
  · cases h
  · simp only [Value.slice.injEq, Option.some.injEq, Addr.mk.injEq] at hv
    obtain ⟨⟨rfl, rfl, _⟩, _, rfl⟩ := hv
    split at hA
    · rename_i hc
      have h0 : L = [] := List.eq_nil_of_length_eq_zero (by simp at h1; omega)
      subst h0
      exact Or.inl ⟨rfl, _, _, rfl⟩
    · cases hA
      refine Or.inr ⟨g, o + 1, cap - 1, rfl, by simp at h1; omega, by omega, h3, fun i t ht => ?_⟩
      have := h4 (i + 1) t (by simpa using ht)
      rw [show o + 1 + i = o + (i + 1) from by omega]
      exact this
end Go.Proofs.YthdgfehfoidnbabGreatDoor
