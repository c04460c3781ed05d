/- Contract over this translation: the names of what lives and what is wanted. -/
import Derived.Test.YtaogilpkeeigoabGreatDoorThrNm
namespace Go.Proofs.YtaogilpkeeigoabGreatDoor
open Go.RowKit
set_option linter.unusedVariables false
set_option linter.unusedSimpArgs false
theorem two_form {w : World} {B k : Nat} {v : Value} {n : Nat} {F : List (Bs × J n)} {U : List Value} (h : w.ownsRow B 83 2 v k (flat F U)) (hk : k = F.length) (hl : U.length = F.length) (hif : ∀ u ∈ U, ∃ T x, u = .iface T x) :
    ∃ p cap, v = .slice p F.length cap ∧ F.length ≤ cap ∧ cap ≤ maxLen ∧ ∀ i (hi : i < F.length), ∃ g T x, p = some ⟨g, 0, none⟩ ∧ g < w.heap.size ∧ w.cell? ⟨g, i * 2, none⟩ = some (.string ⟨F[i].1.toArray⟩) ∧ w.cell? ⟨g, i * 2 + 1, none⟩ = some (.iface T x) := by
  subst hk
  obtain ⟨h1, ⟨rfl, h0⟩ | ⟨g, cap, cur, rfl, hB, hg, hc, hm, hs, ht⟩⟩ := h
  · exact ⟨none, 0, by rw [h0], by omega, Nat.zero_le _, fun i hi => by omega⟩
  · refine ⟨_, cap, rfl, hc, hm, fun i hi => ?_⟩
    have hiU : i < U.length := by omega
    obtain ⟨T, x, hx⟩ := hif U[i] (List.getElem_mem hiU)
    obtain ⟨g1, g2⟩ := flat_get F U i _ _ (List.getElem?_eq_getElem hi) (List.getElem?_eq_getElem hiU)
    rw [hx] at g2
    have hat : ∀ (j : Nat) (u : Value), (flat F U)[j]? = some u → w.cell? ⟨g, j, none⟩ = some u := fun j u hu => by
      rw [cell_of_row _ _ _ _ _ _ hg]
      rw [← ht, List.getElem?_take] at hu
      split at hu
      · rw [Array.getElem?_toList] at hu; exact hu
      · cases hu
    exact ⟨g, T, x, rfl, lt_of_block hg, hat _ _ g1, hat _ _ g2⟩
def NLoop (w2 : World) {n : Nat} (F : List (Bs × J n)) (x i : Value) (wr : World) : Prop :=
  ∃ k : Nat, k ≤ F.length ∧ i = .int .i64 k ∧ OwnN w2.heap.size wr x ((F.take k).map fun f => f.1) ∧ Below w2.heap.size w2 wr
set_option maxRecDepth 100000 in
set_option maxHeartbeats 4000000 in
theorem placeNames_gen {n : Nat} (F : List (Bs × J n)) (va vb vc : Value) (p2 p3 : Option Addr) (k2 k3 c2 c3 : Nat) (w : World) (va' : IsV va) (vb' : IsV vb) (vc' : IsV vc) (hFl : F.length ≤ 4000)
    (hF2 : ∀ w1, Calls Tryz.prog 112 #[vb] w1 fun e w' => e = .returned (.slice p2 k2 c2) ∧ w' = w1) (hF3 : ∀ w1, Calls Tryz.prog 112 #[vc] w1 fun e w' => e = .returned (.slice p3 k3 c3) ∧ w' = w1)
    (hC : ∀ w1, Below w.heap.size w w1 → Calls Tryz.prog 55 #[.slice (some ⟨w1.heap.size, 0, none⟩) 2 2] (w1.alloc (.cells #[.slice p2 k2 c2, .slice p3 k3 c3] 80)) fun e w' => ∃ p cap, e = .returned (.slice p F.length cap) ∧ F.length ≤ cap ∧ cap ≤ maxLen ∧ Below w.heap.size w w' ∧ ∀ i (hi : i < F.length), ∃ g T x, p = some ⟨g, 0, none⟩ ∧ g < w'.heap.size ∧ w'.cell? ⟨g, i * 2, none⟩ = some (.string ⟨F[i].1.toArray⟩) ∧ w'.cell? ⟨g, i * 2 + 1, none⟩ = some (.iface T x)) :
    Calls Tryz.prog 69 #[.agg #[va, vb, vc]] w fun e w' => ∃ v, e = .returned v ∧ HoldsL w.heap.size w' v (Lib.compact (sortB (F.map fun f => f.1))) ∧ Below w.heap.size w w' := by
  have HF2 : Hid (∀ w1, Calls Tryz.prog 112 #[vb] w1 fun e w' => e = .returned (.slice p2 k2 c2) ∧ w' = w1) := hF2
  have HF3 : Hid (∀ w1, Calls Tryz.prog 112 #[vc] w1 fun e w' => e = .returned (.slice p3 k3 c3) ∧ w' = w1) := hF3
  have HC : Hid (∀ w1, Below w.heap.size w w1 → Calls Tryz.prog 55 #[.slice (some ⟨w1.heap.size, 0, none⟩) 2 2] (w1.alloc (.cells #[.slice p2 k2 c2, .slice p3 k3 c3] 80)) fun e w' => ∃ p cap, e = .returned (.slice p F.length cap) ∧ F.length ≤ cap ∧ cap ≤ maxLen ∧ Below w.heap.size w w' ∧ ∀ i (hi : i < F.length), ∃ g T x, p = some ⟨g, 0, none⟩ ∧ g < w'.heap.size ∧ w'.cell? ⟨g, i * 2, none⟩ = some (.string ⟨F[i].1.toArray⟩) ∧ w'.cell? ⟨g, i * 2 + 1, none⟩ = some (.iface T x)) := hC
  have HP : Hid (Box3 (w.alloc (.cells #[va, vb, vc] 88)) w.heap.size va vb vc) := box3_new w _ _ _
  have HB0 : Hid (Below w.heap.size w (w.alloc (.cells #[va, vb, vc] 88))) := (Below.refl _ _).alloc (Nat.le_refl _) _
  obtain ⟨i0, hi, hz0, hz1, hz2⟩ := info_parts info_strN
  clear hF2 hF3 hC
  go_enter Tryz.func69, Tryz.ntmps69
  go_wp2_with fail
  obtain ⟨w0, hw0⟩ : ∃ w0, w0 = w.alloc (.cells #[va, vb, vc] 88) := ⟨_, rfl⟩
  rw [← hw0] at HP HB0 ⊢
  clear hw0
  have r1 := HP.out.c1
  have r2 := HP.out.c2
  go_region_with (first | (go_at_call_of 112 vb; refine Calls.mono (HF2.out _) ?_; rintro e _ ⟨rfl, rfl⟩) | (go_at_call_of 112 vc; refine Calls.mono (HF3.out _) ?_; rintro e _ ⟨rfl, rfl⟩) | (go_at_call 55; refine Calls.mono (HC.out _ (by exact HB0.out.drew)) ?_; rintro e w2 ⟨p, cap, rfl, hcp, hcm, HB2, HFc⟩))
  all_goals
    unfold maxLen at hcm
    have HB2' : Hid (Below w.heap.size w w2) := HB2
    have HFd : Hid (∀ w3, Below w2.heap.size w2 w3 → ∀ i (hi : i < F.length), ∃ g T x, p = some ⟨g, 0, none⟩ ∧ w3.cell? ⟨g, i * 2, none⟩ = some (.string ⟨F[i].1.toArray⟩) ∧ w3.cell? ⟨g, i * 2 + 1, none⟩ = some (.iface T x)) := fun w3 b3 i hi => by
      obtain ⟨g, T, x, e, hg, h1, h2⟩ := HFc i hi
      exact ⟨g, T, x, e, by rw [b3.cell (p := ⟨g, i * 2, none⟩) hg]; exact h1, by rw [b3.cell (p := ⟨g, i * 2 + 1, none⟩) hg]; exact h2⟩
    clear HB2 HFc r1 r2
    go_wp2_with fail
    simp only [List.getElem_toArray, List.getElem_cons_succ, List.getElem_cons_zero, Act.put, List.setIfInBounds_toArray, List.set_cons_zero, List.set_cons_succ]
    go_loopw [3, 15] (fun x i wr => NLoop w2 F x i wr) (fun _ i _ => F.length - (intOf i).toNat)
    case atStart => exact ⟨0, Nat.zero_le _, rfl, World.ownsRow_nil _ _ _ _, Below.refl _ _⟩
    case round =>
      obtain ⟨k, hk, rfl, hO, hB⟩ := hrel
      have HO : Hid (OwnN w2.heap.size wr u3 ((F.take k).map fun f => f.1)) := hO
      have HB : Hid (Below w2.heap.size w2 wr) := hB
      have hB9 := hB.size
      clear hO hB
      by_cases hlt : k < F.length
      · obtain ⟨g, T, x, rfl, d1, d2⟩ := HFd.out wr HB.out k hlt
        have hkl : ((F.take k).map fun f => f.1).length = k := by rw [List.length_map, List.length_take]; omega
        have htk : ((F.take (k + 1)).map fun f => f.1) = ((F.take k).map fun f => f.1) ++ [F[k].1] := by
          rw [List.take_succ_eq_append_getElem hlt, List.map_append]
          rfl
        obtain ⟨L, hL⟩ : ∃ L, ((F.take k).map fun f => f.1) = L := ⟨_, rfl⟩
        rw [hL] at HO hkl htk
        have HTk : Hid (((F.take (k + 1)).map fun f => f.1) = L ++ [F[k].1]) := htk
        have HKl : Hid (L.length = k) := hkl
        clear htk hL
        have hkI : (k : Int) < (F.length : Int) := by omega
        clear hkl
        generalize F[k].1 = nm at *
        go_wp2_with (at_builtin; refine wpList_append_own _ rfl _ _ 34 rfl w2.heap.size 9 i0 (.string ⟨#[]⟩) 1 16 Tryz.underlying34 hi hz0 hz1 hz2 rfl (by decide) _ _ _ rfl (World.ownsRow.alloc (World.ownsRow.alloc (HO.out) _) _) ⟨wr.heap.size + 1, 0, none⟩ 1 1 [.string ⟨nm.toArray⟩] rfl rfl ?c1 ?c2 ?c3 ?c4 ?c5 ?_)
        case c1 =>
          have h9 := newN_at (wr.alloc (.cells #[.string ⟨nm.toArray⟩, .iface T x] 83)) (.string ⟨nm.toArray⟩) 9
          simpa using h9
        case c2 => exact one_of rfl
        case c3 => rw [HKl.out]; unfold maxLen; omega
        case c4 => rw [HKl.out]; omega
        case c5 => simp; omega
        intro v' w1 hown' hgrow _
        have HO1 : Hid (OwnN w2.heap.size w1 v' ((F.take (k + 1)).map fun f => f.1)) := by
          show OwnN _ _ _ _
          rw [HTk.out]
          exact ownN_snoc hown'
        have HB1 : Hid (Below w2.heap.size w2 w1) := ((HB.out.alloc (by omega) _).alloc (by simp; omega) _).grown hgrow (by simp; omega) (fun b hb => (World.ownsRow.lt HO.out b hb).1)
        clear hown' hgrow
        go_wp2_with fail
        go_roundw
        case rel =>
          have hrelN : NLoop w2 F v' (.int .i64 ((k : Int) + 1)) w1 := ⟨k + 1, by omega, by go_num, HO1.out, HB1.out⟩
          first | exact hrelN | ((repeat apply Exists.intro); refine ⟨hrelN, ?_⟩; first | rfl | exact ⟨rfl, rfl⟩ | exact ⟨rfl, rfl, rfl⟩)
        case measure => simp [intOf]; omega
      · have HT : Hid (((F.take k).map fun f => f.1) = F.map fun f => f.1) := by show _ = _; rw [List.take_of_length_le (by omega)]
        have HH : Hid (HoldsL w.heap.size wr u3 (F.map fun f => f.1)) := by
          show HoldsL _ _ _ _
          have h9 := HO.out.holds
          rw [HT.out] at h9
          obtain ⟨q, cq, e1, e2, e3, e4⟩ := h9
          refine ⟨q, cq, e1, e2, e3, ?_⟩
          rcases e4 with e4 | ⟨g, a1, a2, a3, a4⟩
          · exact Or.inl e4
          · exact Or.inr ⟨g, a1, Nat.le_trans HB2'.out.size a2, a3, a4⟩
        have HBw : Hid (Below w.heap.size w wr) := HB2'.out.trans (HB.out.mono HB2'.out.size)
        have hml : (F.map fun f => f.1).length ≤ 100000 := by rw [List.length_map]; omega
        go_wp2_with fail
        refine (sortN_any HH.out HBw.out.size hml).mono ?_
        rintro e w4 ⟨rfl, h4, b4⟩
        have HH4 : Hid (HoldsL w.heap.size w4 u3 (sortB (F.map fun f => f.1))) := h4
        have HB4 : Hid (Below w.heap.size w w4) := HBw.out.trans b4
        clear h4 b4
        go_wp2_with fail
        refine (compN_any HH4.out HB4.out.size).mono ?_
        rintro e w5 ⟨v5, rfl, h5, b5⟩
        have HH5 : Hid (HoldsL w.heap.size w5 v5 (Lib.compact (sortB (F.map fun f => f.1)))) := h5
        have HB5 : Hid (Below w.heap.size w w5) := HB4.out.trans b5
        clear h5 b5
        go_wp2_with fail
        go_ret
        exact ⟨v5, rfl, HH5.out, HB5.out⟩
theorem placeNames_any (av : Nat → Prop) (n : Nat) (b c : Option (J (n + 1))) (va vb vc : Value) (w : World) (ha : IsV va) (hb : OptV av w (n + 1) b vb) (hc : OptV av w (n + 1) c vc) (lb : (fieldsP b).length ≤ 2000) (lc : (fieldsP c).length ≤ 2000) :
    Calls Tryz.prog 69 #[.agg #[va, vb, vc]] w fun e w' => ∃ v, e = .returned v ∧ HoldsL w.heap.size w' v (namesU (fieldsP b) (fieldsP c)) ∧ Below w.heap.size w w' := by
  obtain ⟨p2, c2, f2, s2⟩ := fieldsOf_val av n b vb w hb
  obtain ⟨p3, c3, f3, s3⟩ := fieldsOf_val av n c vc w hc
  obtain ⟨us2, l2, i2, t2⟩ := part_objO s2
  obtain ⟨us3, l3, i3, t3⟩ := part_objO s3
  refine placeNames_gen (fieldsP b ++ fieldsP c) va vb vc p2 p3 _ _ c2 c3 w ha hb.isV hc.isV (by rw [List.length_append]; omega) f2 f3 (fun w1 b1 => ?_)
  have hn : (w1.alloc (.cells #[.slice p2 (fieldsP b).length c2, .slice p3 (fieldsP c).length c3] 80)).heap[w1.heap.size]? = some (.cells #[.slice p2 (fieldsP b).length c2, .slice p3 (fieldsP c).length c3] 80 (0, 0)) := heap_alloc_new w1 _
  have ba : Below w.heap.size w (w1.alloc (.cells #[.slice p2 (fieldsP b).length c2, .slice p3 (fieldsP c).length c3] 80)) := b1.alloc b1.size _
  have h9 := concatO_any [(.slice p2 (fieldsP b).length c2, (fieldsP b).length, flat (fieldsP b) us2), (.slice p3 (fieldsP c).length c3, (fieldsP c).length, flat (fieldsP c) us3)] w1.heap.size 2 (w1.alloc (.cells #[.slice p2 (fieldsP b).length c2, .slice p3 (fieldsP c).length c3] 80)) (by simp) (by simp) (by unfold maxLen; omega) (by simp) (two_cells hn _ _ _ _)
    (fun p hp => by
      simp only [List.mem_cons, List.not_mem_nil, or_false] at hp
      rcases hp with rfl | rfl
      · exact t2.below ba
      · exact t3.below ba) (by simp [manyO]; omega)
  refine h9.mono ?_
  rintro e w2 ⟨v, rfl, hown, b2⟩
  have b02 := ba.trans (b2.mono ba.size)
  have e1 : manyO [(Value.slice p2 (fieldsP b).length c2, (fieldsP b).length, flat (fieldsP b) us2), (.slice p3 (fieldsP c).length c3, (fieldsP c).length, flat (fieldsP c) us3)] = (fieldsP b ++ fieldsP c).length := by simp [manyO]
  have e2 : allO [(Value.slice p2 (fieldsP b).length c2, (fieldsP b).length, flat (fieldsP b) us2), (.slice p3 (fieldsP c).length c3, (fieldsP c).length, flat (fieldsP c) us3)] = flat (fieldsP b ++ fieldsP c) (us2 ++ us3) := by
    rw [flat_append _ _ _ _ l2]
    simp [allO]
  rw [e1, e2] at hown
  obtain ⟨p, cap, rfl, h1, h2, h3⟩ := two_form hown rfl (by simp [l2, l3]) (fun u hu => by
    rcases List.mem_append.1 hu with h | h
    · exact i2 u h
    · exact i3 u h)
  exact ⟨p, cap, rfl, h1, h2, b02, h3⟩
end Go.Proofs.YtaogilpkeeigoabGreatDoor
