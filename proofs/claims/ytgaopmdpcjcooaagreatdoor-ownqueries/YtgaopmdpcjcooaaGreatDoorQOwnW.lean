/- The walk of the law OwnQueries over this translation. -/
import Derived.Test.YtgaopmdpcjcooaaGreatDoorQOwI
import Derived.Test.YtgaopmdpcjcooaaGreatDoorQParseF
import Derived.Test.YtgaopmdpcjcooaaGreatDoorQPrint
import Derived.Test.YtgaopmdpcjcooaaGreatDoorQMat
namespace Go.Proofs.YtgaopmdpcjcooaaGreatDoor
open Go.RowKit
set_option linter.unusedVariables false
set_option linter.unusedSimpArgs false
theorem RowM.lower {B B' : Nat} {w : World} {g : Nat} {zs : List Bs} (h : RowM B w g zs) (hB : B' ≤ B) : RowM B' w g zs := by
  obtain ⟨hl, h | ⟨g', cap, cur, e, hb, r⟩⟩ := h
  · exact ⟨hl, Or.inl h⟩
  · exact ⟨hl, Or.inr ⟨g', cap, cur, e, Nat.le_trans hB hb, r⟩⟩
/-- the values of parts are nil, or lie somewhere, and are not too many -/
def GoodIn (w : World) (v : Value) (l : List Rq) : Prop := (∀ r ∈ l, r.2.2.length ≤ 8796093022000) ∧ ∀ (g o cap k : Nat) (u : Value), v = .slice (some ⟨g, o, none⟩) l.length cap → k < l.length → w.cell? ⟨g, o + k * 3 + 2, none⟩ = some u → GoodV u
/-- the part that is put behind in: its box, once its texts are new ones -/
theorem in_box {B : Nat} {w w2 : World} {x y : Value} {r : Rq} {g : Nat} (hB : B ≤ w.heap.size) (hb : Below (w.alloc (.cells #[.string (Ba r.1), .int .i64 r.2.1, x] 35)).heap.size (w.alloc (.cells #[.string (Ba r.1), .int .i64 r.2.1, x] 35)) w2) (hm : RowM (w.alloc (.cells #[.string (Ba r.1), .int .i64 r.2.1, x] 35)).heap.size w2 g r.2.2) :
    Below w.heap.size w (w2.setCell ⟨w.heap.size, 2, none⟩ y) ∧ RowM B (w2.setCell ⟨w.heap.size, 2, none⟩ y) g r.2.2 ∧ w2.cell? ⟨w.heap.size, 2, none⟩ = some x ∧ w2.frozen? ⟨w.heap.size, 2, none⟩ = false ∧
    (w2.setCell ⟨w.heap.size, 2, none⟩ y).cell? ⟨w.heap.size, 0, none⟩ = some (.string (Ba r.1)) ∧ (w2.setCell ⟨w.heap.size, 2, none⟩ y).cell? ⟨w.heap.size, 1, none⟩ = some (.int .i64 r.2.1) ∧ (w2.setCell ⟨w.heap.size, 2, none⟩ y).cell? ⟨w.heap.size, 2, none⟩ = some y := by
  have h0 : w2.heap[w.heap.size]? = some (.cells #[.string (Ba r.1), .int .i64 r.2.1, x] 35 (0, 0)) := by
    rw [hb.block _ (by simp)]
    show (w.heap.push _)[w.heap.size]? = _
    simp
  have hgr : w2.grownBy (w2.setCell ⟨w.heap.size, 2, none⟩ y) (some w.heap.size) := ⟨rfl, rfl, rfl, by simp [World.setCell], fun c _ hb => heap_setCell_other _ _ _ _ (fun e => hb (by rw [e]))⟩
  have h1 : (w2.setCell ⟨w.heap.size, 2, none⟩ y).heap[w.heap.size]? = _ := heap_setCell_same w2 w.heap.size 2 _ _ _ h0
  have hb1 : Below w.heap.size w w2 := ((Below.refl _ _).alloc (Nat.le_refl _) _).trans (hb.mono (by simp))
  refine ⟨hb1.grown hgr hb1.size (fun k e => by injection e with e; omega), ?_, ?_, frozen_of_row _ _ _ _ _ h0, ?_, ?_, ?_⟩
  · refine RowM.lower (World.ownsRow.kept hm hgr (Or.inr (fun e => ?_))) (by simp; omega)
    have e : g = w.heap.size := by injection e
    have := hm.2
    rcases this with ⟨h, _⟩ | ⟨g', cap, cur, he, hB', _⟩
    · cases h
    · have e1 : g = g' := by injection he with h1; injection h1 with h1; injection h1
      simp at hB'
      omega
  · rw [cell_of_row _ _ _ _ _ _ h0]; rfl
  · rw [cell_of_row _ _ _ _ _ _ h1]; rfl
  · rw [cell_of_row _ _ _ _ _ _ h1]; rfl
  · rw [cell_of_row _ _ _ _ _ _ h1]; rfl
theorem InR.at {B : Nat} {w : World} {p : Option Addr} {n c : Nat} {L : List (Rq × Nat)} {l : List Rq} (h : InR B w (.slice p n c) L) (hM : L.map (·.1) = l) (k : Nat) (hk : k < l.length) : ∃ g g', p = some ⟨g, 0, none⟩ ∧ l.length ≤ c ∧ ∀ w1, Below w.heap.size w w1 →
    w1.cell? ⟨g, 0 + k * 3, none⟩ = some (.string (Ba l[k].1)) ∧ w1.cell? ⟨g, 0 + k * 3 + 1, none⟩ = some (.int .i64 l[k].2.1) ∧ w1.cell? ⟨g, 0 + k * 3 + 2, none⟩ = some (.slice (some ⟨g', 0, none⟩) l[k].2.2.length (l[k].2.2.length + 2)) ∧ RowM B w1 g' l[k].2.2 := by
  subst hM
  simp only [List.length_map] at hk
  have hr := h.2 L[k] (List.getElem_mem hk)
  rcases owns_at h.1 with ⟨h1, h2⟩ | ⟨g, cap, e, hB, hg, hc, hm, hcell⟩
  · omega
  · have e1 : p = some ⟨g, 0, none⟩ := by injection e
    have e2 : c = cap := by injection e
    subst e2
    obtain ⟨f1, f2, f3⟩ := flatR_at (LV L) k (L[k].1, tv L[k].1 L[k].2) (by simp [LV, hk])
    refine ⟨g, L[k].2, e1, by simpa using hc, fun w1 hb => ?_⟩
    simp only [List.getElem_map, Nat.zero_add]
    rw [hb.cell (p := ⟨g, k * 3, none⟩) hg, hb.cell (p := ⟨g, k * 3 + 1, none⟩) hg, hb.cell (p := ⟨g, k * 3 + 2, none⟩) hg]
    exact ⟨hcell _ _ f1, hcell _ _ f2, hcell _ _ f3, hr.below hb⟩
theorem print_lenO (l : List Rq) : (printE l).1.length ≤ 300 := by
  by_cases h1 : chkI l = 0
  · by_cases h2 : 300 < (tellAll l).length
    · rw [printE_large h1 h2]; simp
    · rw [printE_ok h1 h2]; show (tellAll l).length ≤ 300; omega
  · rw [printE_bad h1]; simp
theorem in_box_all {B : Nat} {w : World} (r : Rq) (hB : B ≤ w.heap.size) : ∀ (x y : Value) (w2 : World) (g : Nat), Below (w.alloc (.cells #[.string (Ba r.1), .int .i64 r.2.1, x] 35)).heap.size (w.alloc (.cells #[.string (Ba r.1), .int .i64 r.2.1, x] 35)) w2 → RowM (w.alloc (.cells #[.string (Ba r.1), .int .i64 r.2.1, x] 35)).heap.size w2 g r.2.2 →
    Below w.heap.size w (w2.setCell ⟨w.heap.size, 2, none⟩ y) ∧ RowM B (w2.setCell ⟨w.heap.size, 2, none⟩ y) g r.2.2 ∧ w2.cell? ⟨w.heap.size, 2, none⟩ = some x ∧ w2.frozen? ⟨w.heap.size, 2, none⟩ = false ∧
    (w2.setCell ⟨w.heap.size, 2, none⟩ y).cell? ⟨w.heap.size, 0, none⟩ = some (.string (Ba r.1)) ∧ (w2.setCell ⟨w.heap.size, 2, none⟩ y).cell? ⟨w.heap.size, 1, none⟩ = some (.int .i64 r.2.1) ∧ (w2.setCell ⟨w.heap.size, 2, none⟩ y).cell? ⟨w.heap.size, 2, none⟩ = some y := fun x y w2 g hb hm => in_box hB hb hm
set_option maxRecDepth 100000 in
set_option maxHeartbeats 8000000 in
theorem own_walk (v vl : Value) (l : List Rq) (ls : List Lb) (w : World) (hv : Reqs w v l) (hf : ∀ r ∈ l, Fit r) (hgi : GoodIn w v l) (hvl : Labs w vl ls) (hgl : GoodV vl) (hfl : FitL ls) (hm : l.length * 48 ≤ 140737488351232) (hml : ls.length * 32 ≤ 140737488351232) (hR : Room w) :
    Calls Tryz.prog 4 #[v, vl] w fun e w' => e = .returned (.bool true) ∧ Below w.heap.size w w' := by
  obtain ⟨N, hN⟩ : ∃ N, 310 ≤ N := ⟨310, Nat.le_refl _⟩
  obtain ⟨i0, hi, hz0, hz1, hz2⟩ := info_parts info_req
  have HV : Hid (Reqs w v l) := hv
  obtain ⟨p, c, rfl, hn, hcell⟩ := hv.open
  have HC : Hid (∀ k (hk : k < l.length), ∃ g o q d, p = some ⟨g, o, none⟩ ∧ l.length ≤ c ∧ Strs w (.slice q l[k].2.2.length d) l[k].2.2 ∧ GoodV (.slice q l[k].2.2.length d) ∧ l[k].2.2.length ≤ 8796093022000 ∧ ∀ w1, Below w.heap.size w w1 → w1.cell? ⟨g, o + k * 3, none⟩ = some (.string (Ba l[k].1)) ∧ w1.cell? ⟨g, o + k * 3 + 1, none⟩ = some (.int .i64 l[k].2.1) ∧ w1.cell? ⟨g, o + k * 3 + 2, none⟩ = some (.slice q l[k].2.2.length d)) := fun k hk => by
    obtain ⟨g, o, q, d, h1, h2, h3⟩ := hcell k hk
    obtain ⟨a1, a2, a3, a4⟩ := h3 w (Below.refl _ _)
    subst h1
    exact ⟨g, o, q, d, rfl, h2, a4, hgi.2 g o c k _ rfl hk a3, hgi.1 _ (List.getElem_mem hk), fun w1 hb => ⟨(h3 w1 hb).1, (h3 w1 hb).2.1, (h3 w1 hb).2.2.1⟩⟩
  have HCL : Hid (∀ w1, Below w.heap.size w w1 → Calls Tryz.prog 11 #[vl] w1 fun e w' => ∃ u, e = .returned u ∧ OwnL w1.heap.size w' u ls ∧ Below w1.heap.size w1 w') := fun w1 hb => copyL_any vl ls w1 (hvl.below hb) hgl (by omega)
  have HVL : Hid (Labs w vl ls) := hvl
  have HTake : Hid (∀ k, l.length ≤ k → l.take k = l) := fun k hk => List.take_of_length_le hk
  clear hcell hgi hv
  unfold maxLen at hn
  go_enter Tryz.func4, Tryz.ntmps4
  go_wp2_with fail
  go_loopw [5, 25] (fun x i wr => ∃ (k : Nat) (L : List (Rq × Nat)), k ≤ l.length ∧ i = .int .i64 k ∧ L.map (·.1) = l.take k ∧ InR w.heap.size wr x L ∧ Below w.heap.size w wr) (fun _ i _ => l.length - (intOf i).toNat)
  case atStart => exact ⟨0, [], Nat.zero_le _, rfl, rfl, inR_nil _ _, Below.refl _ _⟩
  case round =>
    obtain ⟨k, L, hk, rfl, hmp, hin, hbel⟩ := hrel
    have HM : Hid (L.map (·.1) = l.take k) := hmp
    have HI : Hid (InR w.heap.size wr u5 L) := hin
    have HB : Hid (Below w.heap.size w wr) := hbel
    have hBr := hbel.size
    have hLk : L.length = k := by
      have := congrArg List.length hmp
      simp at this
      omega
    have HLk : Hid (L.length = k) := hLk
    clear hmp hin hbel hLk
    by_cases hlt : k < l.length
    · obtain ⟨g, o, q, d, rfl, hlc, hst, hgv, hq, hc0⟩ := HC.out k hlt
      obtain ⟨c1, c2, c3⟩ := hc0 wr HB.out
      have HTk : Hid (l.take (k + 1) = l.take k ++ [l[k]]) := List.take_succ_eq_append_getElem hlt
      have HTx : Hid (∀ w1, Below w.heap.size w w1 → Calls Tryz.prog 10 #[.slice q l[k].2.2.length d] w1 fun e w' => e = .returned (.slice (some ⟨w1.heap.size, 0, none⟩) l[k].2.2.length (l[k].2.2.length + 2)) ∧ RowM w1.heap.size w' w1.heap.size l[k].2.2 ∧ Below w1.heap.size w1 w') := fun w1 hb => texts_any _ _ w1 (hst.below hb) hgv hq
      have HBx : Hid (_) := in_box_all (B := w.heap.size) (w := wr) l[k] hBr
      clear hc0 hst hgv hq
      have HSn : Hid (∀ (g : Nat) (w3 w5 : World) (v' : Value), InR w.heap.size w3 u5 L → RowM w.heap.size w3 g l[k].2.2 → w3.grownBy w5 u5.ownBlock → w5.ownsRow w.heap.size 35 3 v' (L.length + 1) (flatR (LV L) ++ [.string (Ba l[k].1), .int .i64 l[k].2.1, .slice (some ⟨g, 0, none⟩) l[k].2.2.length (l[k].2.2.length + 2)]) → InR w.heap.size w5 v' (L ++ [(l[k], g)])) := fun g w3 w5 v' h1 h2 h3 h4 => InR.snoc h1 h2 h3 h4
      have HM2 : Hid (∀ g : Nat, (L ++ [(l[k], g)]).map (fun p => p.1) = l.take (k + 1)) := fun g => by
        rw [HTk.out, List.map_append, HM.out]
        rfl
      have HBy : Hid ((L.length + 1) * 48 ≤ 140737488355328) := by
        have := HLk.out
        show (L.length + 1) * 48 ≤ _
        omega
      clear HM HTk
      generalize l[k] = y at *
      obtain ⟨yk, yd, yv⟩ := y
      dsimp only at *
      have HB1 : Hid (Below w.heap.size w (wr.alloc (.cells #[.string (Ba yk), .int .i64 yd, .slice q yv.length d] 35))) := HB.out.alloc hBr _
      generalize hnv : yv.length = nv at *
      clear hnv
      generalize Ba yk = z at *
      go_wp2_with fail
      refine Calls.mono (HTx.out _ HB1.out) ?_
      rintro e w2 ⟨rfl, hm2, hb2⟩
      obtain ⟨B3, M3, b2, fz, b3, b4, b5⟩ := HBx.out _ (.slice (some ⟨(wr.alloc (.cells #[.string z, .int .i64 yd, .slice q nv d] 35)).heap.size, 0, none⟩) nv (nv + 2)) w2 _ hb2 hm2
      have HB3 : Hid (Below wr.heap.size wr (w2.setCell ⟨wr.heap.size, 2, none⟩ (.slice (some ⟨(wr.alloc (.cells #[.string z, .int .i64 yd, .slice q nv d] 35)).heap.size, 0, none⟩) nv (nv + 2)))) := B3
      have HM3 : Hid (_) := M3
      clear hm2 hb2 B3 M3
      generalize (wr.alloc (.cells #[.string z, .int .i64 yd, .slice q nv d] 35)).heap.size = g2 at *
      have HI3 : Hid (∀ o' : Obj, InR w.heap.size (World.alloc (w2.setCell ⟨wr.heap.size, 2, none⟩ (.slice (some ⟨g2, 0, none⟩) nv (nv + 2))) o') u5 L) := fun o' => (HI.out.below HB3.out).below ((Below.refl _ _).alloc (Nat.le_refl _) _)
      have HM4 : Hid (∀ o' : Obj, RowM w.heap.size (World.alloc (w2.setCell ⟨wr.heap.size, 2, none⟩ (.slice (some ⟨g2, 0, none⟩) nv (nv + 2))) o') g2 yv) := fun o' => RowM.below (zs := yv) HM3.out ((Below.refl _ _).alloc (Nat.le_refl _) _)
      have HB4 : Hid (∀ o' : Obj, Below w.heap.size w (World.alloc (w2.setCell ⟨wr.heap.size, 2, none⟩ (.slice (some ⟨g2, 0, none⟩) nv (nv + 2))) o')) := fun o' => (HB.out.trans (HB3.out.mono hBr)).alloc (HB.out.trans (HB3.out.mono hBr)).size _
      go_wp2_with (at_builtin; refine wpList_append_own _ rfl _ _ 22 rfl w.heap.size 35 i0 (.agg #[.string ⟨#[]⟩, .int .i64 0, .slice none 0 0]) 3 48 Tryz.underlying22 hi hz0 hz1 hz2 rfl (by decide) _ _ _ rfl (HI3.out _).1 ⟨w2.heap.size, 0, none⟩ 1 1 [.string z, .int .i64 yd, .slice (some ⟨g2, 0, none⟩) nv (nv + 2)] rfl rfl (new3 (by simp)) one3 (by have := HBy.out; unfold maxLen; omega) HBy.out (HB4.out _).size ?_)
      intro v' w5 hown' hgrow _
      have HI5 : Hid (InR w.heap.size w5 v' (L ++ [((yk, yd, yv), g2)])) := HSn.out g2 _ w5 v' (HI3.out _) (HM4.out _) hgrow hown'
      have HB5 : Hid (Below w.heap.size w w5) := (HB4.out _).grown hgrow (HB4.out _).size (fun b hb => (World.ownsRow.lt (HI3.out (.cells #[] 0)).1 b hb).1)
      clear hown' hgrow
      go_wp2_with fail
      go_roundw
      case rel => exact ⟨k + 1, L ++ [((yk, yd, yv), g2)], by omega, by go_num, HM2.out g2, HI5.out, HB5.out⟩
      case measure => simp [intOf]; omega
    · obtain ⟨wA, hwA⟩ : ∃ wA, wA = wr := ⟨_, rfl⟩
      subst hwA
      have hM : L.map (·.1) = l := by
        have := HM.out
        rw [HTake.out k (by omega)] at this
        exact this
      have hRq := HI.out.reqs
      rw [hM] at hRq
      obtain ⟨p1, n1, c1, rfl⟩ : ∃ p n c, u5 = .slice p n c := by
        obtain ⟨p, c, e, _⟩ := hRq.open
        exact ⟨_, _, _, e⟩
      have hn1 : n1 = l.length := by
        obtain ⟨p, c, e, _⟩ := hRq.open
        injection e
      subst hn1
      have HMl : Hid (L.map (·.1) = l) := hM
      have HRq : Hid (∀ w1, Below wA.heap.size wA w1 → Reqs w1 (.slice p1 l.length c1) l) := fun w1 hb => hRq.below hb
      have HIn : Hid (∀ w2, Below wA.heap.size wA w2 → ∀ k (hk : k < l.length), ∃ g g', p1 = some ⟨g, 0, none⟩ ∧ l.length ≤ c1 ∧ ∀ w1, Below w2.heap.size w2 w1 → w1.cell? ⟨g, 0 + k * 3, none⟩ = some (.string (Ba l[k].1)) ∧ w1.cell? ⟨g, 0 + k * 3 + 1, none⟩ = some (.int .i64 l[k].2.1) ∧ w1.cell? ⟨g, 0 + k * 3 + 2, none⟩ = some (.slice (some ⟨g', 0, none⟩) l[k].2.2.length (l[k].2.2.length + 2)) ∧ RowM w.heap.size w1 g' l[k].2.2) := fun w2 hb => (HI.out.below hb).at hM
      have HSt : Hid (∀ w1, Below wA.heap.size wA w1 → Calls Tryz.prog 12 #[] w1 fun e w' => e = .returned (.bool true) ∧ Below w1.heap.size w1 w') := fun w1 hb => strange_any w1 ((hR.below HB.out).below hb)
      have HMa : Hid (∀ w1 u, Below wA.heap.size wA w1 → Labs w1 u ls → Calls Tryz.prog 13 #[.slice p1 l.length c1, u] w1 fun e w' => ∃ b er, e = .returned (.tuple #[.bool b, .int .i64 er]) ∧ Below w1.heap.size w1 w') := fun w1 u hb hu => (match_any _ u l ls w1 (hRq.below hb) hf hu hfl ((hR.below HB.out).below hb)).mono (by rintro e w' ⟨rfl, b⟩; exact ⟨_, _, rfl, b⟩)
      have HIm : Hid (∀ w1, Below wA.heap.size wA w1 → Calls Tryz.prog 7 #[.slice p1 l.length c1, .slice p1 l.length c1] w1 fun e w' => ∃ b u er, e = .returned (.tuple #[.bool b, u, .int .i64 er]) ∧ Below w1.heap.size w1 w') := fun w1 hb => (implies_any _ _ l l w1 (hRq.below hb) HI.out.good (hRq.below hb) hf hf ((hR.below HB.out).below hb)).mono (by rintro e w' ⟨y, u, er, rfl, _, b⟩; exact ⟨_, _, _, rfl, b⟩)
      have HSo : Hid (∀ w1, Below wA.heap.size wA w1 → Calls Tryz.prog 5 #[.slice p1 l.length c1] w1 fun e w' => ∃ u b er B la, e = .returned (.tuple #[u, .bool b, .int .i64 er]) ∧ (OwnL B w' u la ∧ la.length ≤ 10) ∧ Below w1.heap.size w1 w') := fun w1 hb => solveL_any _ l w1 (hRq.below hb) hf ((hR.below HB.out).below hb)
      have HPr : Hid (∀ w1, Below wA.heap.size wA w1 → Calls Tryz.prog 14 #[.slice p1 l.length c1] w1 fun e w' => e = .returned (.tuple #[.string (Ba (printE l).1), .int .i64 (printE l).2]) ∧ Below w1.heap.size w1 w') := fun w1 hb => print_any _ l w1 (hRq.below hb) hf ((hR.below HB.out).below hb)
      clear hM hRq
      go_wp2_with fail
      refine Calls.mono (HCL.out wA HB.out) ?_
      rintro e w1 ⟨own, rfl, hown, b⟩
      have HB1 : Hid (Below wA.heap.size wA w1) := b
      have HO1 : Hid (OwnL wA.heap.size w1 own ls) := hown
      clear b hown
      go_wp2_with fail
      refine Calls.mono (HSt.out _ HB1.out) ?_
      rintro e w2 ⟨rfl, b⟩
      have HB2 : Hid (Below wA.heap.size wA w2) := HB1.out.trans (b.mono HB1.out.size)
      have HO2 : Hid (OwnL wA.heap.size w2 own ls) := owns_below HO1.out b
      clear b
      go_wp2_with fail
      refine Calls.mono (HMa.out _ _ HB2.out HO2.out.labs) ?_
      rintro e w3 ⟨mb, me, rfl, b⟩
      have HB3 : Hid (Below wA.heap.size wA w3) := HB2.out.trans (b.mono HB2.out.size)
      have HO3 : Hid (OwnL wA.heap.size w3 own ls) := owns_below HO2.out b
      clear b
      go_wp2_with fail
      refine Calls.mono (HIm.out _ HB3.out) ?_
      rintro e w4 ⟨ib, iu, ie, rfl, b⟩
      have HB4 : Hid (Below wA.heap.size wA w4) := HB3.out.trans (b.mono HB3.out.size)
      have HO4 : Hid (OwnL wA.heap.size w4 own ls) := owns_below HO3.out b
      clear b
      go_wp2_with fail
      refine Calls.mono (HSo.out _ HB4.out) ?_
      rintro e w5 ⟨a, sb, se, Ba', la, rfl, ⟨hla, hla10⟩, b⟩
      have HB5 : Hid (Below wA.heap.size wA w5) := HB4.out.trans (b.mono HB4.out.size)
      have HO5 : Hid (OwnL wA.heap.size w5 own ls) := owns_below HO4.out b
      have HA5 : Hid (OwnL Ba' w5 a la) := hla
      clear b hla
      go_wp2_with fail
      refine Calls.mono (HPr.out _ HB5.out) ?_
      rintro e w6 ⟨rfl, b⟩
      have HB6 : Hid (Below wA.heap.size wA w6) := HB5.out.trans (b.mono HB5.out.size)
      have HO6 : Hid (OwnL wA.heap.size w6 own ls) := owns_below HO5.out b
      have HA6 : Hid (OwnL Ba' w6 a la) := owns_below HA5.out b
      clear b
      have HIx : Hid (_) := HIn.out w6 HB6.out
      have h66 := (HB.out.trans (HB6.out.mono hBr))
      have HC6 : Hid (Below w.heap.size w w6) := h66
      clear h66
      go_wp2_with fail
      go_loopw [61] (fun i wx => ∃ j : Nat, j ≤ l.length ∧ i = .int .i64 j ∧ Below w6.heap.size w6 wx) (fun i _ => l.length - (intOf i).toNat)
      case atStart => exact ⟨0, Nat.zero_le _, rfl, Below.refl _ _⟩
      case round =>
        obtain ⟨j, hj, rfl, hbx⟩ := hrel
        have HX : Hid (Below w6.heap.size w6 wr) := hbx
        clear hbx
        by_cases hlt2 : j < l.length
        · obtain ⟨g, o, q, d, rfl, hlc, hst, _, _, hc0⟩ := HC.out j hlt2
          obtain ⟨gx, g', rfl, hlc1, hx0⟩ := HIx.out j hlt2
          obtain ⟨d1, d2, d3, _⟩ := hx0 wr HX.out
          rw [Nat.zero_add] at d1 d2 d3
          have HCr : Hid (Below w.heap.size w wr) := HC6.out.trans (HX.out.mono HC6.out.size)
          obtain ⟨c1', c2', c3'⟩ := hc0 wr HCr.out
          have HBb : Hid (Below wr.heap.size wr (wr.alloc (.cells #[.string (Ba l[j].1), .int .i64 l[j].2.1, .slice (some ⟨g', 0, none⟩) l[j].2.2.length (l[j].2.2.length + 2)] 35))) := (Below.refl _ _).alloc (Nat.le_refl _) _
          have HSR : Hid (∀ w1, Below (wr.alloc (.cells #[.string (Ba l[j].1), .int .i64 l[j].2.1, .slice (some ⟨g', 0, none⟩) l[j].2.2.length (l[j].2.2.length + 2)] 35)).heap.size (wr.alloc (.cells #[.string (Ba l[j].1), .int .i64 l[j].2.1, .slice (some ⟨g', 0, none⟩) l[j].2.2.length (l[j].2.2.length + 2)] 35)) w1 →
              Calls Tryz.prog 15 #[.agg #[.string (Ba l[j].1), .int .i64 l[j].2.1, .slice (some ⟨g', 0, none⟩) l[j].2.2.length (l[j].2.2.length + 2)], .agg #[.string (Ba l[j].1), .int .i64 l[j].2.1, .slice q l[j].2.2.length d]] w1 fun e w' => e = .returned (.bool true) ∧ Below (wr.alloc (.cells #[.string (Ba l[j].1), .int .i64 l[j].2.1, .slice (some ⟨g', 0, none⟩) l[j].2.2.length (l[j].2.2.length + 2)] 35)).heap.size (wr.alloc (.cells #[.string (Ba l[j].1), .int .i64 l[j].2.1, .slice (some ⟨g', 0, none⟩) l[j].2.2.length (l[j].2.2.length + 2)] 35)) w') := fun w1 hb => by
            have b1 := HBb.out.trans (hb.mono HBb.out.size)
            have b2 := HX.out.trans (b1.mono HX.out.size)
            refine (sameReq_yes l[j] _ _ _ _ _ _ w1 (hx0 w1 b2).2.2.2.strs (hst.below (HCr.out.trans (b1.mono HCr.out.size)))).mono ?_
            rintro e w' ⟨rfl, b⟩
            exact ⟨rfl, hb.trans (b.mono hb.size)⟩
          have HKp : Hid (∀ w1, Below (wr.alloc (.cells #[.string (Ba l[j].1), .int .i64 l[j].2.1, .slice (some ⟨g', 0, none⟩) l[j].2.2.length (l[j].2.2.length + 2)] 35)).heap.size (wr.alloc (.cells #[.string (Ba l[j].1), .int .i64 l[j].2.1, .slice (some ⟨g', 0, none⟩) l[j].2.2.length (l[j].2.2.length + 2)] 35)) w1 →
              Calls Tryz.prog 16 #[.slice (some ⟨g', 0, none⟩) l[j].2.2.length (l[j].2.2.length + 2), .slice q l[j].2.2.length d] w1 fun e w' => e = .returned (.bool true) ∧ Below (wr.alloc (.cells #[.string (Ba l[j].1), .int .i64 l[j].2.1, .slice (some ⟨g', 0, none⟩) l[j].2.2.length (l[j].2.2.length + 2)] 35)).heap.size (wr.alloc (.cells #[.string (Ba l[j].1), .int .i64 l[j].2.1, .slice (some ⟨g', 0, none⟩) l[j].2.2.length (l[j].2.2.length + 2)] 35)) w') := fun w1 hb => by
            have b1 := HBb.out.trans (hb.mono HBb.out.size)
            have b2 := HX.out.trans (b1.mono HX.out.size)
            refine (kept_yes _ g' (.slice q l[j].2.2.length d) l[j].2.2 w1 (hx0 w1 b2).2.2.2 (hst.below (HCr.out.trans (b1.mono HCr.out.size)))).mono ?_
            rintro e w' ⟨rfl, b⟩
            exact ⟨rfl, hb.trans (b.mono hb.size)⟩
          have HKc : Hid (∀ w1, Below (wr.alloc (.cells #[.string (Ba l[j].1), .int .i64 l[j].2.1, .slice (some ⟨g', 0, none⟩) l[j].2.2.length (l[j].2.2.length + 2)] 35)).heap.size (wr.alloc (.cells #[.string (Ba l[j].1), .int .i64 l[j].2.1, .slice (some ⟨g', 0, none⟩) l[j].2.2.length (l[j].2.2.length + 2)] 35)) w1 →
              w1.cell? ⟨wr.heap.size, 0, none⟩ = some (.string (Ba l[j].1)) ∧ w1.cell? ⟨wr.heap.size, 1, none⟩ = some (.int .i64 l[j].2.1) ∧ w1.cell? ⟨wr.heap.size, 2, none⟩ = some (.slice (some ⟨g', 0, none⟩) l[j].2.2.length (l[j].2.2.length + 2)) ∧ w1.cell? ⟨g, o + j * 3, none⟩ = some (.string (Ba l[j].1)) ∧ w1.cell? ⟨g, o + j * 3 + 1, none⟩ = some (.int .i64 l[j].2.1) ∧ w1.cell? ⟨g, o + j * 3 + 2, none⟩ = some (.slice q l[j].2.2.length d)) := fun w1 hb => by
            obtain ⟨x1, x2, x3⟩ := box3 hb
            have b1 := HBb.out.trans (hb.mono HBb.out.size)
            exact ⟨x1, x2, x3, hc0 w1 (HCr.out.trans (b1.mono HCr.out.size))⟩
          clear hx0 hc0 hst
          generalize l[j] = y at *
          obtain ⟨yk, yd, yv⟩ := y
          dsimp only at *
          generalize yv.length = nv at *
          generalize Ba yk = z at *
          go_wp2_with fail
          obtain ⟨w0, hw0⟩ : ∃ w0, w0 = wr.alloc (.cells #[.string z, .int .i64 yd, .slice (some ⟨g', 0, none⟩) nv (nv + 2)] 35) := ⟨_, rfl⟩
          rw [← hw0] at HBb HSR HKp HKc ⊢
          clear hw0 c1' c2' c3' d1 d2 d3
          have hS0 : Below w0.heap.size w0 w0.drew := (Below.refl _ _).drew
          go_region_held3 (fun w' => w'.cell? ⟨wr.heap.size, 0, none⟩ = some (.string z) ∧ w'.cell? ⟨wr.heap.size, 1, none⟩ = some (.int .i64 yd) ∧ w'.cell? ⟨wr.heap.size, 2, none⟩ = some (.slice (some ⟨g', 0, none⟩) nv (nv + 2)) ∧ w'.cell? ⟨g, o + j * 3, none⟩ = some (.string z) ∧ w'.cell? ⟨g, o + j * 3 + 1, none⟩ = some (.int .i64 yd) ∧ w'.cell? ⟨g, o + j * 3 + 2, none⟩ = some (.slice q nv d)) (first | assumption | exact HKc.out _ (by assumption) | go_keep)
            (first
              | (go_at_call 15; refine Calls.mono (HSR.out _ (by assumption)) ?_; rintro e w11 ⟨rfl, hS1⟩)
              | (go_at_call 16; refine Calls.mono (HKp.out _ (by assumption)) ?_; rintro e w12 ⟨rfl, hS2⟩))
          all_goals
            have HY : Hid (Below w6.heap.size w6 w12) := HX.out.trans ((HBb.out.trans (hS2.mono HBb.out.size)).mono HX.out.size)
            clear hS0 hS1 hS2
            go_wp2_with fail
            go_roundw
            case rel => exact ⟨j + 1, by omega, by go_num, HY.out⟩
            case measure => simp [intOf]; omega
        · obtain ⟨wB, hwB⟩ : ∃ wB, wB = wr := ⟨_, rfl⟩
          subst hwB
          have HB7 : Hid (Below wA.heap.size wA wB) := HB6.out.trans (HX.out.mono HB6.out.size)
          have HO7 : Hid (OwnL wA.heap.size wB own ls) := owns_below HO6.out HX.out
          have HA7 : Hid (OwnL Ba' wB a la) := owns_below HA6.out HX.out
          have HCA : Hid (Calls Tryz.prog 11 #[a] wB fun e w' => ∃ u, e = .returned u ∧ OwnL wB.heap.size w' u la ∧ Below wB.heap.size wB w') := copyL_any a la wB HA7.out.labs HA7.out.good (by omega)
          clear HIx HIn
          go_wp2_with fail
          refine Calls.mono HCA.out ?_
          rintro e w8 ⟨had, rfl, hhd, b⟩
          have HB8 : Hid (Below wA.heap.size wA w8) := HB7.out.trans (b.mono HB7.out.size)
          have HC8 : Hid (Below w.heap.size w w8) := HB.out.trans (HB8.out.mono hBr)
          have HO8 : Hid (OwnL wA.heap.size w8 own ls) := owns_below HO7.out b
          have HA8 : Hid (OwnL Ba' w8 a la) := owns_below HA7.out b
          have HD8 : Hid (OwnL wB.heap.size w8 had la) := hhd
          have HS8 : Hid (SpR w.heap.size w8 p1 c1 0 (LV L)) := (HI.out.below HB8.out).sp
          have HLl : Hid ((LV L).length = l.length) := by
            show _ = _
            rw [LV_len, ← HMl.out, List.length_map]
          clear b hhd
          go_wp2_with fail
          go_loopw [89] (fun i wx => ∃ j : Nat, j ≤ l.length ∧ i = .int .i64 j ∧ SpR w.heap.size wx p1 c1 j (LV L) ∧ KeptT 31 w8 wx ∧ Below w.heap.size w wx) (fun i _ => l.length - (intOf i).toNat)
          case atStart => exact ⟨0, Nat.zero_le _, rfl, HS8.out, KeptT.refl _ _, HC8.out⟩
          case round =>
            obtain ⟨j, hj, rfl, hsp, hkt, hbx⟩ := hrel
            have HSp : Hid (SpR w.heap.size wr p1 c1 j (LV L)) := hsp
            have HKt : Hid (KeptT 31 w8 wr) := hkt
            have HX2 : Hid (Below w.heap.size w wr) := hbx
            clear hsp hkt hbx
            by_cases hlt3 : j < l.length
            · obtain ⟨qq, hqq⟩ : ∃ qq, (LV L)[j]? = some qq := ⟨_, List.getElem?_eq_getElem (by rw [HLl.out]; exact hlt3)⟩
              obtain ⟨g, rfl, hc1, hgB, ⟨cur, hcu, hcs⟩, hcell, hs1⟩ := HSp.out j qq (Nat.le_refl _) hqq
              rw [HLl.out] at hc1 hcs
              obtain ⟨pu, nu, cu, hu⟩ : ∃ pu nu cu, qq.2 = .slice pu nu cu := by
                rcases hs1 with h | ⟨_, _, _, h, _⟩
                · exact ⟨_, _, _, h⟩
                · exact ⟨_, _, _, h⟩
              rw [hu] at hcell hs1
              have HSpl : Hid (Calls Tryz.prog 17 #[.slice pu nu cu] wr fun e w' => e = .returned (.tuple #[]) ∧ (∀ u', Sp1 w.heap.size wr u' → Sp1 w.heap.size w' u') ∧ KeptT 35 wr w' ∧ KeptT 31 wr w' ∧ Below w.heap.size wr w') := spoilU_any w.heap.size _ wr hs1 HX2.out.size
              have HCu : Hid (wr.heap[g]? = some (Obj.cells cur 35 (0, 0))) := hcu
              clear hs1 hu hqq hcu
              go_wp2_with fail
              refine Calls.mono HSpl.out ?_
              rintro e w9 ⟨rfl, k1, k2, k3, kb⟩
              have hcu9 : w9.heap[g]? = some (Obj.cells cur 35 (0, 0)) := by rw [k2 g cur HCu.out]; exact HCu.out
              obtain ⟨s1, s2, s3⟩ := store3 (HSp.out.spoil k1 k2) hcu9 hgB (.string ⟨#[]⟩) (.int .i64 0) (.slice none 0 0)
              have HS9 : Hid (SpR w.heap.size _ _ c1 (j + 1) (LV L)) := s1
              have HK9 : Hid (KeptT 31 w8 _) := HKt.out.trans (k3.trans s2)
              have HB9 : Hid (Below w.heap.size w _) := HX2.out.trans (kb.trans s3)
              have e0 : w9.cell? ⟨g, j * 3, none⟩ = some cur[j * 3] := by rw [cell_of_row _ _ _ _ _ _ hcu9]; exact Array.getElem?_eq_getElem (by omega)
              have e1 : w9.cell? ⟨g, j * 3 + 1, none⟩ = some cur[j * 3 + 1] := by rw [cell_of_row _ _ _ _ _ _ hcu9]; exact Array.getElem?_eq_getElem (by omega)
              have e2 : w9.cell? ⟨g, j * 3 + 2, none⟩ = some cur[j * 3 + 2] := by rw [cell_of_row _ _ _ _ _ _ hcu9]; exact Array.getElem?_eq_getElem (by omega)
              have f0 : w9.frozen? ⟨g, j * 3, none⟩ = false := frozen_of_row _ _ _ _ _ hcu9
              have f1 : w9.frozen? ⟨g, j * 3 + 1, none⟩ = false := frozen_of_row _ _ _ _ _ hcu9
              have f2 : w9.frozen? ⟨g, j * 3 + 2, none⟩ = false := frozen_of_row _ _ _ _ _ hcu9
              clear k1 k2 k3 kb s1 s2 s3 hcu9
              generalize cur[j * 3] = y0 at *
              generalize cur[j * 3 + 1] = y1 at *
              generalize cur[j * 3 + 2] = y2 at *
              go_wp2_with fail
              go_roundw
              case rel => exact ⟨j + 1, by omega, by go_num, HS9.out, HK9.out, HB9.out⟩
              case measure => simp [intOf]; omega
            · obtain ⟨wC, hwC⟩ : ∃ wC, wC = wr := ⟨_, rfl⟩
              subst hwC
              have HEq1 : Hid (∀ w1, Below w.heap.size w w1 → KeptT 31 w8 w1 → Calls Tryz.prog 9 #[own, vl] w1 fun e w' => e = .returned (.bool true) ∧ Below w1.heap.size w1 w') := fun w1 h1 h2 => eqL_yes own vl ls w1 (HO8.out.keptT h2).labs (HVL.out.below h1)
              have HEq2 : Hid (∀ w1, KeptT 31 w8 wC → Below wC.heap.size wC w1 → Calls Tryz.prog 9 #[a, had] w1 fun e w' => e = .returned (.bool true) ∧ Below w1.heap.size w1 w') := fun w1 h2 h1 => eqL_yes a had la w1 ((HA8.out.keptT h2).labs.below h1) ((HD8.out.keptT h2).labs.below h1)
              go_wp2_with fail
              refine Calls.mono (HEq1.out _ HX2.out HKt.out) ?_
              rintro e w10 ⟨rfl, b10⟩
              have HB10 : Hid (Below wC.heap.size wC w10) := b10
              clear b10
              go_wp2_with fail
              refine Calls.mono (HEq2.out _ HKt.out HB10.out) ?_
              rintro e w11 ⟨rfl, b11⟩
              have HB11 : Hid (Below w.heap.size w w11) := HX2.out.trans ((HB10.out.trans (b11.mono HB10.out.size)).mono HX2.out.size)
              clear b11
              by_cases he : (printE l).2 = 0
              · have heb : ((printE l).2 != 0) = false := by simpa using he
                have hE : parseE N (printE l).1 = (l, 0) := parse_print (by omega) he
                have HPa : Hid (∀ w1, Below w.heap.size w w1 → Calls Tryz.prog 18 #[.string (Ba (printE l).1)] w1 fun e w' => ∃ p c, e = .returned (.tuple #[.slice p l.length c, .int .i64 0]) ∧ PartsN w1.heap.size w' (.slice p l.length c) l ∧ Below w1.heap.size w1 w') := fun w1 hb => by
                  refine (parse_all N (printE l).1 w1 hN (by have := print_lenO l; unfold maxLen; omega) (hR.below hb)).mono ?_
                  rintro e w' ⟨v, er, rfl, ⟨h1, h2⟩, b⟩
                  rw [hE] at h1 h2
                  have h1 : er = 0 := h1
                  subst h1
                  rcases h2 with ⟨h2, _⟩ | ⟨_, h2⟩
                  · exact absurd rfl h2
                  · obtain ⟨p, c, e, _⟩ := h2.reqs.open
                    have e' : v = .slice p l.length c := e
                    subst e'
                    exact ⟨p, c, rfl, h2, b⟩
                have HSa : Hid (∀ w1 u, Below w.heap.size w w1 → Reqs w1 u l → Calls Tryz.prog 19 #[u, .slice p l.length c, .func (.func 15) #[] #[]] w1 fun e w' => e = .returned (.bool true) ∧ Below w1.heap.size w1 w') := fun w1 u hb hu => sameAll_yes u _ l w1 hu (HV.out.below hb)
                rw [he] at *
                clear he hE hN
                generalize Ba (printE l).1 = ys at *
                go_wp2_with fail
                refine Calls.mono (HPa.out _ HB11.out) ?_
                rintro e w12 ⟨p2, c2, rfl, hpn, b12⟩
                obtain ⟨Lb, hLb, hspb⟩ := hpn.sp
                have HLb : Hid (Lb.length = l.length) := by
                  show _ = _
                  rw [← hLb, List.length_map]
                have HSb : Hid (SpR w11.heap.size w12 p2 c2 0 Lb) := hspb
                have HB12 : Hid (Below w11.heap.size w11 w12) := b12
                clear hpn hLb hspb b12
                go_wp2_with fail
                go_loopw [122] (fun i wx => ∃ j : Nat, j ≤ l.length ∧ i = .int .i64 j ∧ SpR w11.heap.size wx p2 c2 0 Lb ∧ Below w11.heap.size w11 wx) (fun i _ => l.length - (intOf i).toNat)
                case atStart => exact ⟨0, Nat.zero_le _, rfl, HSb.out, HB12.out⟩
                case round =>
                  obtain ⟨j, hj, rfl, hsp, hbx⟩ := hrel
                  have HSp4 : Hid (SpR w11.heap.size wr p2 c2 0 Lb) := hsp
                  have HX4 : Hid (Below w11.heap.size w11 wr) := hbx
                  clear hsp hbx
                  by_cases hlt4 : j < l.length
                  · obtain ⟨qq, hqq⟩ : ∃ qq, Lb[j]? = some qq := ⟨_, List.getElem?_eq_getElem (by rw [HLb.out]; exact hlt4)⟩
                    obtain ⟨g, rfl, hc1, hgB, ⟨cur, hcu, hcs⟩, hcell, hs1⟩ := HSp4.out j qq (Nat.zero_le _) hqq
                    rw [HLb.out] at hc1 hcs
                    obtain ⟨pu, nu, cu, hu⟩ : ∃ pu nu cu, qq.2 = .slice pu nu cu := by
                      rcases hs1 with h | ⟨_, _, _, h, _⟩
                      · exact ⟨_, _, _, h⟩
                      · exact ⟨_, _, _, h⟩
                    rw [hu] at hcell hs1
                    have HSpl : Hid (Calls Tryz.prog 17 #[.slice pu nu cu] wr fun e w' => e = .returned (.tuple #[]) ∧ (∀ u', Sp1 w11.heap.size wr u' → Sp1 w11.heap.size w' u') ∧ KeptT 35 wr w' ∧ KeptT 31 wr w' ∧ Below w11.heap.size wr w') := spoilU_any w11.heap.size _ wr hs1 HX4.out.size
                    clear hs1 hu hqq hcu hcs
                    go_wp2_with fail
                    refine Calls.mono HSpl.out ?_
                    rintro e w13 ⟨rfl, k1, k2, k3, kb⟩
                    have HS13 : Hid (SpR w11.heap.size w13 (some ⟨g, 0, none⟩) c2 0 Lb) := HSp4.out.spoil k1 k2
                    have HB13 : Hid (Below w11.heap.size w11 w13) := HX4.out.trans kb
                    clear k1 k2 k3 kb
                    go_wp2_with fail
                    go_roundw
                    case rel => exact ⟨j + 1, by omega, by go_num, HS13.out, HB13.out⟩
                    case measure => simp [intOf]; omega
                  · obtain ⟨wD, hwD⟩ : ∃ wD, wD = wr := ⟨_, rfl⟩
                    subst hwD
                    have HBD : Hid (Below w.heap.size w wD) := HB11.out.trans (HX4.out.mono HB11.out.size)
                    go_wp2_with fail
                    refine Calls.mono (HPa.out _ HBD.out) ?_
                    rintro e w14 ⟨p3, c3, rfl, hpn3, b14⟩
                    have HB14 : Hid (Below w.heap.size w w14) := HBD.out.trans (b14.mono HBD.out.size)
                    have HR14 : Hid (Reqs w14 (.slice p3 l.length c3) l) := hpn3.reqs
                    clear hpn3 b14
                    go_wp2_with (go_at_call 19; refine (HSa.out _ _ HB14.out HR14.out).mono ?_; rintro e w' ⟨rfl, hbb⟩)
                    go_ret
                    exact ⟨rfl, HB14.out.trans (hbb.mono HB14.out.size)⟩
              · have heb : ((printE l).2 != 0) = true := by simpa using he
                clear he
                generalize (printE l).2 = pe at *
                go_wp2_with fail
                go_ret
                exact ⟨rfl, HB11.out⟩
end Go.Proofs.YtgaopmdpcjcooaaGreatDoor
