/- Contracts over this translation: texts with room behind them, whether they were kept, and their spoiling. -/
import Derived.Test.YtgaopmdpcjcooaaGreatDoorQImp
import Derived.Test.YtgaopmdpcjcooaaGreatDoorQEq
import Derived.OwnWalk
import Derived.Laws.MakeOwn
import Derived.Laws.AppendOwnNone
namespace Go.Proofs.YtgaopmdpcjcooaaGreatDoor
open Go.RowKit
set_option linter.unusedVariables false
set_option linter.unusedSimpArgs false
abbrev markV : Value := .string ⟨#[109, 97, 114, 107]⟩
/-- texts in block g, and two marks behind them -/
def RowM (B : Nat) (w : World) (g : Nat) (zs : List Bs) : Prop := w.ownsRow B 9 1 (.slice (some ⟨g, 0, none⟩) (zs.length + 2) (zs.length + 2)) (zs.length + 2) ((zs.map fun s => .string (Ba s)) ++ [markV, markV])
theorem two_marks : ∀ u ∈ [markV, markV], u.oneCell' = true := by
  intro u hu
  simp only [List.mem_cons, List.not_mem_nil, or_false] at hu
  rcases hu with rfl | rfl <;> rfl
theorem texts_one (L : List Bs) : ∀ u ∈ (L.map fun s => Value.string (Ba s)), u.oneCell' = true := fun u hu => by
  obtain ⟨s, _, rfl⟩ := List.mem_map.1 hu
  rfl
theorem RowM.cell {B : Nat} {w : World} {g : Nat} {zs : List Bs} (h : RowM B w g zs) : g < w.heap.size ∧ (∀ (i : Nat) (s : Bs), zs[i]? = some s → w.cell? ⟨g, i, none⟩ = some (.string (Ba s))) ∧ w.cell? ⟨g, zs.length, none⟩ = some markV ∧ w.cell? ⟨g, zs.length + 1, none⟩ = some markV ∧ zs.length + 2 ≤ maxLen := by
  rcases owns_at h with ⟨h1, _⟩ | ⟨g', cap, he, hB, hg, hc, hm, hcell⟩
  · cases h1
  · have e1 : g = g' := by injection he with h1; injection h1 with h1; injection h1
    have e2 : zs.length + 2 = cap := by injection he
    subst e1
    refine ⟨hg, fun i s hs => ?_, ?_, ?_, by omega⟩
    · refine hcell i _ ?_
      obtain ⟨hlt, rfl⟩ := List.getElem?_eq_some_iff.1 hs
      rw [List.getElem?_append_left (by simpa using hlt)]
      simp [hlt]
    · refine hcell _ _ ?_
      rw [List.getElem?_append_right (by simp)]
      simp
    · refine hcell _ _ ?_
      rw [List.getElem?_append_right (by simp)]
      simp
theorem RowM.strs {B : Nat} {w : World} {g : Nat} {zs : List Bs} (h : RowM B w g zs) : Strs w (.slice (some ⟨g, 0, none⟩) zs.length (zs.length + 2)) zs := by
  obtain ⟨h1, h2, h3, h4, h5⟩ := h.cell
  exact Or.inr ⟨g, 0, zs.length + 2, rfl, by omega, h5, h1, fun i s hs => by rw [Nat.zero_add]; exact h2 i s hs⟩
theorem below_grown0 {w w' : World} (b : Below w.heap.size w w') : w.grownBy w' none := ⟨b.os, b.tape, b.output, b.size, fun c hc _ => b.block c hc⟩
theorem own_noneV (v : Value) : v.ownBlock = none ∨ v.ownBlock ≠ (none : Option Nat) := by
  cases v.ownBlock with
  | none => exact Or.inl rfl
  | some x => exact Or.inr (fun e => by cases e)
theorem RowM.below {B : Nat} {w w' : World} {g : Nat} {zs : List Bs} (h : RowM B w g zs) (b : Below w.heap.size w w') : RowM B w' g zs := World.ownsRow.kept h (below_grown0 b) (own_noneV _)
theorem new2m {w : World} {b : Nat} {t : TypeId} (hb : b = w.heap.size) : ∀ (j : Nat) (u : Value), [markV, markV][j]? = some u → (w.alloc (.cells #[markV, markV] t)).cell? ((⟨b, 0, none⟩ : Addr).add j) = some u := by
  intro j u hj
  subst hb
  match j, hj with
  | 0, hj => simp at hj; subst hj; simp [Addr.add]
  | 1, hj => simp at hj; subst hj; simp [Addr.add]
set_option maxRecDepth 100000 in
set_option maxHeartbeats 4000000 in
theorem texts_any (v : Value) (zs : List Bs) (w : World) (hv : Strs w v zs) (hg : GoodV v) (hz : zs.length ≤ 8796093022000) :
    Calls Tryz.prog 10 #[v] w fun e w' => e = .returned (.slice (some ⟨w.heap.size, 0, none⟩) zs.length (zs.length + 2)) ∧ RowM w.heap.size w' w.heap.size zs ∧ Below w.heap.size w w' := by
  obtain ⟨j0, hj, hy0, hy1, hy2⟩ := info_parts info_str
  obtain ⟨w1, hm, hown, hgr⟩ := run_make_own (P := Tryz.prog) w w.heap.size 33 9 j0 (.string ⟨#[]⟩) 1 Tryz.underlying33 hj hy0 hy1 .i64 .i64 (zs.length + 2) (by rw [hy2]; omega) (by unfold maxLen; omega) (Nat.le_refl _)
  rw [show ((zs.length + 2 : Nat) : Int) = (zs.length : Int) + 2 by omega] at hm
  have hb1 : Below w.heap.size w w1 := (Below.refl _ _).grown hgr (Nat.le_refl _) (fun k e => by cases e)
  have HB1 : Hid (Below w.heap.size w w1) := hb1
  have HO1 : Hid (w1.ownsRow w.heap.size 9 1 (.slice (some ⟨w.heap.size, 0, none⟩) 0 (zs.length + 2)) 0 []) := hown
  have HFin : Hid (∀ w', w'.ownsRow w.heap.size 9 1 (.slice (some ⟨w.heap.size, 0, none⟩) (zs.length + 2) (zs.length + 2)) (zs.length + 2) ((zs.map fun s => .string (Ba s)) ++ [markV, markV]) → RowM w.heap.size w' w.heap.size zs) := fun w' h => h
  have hz2 : zs.length + 2 ≤ maxLen := by unfold maxLen; omega
  have HZ1 : Hid (zs.length ≤ 8796093022000) := hz
  rcases hg with rfl | ⟨ad, n, c, rfl⟩
  · have hz0 : zs = [] := by
      rcases hv with ⟨h, _⟩ | ⟨g, o, cap, h, _⟩
      · exact h
      · cases h
    subst hz0
    clear hv hown hgr hb1
    simp only [List.length_nil, List.map_nil, List.nil_append] at hm HO1 HFin ⊢
    rw [show ((0 : Nat) : Int) + 2 = 2 from rfl] at hm
    obtain ⟨cp, hcp⟩ : ∃ cp : Nat, cp = 0 + 2 := ⟨_, rfl⟩
    rw [← hcp] at hm HO1 HFin ⊢
    have HCp : Hid (cp = 0 + 2) := hcp
    clear hcp
    have HN : Hid (Below w.heap.size w (w1.alloc (.cells #[markV, markV] 9))) := HB1.out.grown (World.grownBy_alloc w1 _ none) HB1.out.size (fun k e => by cases e)
    have HO2 : Hid ((w1.alloc (.cells #[markV, markV] 9)).ownsRow w.heap.size 9 1 (.slice (some ⟨w.heap.size, 0, none⟩) 0 cp) 0 []) := World.ownsRow.kept HO1.out (World.grownBy_alloc w1 _ none) (own_noneV _)
    go_enter Tryz.func10, Tryz.ntmps10
    go_wp2_with (at_builtin; first | refine wpList_append_own_none rfl _ _ 33 rfl w.heap.size 9 j0 1 Tryz.underlying33 hj _ _ _ rfl HO1.out rfl ?_ | refine wpList_append_fits _ rfl _ _ 33 rfl w.heap.size 9 j0 1 Tryz.underlying33 hj hy1 w.heap.size 0 cp [] rfl HO2.out ⟨w1.heap.size, 0, none⟩ 2 2 [markV, markV] rfl rfl (new2m rfl) two_marks (by have := HCp.out; omega) ?_)
    intro w3 hown3 hgr3
    have HB3 : Hid (Below w.heap.size w w3) := HN.out.grown hgr3 HN.out.size (fun k e => by
      injection e with e
      omega)
    have HR3 : Hid (RowM w.heap.size w3 w.heap.size []) := by
      have e := HCp.out
      rw [e] at HFin hown3
      exact HFin.out w3 hown3
    clear hown3 hgr3
    go_wp2_with fail
    go_ret
    exact ⟨rfl, HR3.out, HB3.out⟩
  · have hn : n = zs.length := by
      rcases hv with ⟨rfl, p, c, h⟩ | ⟨g, o, cap, h, _⟩
      · injection h
      · injection h
    subst hn
    have HNews : Hid (∀ w2, Below w.heap.size w w2 → ∀ j u, (zs.map fun s => Value.string (Ba s))[j]? = some u → w2.cell? (ad.add j) = some u) := fun w2 hb j u hju => by
      rcases hv with ⟨rfl, _⟩ | ⟨g, o, cap, h, h1, h2, h3, h4⟩
      · simp at hju
      · have e : ad = ⟨g, o, none⟩ := by injection h with h; injection h
        subst e
        rw [List.getElem?_map] at hju
        obtain ⟨s, hs, rfl⟩ := Option.map_eq_some_iff.1 hju
        rw [Addr.add_lit, hb.cell (p := ⟨g, o + j, none⟩) h3]
        exact h4 j s hs
    clear hv hown hgr hb1
    have HL : Hid ((zs.map fun s => Value.string (Ba s)).length = zs.length * 1) := by show _ = _; simp
    have HT1 : Hid (∀ u ∈ (zs.map fun s => Value.string (Ba s)), u.oneCell' = true) := texts_one zs
    generalize hnw : (zs.map fun s => Value.string (Ba s)) = news at *
    clear hnw
    generalize hnl : zs.length = nl at *
    go_enter Tryz.func10, Tryz.ntmps10
    go_wp2_with (at_builtin; refine wpList_append_fits _ rfl _ _ 33 rfl w.heap.size 9 j0 1 Tryz.underlying33 hj hy1 w.heap.size 0 (nl + 2) [] rfl HO1.out ad nl c news rfl HL.out (HNews.out _ HB1.out) HT1.out (by omega) ?_)
    intro w3 hown3 hgr3
    have HB3 : Hid (Below w.heap.size w w3) := HB1.out.grown hgr3 HB1.out.size (fun k e => by
      injection e with e
      omega)
    have HB4 : Hid (Below w.heap.size w (w3.alloc (.cells #[markV, markV] 9))) := HB3.out.grown (World.grownBy_alloc w3 _ none) HB3.out.size (fun k e => by cases e)
    have HO4 : Hid ((w3.alloc (.cells #[markV, markV] 9)).ownsRow w.heap.size 9 1 (.slice (some ⟨w.heap.size, 0, none⟩) nl (nl + 2)) nl news) := World.ownsRow.kept hown3 (World.grownBy_alloc w3 _ none) (own_noneV _)
    clear hown3 hgr3
    go_wp2_with (at_builtin; refine wpList_append_fits _ rfl _ _ 33 rfl w.heap.size 9 j0 1 Tryz.underlying33 hj hy1 w.heap.size nl (nl + 2) news rfl HO4.out ⟨w3.heap.size, 0, none⟩ 2 2 [markV, markV] rfl rfl (new2m rfl) two_marks (by omega) ?_)
    intro w5 hown5 hgr5
    have HB5 : Hid (Below w.heap.size w w5) := HB4.out.grown hgr5 HB4.out.size (fun k e => by
      injection e with e
      omega)
    have HR5 : Hid (RowM w.heap.size w5 w.heap.size zs) := HFin.out w5 hown5
    clear hown5 hgr5
    go_wp2_with fail
    go_ret
    exact ⟨rfl, HR5.out, HB5.out⟩
/-- a row of texts, whatever they are -/
def RowS (w : World) (g cap : Nat) : Prop := ∃ cur, w.heap[g]? = some (.cells cur 9 (0, 0)) ∧ cur.size = cap
theorem RowM.rowS {B : Nat} {w : World} {g : Nat} {zs : List Bs} (h : RowM B w g zs) : RowS w g (zs.length + 2) := by
  rcases h.2 with ⟨h1, _⟩ | ⟨g', cap, cur, he, hB, hg, hc, hm, hs, _⟩
  · cases h1
  · have e1 : g = g' := by injection he with h1; injection h1 with h1; injection h1
    have e2 : zs.length + 2 = cap := by injection he
    subst e1
    exact ⟨cur, hg, by rw [hs, e2]; omega⟩
set_option maxRecDepth 100000 in
set_option maxHeartbeats 4000000 in
theorem spoil_any (g n cap : Nat) (w : World) (hr : RowS w g cap) (hn : n ≤ cap) (hc : cap ≤ maxLen) :
    Calls Tryz.prog 17 #[.slice (some ⟨g, 0, none⟩) n cap] w fun e w' => e = .returned (.tuple #[]) ∧ RowS w' g cap ∧ w.grownBy w' (some g) := by
  have HR : Hid (RowS w g cap) := hr
  clear hr
  unfold maxLen at hc
  go_enter Tryz.func17, Tryz.ntmps17
  go_wp2_with fail
  go_loopw [9] (fun i wr => ∃ k : Nat, k ≤ cap ∧ i = .int .i64 k ∧ RowS wr g cap ∧ w.grownBy wr (some g)) (fun i _ => cap - (intOf i).toNat)
  case atStart => exact ⟨0, Nat.zero_le _, rfl, HR.out, ⟨rfl, rfl, rfl, Nat.le_refl _, fun _ _ _ => rfl⟩⟩
  case round =>
    obtain ⟨k, hk, rfl, ⟨cur, hcu, hcs⟩, hgr⟩ := hrel
    have HGr : Hid (w.grownBy wr (some g)) := hgr
    have HCu : Hid (wr.heap[g]? = some (.cells cur 9 (0, 0))) := hcu
    clear hgr hcu
    by_cases hlt : k < cap
    · have hkc : k < cur.size := by omega
      have hcell : wr.cell? ⟨g, k, none⟩ = some cur[k] := by
        rw [cell_of_row _ _ _ _ _ _ HCu.out]
        exact Array.getElem?_eq_getElem hkc
      have hfz : wr.frozen? ⟨g, k, none⟩ = false := frozen_of_row _ _ _ _ _ HCu.out
      have HNew : Hid (RowS (wr.setCell ⟨g, k, none⟩ (.string ⟨#[115, 112, 111, 105, 108, 116]⟩)) g cap) := ⟨_, heap_setCell_same wr g k _ _ _ HCu.out, by simp [hcs]⟩
      have HGr2 : Hid (w.grownBy (wr.setCell ⟨g, k, none⟩ (.string ⟨#[115, 112, 111, 105, 108, 116]⟩)) (some g)) := by
        have h1 := HGr.out
        have h2 : wr.grownBy (wr.setCell ⟨g, k, none⟩ (.string ⟨#[115, 112, 111, 105, 108, 116]⟩)) (some g) := ⟨rfl, rfl, rfl, by simp [World.setCell], fun c _ hb => heap_setCell_other _ _ _ _ (fun e => hb (by rw [e]))⟩
        exact ⟨h2.os.trans h1.os, h2.tape.trans h1.tape, h2.output.trans h1.output, Nat.le_trans h1.size h2.size, fun c hc hb => (h2.block c (Nat.lt_of_lt_of_le hc h1.size) hb).trans (h1.block c hc hb)⟩
      clear hcs
      generalize cur[k] = old at *
      go_wp2_with fail
      go_roundw
      case rel => exact ⟨k + 1, by omega, by go_num, HNew.out, HGr2.out⟩
      case measure => simp [intOf]; omega
    · go_wp2_with fail
      go_end0
      exact ⟨rfl, ⟨cur, HCu.out, hcs⟩, HGr.out⟩
set_option maxHeartbeats 1000000 in
theorem spoil_nil (w : World) : Calls Tryz.prog 17 #[.slice none 0 0] w fun e w' => e = .returned (.tuple #[]) ∧ w' = w := by
  go_enter Tryz.func17, Tryz.ntmps17
  go_wp2_with fail
  go_loopw [9] (fun i wr => i = .int .i64 0 ∧ wr = w) (fun i _ => 0)
  case atStart => exact ⟨rfl, rfl⟩
  case round =>
    obtain ⟨rfl, rfl⟩ := hrel
    go_wp2_with fail
    go_end0
    exact ⟨rfl, rfl⟩
set_option maxRecDepth 100000 in
set_option maxHeartbeats 4000000 in
theorem kept_yes (B g : Nat) (v : Value) (zs : List Bs) (w : World) (h : RowM B w g zs) (hv : Strs w v zs) :
    Calls Tryz.prog 16 #[.slice (some ⟨g, 0, none⟩) zs.length (zs.length + 2), v] w fun e w' => e = .returned (.bool true) ∧ Below w.heap.size w w' := by
  have HE : Hid (Calls Tryz.prog 30 #[.slice (some ⟨g, 0, none⟩) zs.length (zs.length + 2), v] w fun e w' => e = .returned (.bool true) ∧ Below w.heap.size w w') := by
    have := rfeq_any _ _ zs zs w h.strs hv
    rw [beq_self_eq_true] at this
    exact this
  have HM : Hid (∀ w1, Below w.heap.size w w1 → w1.cell? ⟨g, zs.length, none⟩ = some markV ∧ w1.cell? ⟨g, zs.length + 1, none⟩ = some markV) := fun w1 hb => by
    obtain ⟨_, _, h3, h4, _⟩ := (h.below hb).cell
    exact ⟨h3, h4⟩
  have hm := h.cell.2.2.2.2
  unfold maxLen at hm
  obtain ⟨pv, cv, rfl, hx1, hx2⟩ := hv.open
  clear h hv hx1 hx2
  generalize zs.length = nl at *
  go_enter Tryz.func16, Tryz.ntmps16
  go_wp2_with fail
  refine Calls.mono HE.out ?_
  rintro e w1 ⟨rfl, hb⟩
  obtain ⟨HM1, HM2⟩ := HM.out _ hb
  have e2 : nl + 2 - nl = 2 := by omega
  go_wp2_with fail
  go_ret
  exact ⟨rfl, hb⟩
end Go.Proofs.YtgaopmdpcjcooaaGreatDoor
