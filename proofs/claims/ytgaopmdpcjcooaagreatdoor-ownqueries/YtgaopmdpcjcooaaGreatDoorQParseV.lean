/- Contract over this translation: values in brackets; parts of a selector of one's own. -/
import Derived.Test.YtgaopmdpcjcooaaGreatDoorQParseM
import Derived.Test.YtgaopmdpcjcooaaGreatDoorQImp
import Derived.Laws.AppendOwn
import Derived.Lib.AppendZerosOnto
namespace Go.Proofs.YtgaopmdpcjcooaaGreatDoor
open Go.RowKit
set_option linter.unusedVariables false
set_option linter.unusedSimpArgs false
theorem one_new (B : Nat) (s : Bs) (w : World) (hB : B ≤ w.heap.size) : OwnN B (w.alloc (.cells #[.string (Ba s)] 9)) (.slice (some ⟨w.heap.size, 0, none⟩) 1 1) [s] :=
  ⟨rfl, Or.inr ⟨w.heap.size, 1, #[.string (Ba s)], rfl, hB, heap_alloc_new _ _, Nat.le_refl _, by decide, rfl, rfl⟩⟩
theorem own_block {B b : Nat} {w : World} {e : TypeId} {n size : Nat} {v : Value} {xs : List Value} (h : w.ownsRow B e size v n xs) (hb : b < B) : v.ownBlock = none ∨ v.ownBlock ≠ some b := by
  cases hv : v.ownBlock with
  | none => exact Or.inl rfl
  | some x =>
    have := (World.ownsRow.lt h x hv).1
    exact Or.inr (fun e => by cases e; omega)
theorem OwnN.g {B b : Nat} {w w' : World} {v : Value} {l : List Bs} (h : OwnN B w v l) (g : G b w w') (hb : b < B) : OwnN B w' v l := World.ownsRow.kept h g (own_block h hb)
theorem OwnN.low {B B' : Nat} {w : World} {v : Value} {l : List Bs} (h : OwnN B w v l) (hb : B' ≤ B) : OwnN B' w v l := by
  obtain ⟨h1, h2⟩ := h
  refine ⟨h1, ?_⟩
  rcases h2 with h2 | ⟨g, cap, cur, e, hB, rest⟩
  · exact Or.inl h2
  · exact Or.inr ⟨g, cap, cur, e, Nat.le_trans hb hB, rest⟩
theorem OwnN.form {B : Nat} {w : World} {v : Value} {l : List Bs} (h : OwnN B w v l) : ∃ p cap, v = .slice p l.length cap := by
  rcases h.2 with ⟨rfl, h0⟩ | ⟨g, cap, cur, rfl, _⟩
  · exact ⟨none, 0, by rw [h0]⟩
  · exact ⟨_, cap, rfl⟩
theorem G.grown {b : Nat} {w0 w w' : World} {row : Option Nat} (h : G b w0 w) (hg : w.grownBy w' row) (hr : ∀ k, row = some k → w0.heap.size ≤ k) : G b w0 w' :=
  ⟨hg.os.trans h.os, hg.tape.trans h.tape, hg.output.trans h.output, Nat.le_trans h.size hg.size, fun k hk hb => (hg.block k (Nat.lt_of_lt_of_le hk h.size) (fun e => by have := hr k e.symm; omega)).trans (h.block k hk hb)⟩
theorem moreV_none {n : Nat} {s : Bs} (h : tk [44] s = none) : moreV n s = ([], s) := by
  cases n with
  | zero => rfl
  | succ n => rw [moreV, h]
theorem moreV_some {n : Nat} {s s1 : Bs} (h : tk [44] s = some s1) (hn : s.length < n) : ∃ m, n = m + 1 ∧ moreV n s = (rn s1 :: (moreV m (rr s1)).1, (moreV m (rr s1)).2) := by
  cases n with
  | zero => omega
  | succ n => exact ⟨n, rfl, by rw [moreV, h]⟩
def restOf (b : Nat) (w : World) : Nat := match w.cell? ⟨b, 0, none⟩ with | some (.string t) => t.size | _ => 0
theorem restOf_eq {b : Nat} {s : Bs} {w : World} (h : Rdr b s w) : restOf b w = s.length := by
  unfold restOf
  rw [h.text]
  exact ba_size s
set_option maxRecDepth 100000 in
set_option maxHeartbeats 4000000 in
theorem vals_yes (N b : Nat) (s s1 : Bs) (w : World) (h : Rdr b s w) (hs : s.length ≤ 300) (hN : 310 ≤ N) (h1 : tk [40] s = some s1) :
    Calls Tryz.prog 79 #[.pointer (some ⟨b, 0, none⟩)] w fun e w' => G b w w' ∧ ∃ v, OwnN w.heap.size w' v (rn s1 :: (moreV N (rr s1)).1) ∧
      ((∃ r, valsP N s = some (rn s1 :: (moreV N (rr s1)).1, r) ∧ e = .returned (.tuple #[v, .bool true]) ∧ Rdr b r w') ∨ (valsP N s = none ∧ e = .returned (.tuple #[v, .bool false]))) := by
  obtain ⟨i0, hi, hz0, hz1, hz2⟩ := info_parts info_str
  have hbl := h.lt
  have HR : Hid (Rdr b s w) := h
  have HT1 : Hid (tk [40] s = some s1) := h1
  have HL1 : Hid (s1.length ≤ 300) := by have := tk_len h1 (by decide); show _ ≤ _; omega
  have HV : Hid (valsP N s = match tk [41] (moreV N (rr s1)).2 with | none => none | some s2 => some (rn s1 :: (moreV N (rr s1)).1, s2)) := by
    show _ = _
    simp only [valsP, h1]
    rfl
  clear h h1
  go_enter Tryz.func79, Tryz.ntmps79
  go_wp2_with fail
  refine Calls.mono (take_yes b s s1 ⟨#[40]⟩ _ HR.out HT1.out) ?_
  rintro e w1 ⟨rfl, g1, r1⟩
  have HG1 : Hid (G b w w1) := g1
  have HR1 : Hid (Rdr b s1 w1) := r1
  clear g1 r1
  go_wp2_with fail
  refine Calls.mono (run_any b s1 _ HR1.out (by have := HL1.out; omega)) ?_
  rintro e w2 ⟨rfl, g1, r1⟩
  have HG2 : Hid (G b w w2) := HG1.out.trans g1
  have HR2 : Hid (Rdr b (rr s1) w2) := r1
  have HB2 : Hid (w.heap.size ≤ w2.heap.size) := HG2.out.size
  clear g1 r1
  have HO0 : Hid (OwnN w.heap.size (w2.alloc (.cells #[.string (Ba (rn s1))] 9)) (.slice (some ⟨w2.heap.size, 0, none⟩) 1 1) [rn s1]) := one_new _ _ _ HB2.out
  have HR0 : Hid (Rdr b (rr s1) (w2.alloc (.cells #[.string (Ba (rn s1))] 9))) := HR2.out.below ((Below.refl _ _).alloc (Nat.le_refl _) _)
  have HG0 : Hid (G b w (w2.alloc (.cells #[.string (Ba (rn s1))] 9))) := HG2.out.alloc _
  go_wp2_with fail
  go_loopw [4] (fun v wr => ∃ (n : Nat) (acc : List Bs) (t : Bs), t.length < n ∧ t.length ≤ 300 ∧ acc.length + t.length ≤ 310 ∧ (moreV N (rr s1)) = (acc.tail ++ (moreV n t).1, (moreV n t).2) ∧ acc.head? = some (rn s1) ∧ OwnN w.heap.size wr v acc ∧ Rdr b t wr ∧ G b w wr) (fun _ wr => restOf b wr)
  case atStart => exact ⟨N, [rn s1], rr s1, by have := rr_len s1; have := HL1.out; omega, by have := rr_len s1; have := HL1.out; omega, by have := rr_len s1; have := HL1.out; simp; omega, rfl, rfl, HO0.out, HR0.out, HG0.out⟩
  case round =>
    obtain ⟨n, acc, t, htn, ht3, hat, hmv, hhd, hown, hR, hG⟩ := hrel
    have HM : Hid (moreV N (rr s1) = (acc.tail ++ (moreV n t).1, (moreV n t).2)) := hmv
    have HH : Hid (acc.head? = some (rn s1)) := hhd
    have HO : Hid (OwnN w.heap.size wr u4 acc) := hown
    have HR : Hid (Rdr b t wr) := hR
    have HG : Hid (G b w wr) := hG
    have HAcc : Hid (rn s1 :: acc.tail = acc) := by
      show _ = _
      cases acc with
      | nil => cases hhd
      | cons a r => injection hhd with e; rw [← e]; rfl
    clear hmv hhd hown hR hG
    cases hx : tk [44] t with
    | none =>
      have HX : Hid (tk [44] t = none) := hx
      have HM2 : Hid (rn s1 :: (moreV N (rr s1)).1 = acc ∧ (moreV N (rr s1)).2 = t) := by
        show _ ∧ _
        rw [HM.out, moreV_none hx]
        simp only [List.append_nil]
        exact ⟨HAcc.out, trivial⟩
      clear hx
      go_wp2_with fail
      refine Calls.mono (take_no b t ⟨#[44]⟩ _ HR.out HX.out) ?_
      rintro e w3 ⟨rfl, g1, r1⟩
      have HG3 : Hid (G b w w3) := HG.out.trans g1
      have HR3 : Hid (Rdr b t w3) := r1
      have HO3 : Hid (OwnN w.heap.size w3 u4 acc) := HO.out.g g1 hbl
      clear g1 r1
      go_wp2_with fail
      cases hy : tk [41] t with
      | none =>
        refine Calls.mono (take_no b t ⟨#[41]⟩ _ HR3.out hy) ?_
        rintro e w4 ⟨rfl, g1, r1⟩
        have HG4 : Hid (G b w w4) := HG3.out.trans g1
        have HO4 : Hid (OwnN w.heap.size w4 u4 acc) := HO3.out.g g1 hbl
        have HNo : Hid (valsP N s = none) := by
          show _ = _
          simp only [HV.out, HM2.out.2, hy]
        clear g1 r1 hy
        go_wp2_with fail
        go_ret2
        exact ⟨HG4.out, u4, by rw [HM2.out.1]; exact HO4.out, Or.inr ⟨HNo.out, rfl⟩⟩
      | some r =>
        refine Calls.mono (take_yes b t r ⟨#[41]⟩ _ HR3.out hy) ?_
        rintro e w4 ⟨rfl, g1, r1⟩
        have HG4 : Hid (G b w w4) := HG3.out.trans g1
        have HR4 : Hid (Rdr b r w4) := r1
        have HO4 : Hid (OwnN w.heap.size w4 u4 acc) := HO3.out.g g1 hbl
        have HYes : Hid (valsP N s = some (rn s1 :: (moreV N (rr s1)).1, r)) := by
          show _ = _
          simp only [HV.out, HM2.out.2, hy]
        clear g1 r1 hy
        go_wp2_with fail
        go_ret2
        exact ⟨HG4.out, u4, by rw [HM2.out.1]; exact HO4.out, Or.inl ⟨r, HYes.out, rfl, HR4.out⟩⟩
    | some t1 =>
      have HX : Hid (tk [44] t = some t1) := hx
      obtain ⟨m, hnm, hm⟩ := moreV_some hx htn
      have hl1 := tk_len hx (by decide)
      have hl2 := rr_len t1
      have HM2 : Hid (moreV N (rr s1) = ((acc ++ [rn t1]).tail ++ (moreV m (rr t1)).1, (moreV m (rr t1)).2)) := by
        show _ = _
        rw [HM.out, hm]
        have : acc ≠ [] := by rw [← HAcc.out]; simp
        rw [List.tail_append_of_ne_nil this]
        simp
      have HH2 : Hid ((acc ++ [rn t1]).head? = some (rn s1)) := by
        show _ = _
        rw [← HAcc.out]
        rfl
      clear hx hm HM HH HAcc
      go_wp2_with fail
      refine Calls.mono (take_yes b t t1 ⟨#[44]⟩ _ HR.out HX.out) ?_
      rintro e w3 ⟨rfl, g1, r1⟩
      have HG3 : Hid (G b w w3) := HG.out.trans g1
      have HR3 : Hid (Rdr b t1 w3) := r1
      have HO3 : Hid (OwnN w.heap.size w3 u4 acc) := HO.out.g g1 hbl
      clear g1 r1
      go_wp2_with fail
      refine Calls.mono (run_any b t1 _ HR3.out (by omega)) ?_
      rintro e w4 ⟨rfl, g1, r1⟩
      have HG4 : Hid (G b w w4) := HG3.out.trans g1
      have HR4 : Hid (Rdr b (rr t1) w4) := r1
      have HO4 : Hid (w4.ownsRow w.heap.size 9 1 u4 acc.length (acc.map fun s => .string (Ba s))) := HO3.out.g g1 hbl
      clear g1 r1
      have hG4s := HG4.out.size
      go_wp2_with (at_builtin; refine wpList_append_own _ rfl _ _ 33 rfl w.heap.size 9 i0 (.string ⟨#[]⟩) 1 16 Tryz.underlying33 hi hz0 hz1 hz2 rfl (by decide) _ _ _ rfl (HO4.out.alloc _) ⟨w4.heap.size, 0, none⟩ 1 1 [.string (Ba (rn t1))] rfl rfl (new1 rfl) one1 (by unfold maxLen; omega) (by omega) (by simp; omega) ?_)
      intro v' w5 hown' hgrow _
      have HO5 : Hid (OwnN w.heap.size w5 v' (acc ++ [rn t1])) := ownN_snoc hown'
      have HG5 : Hid (G b w w5) := (HG4.out.alloc _).grown hgrow (fun k hk => (World.ownsRow.lt HO4.out k hk).1)
      have HR5 : Hid (Rdr b (rr t1) w5) := (HR4.out.below ((Below.refl _ _).alloc (Nat.le_refl _) _)).kept hgrow (fun e => by have := (World.ownsRow.lt HO4.out b e.symm).1; omega)
      clear hown' hgrow
      go_wp2_with fail
      go_roundw
      case rel => exact ⟨m, acc ++ [rn t1], rr t1, by omega, by omega, by rw [List.length_append]; simp; omega, HM2.out, HH2.out, HO5.out, HR5.out, HG5.out⟩
      case measure => rw [restOf_eq HR5.out, restOf_eq HR.out]; omega
set_option maxHeartbeats 1000000 in
theorem vals_no (N b : Nat) (s : Bs) (w : World) (h : Rdr b s w) (h1 : tk [40] s = none) :
    Calls Tryz.prog 79 #[.pointer (some ⟨b, 0, none⟩)] w fun e w' => G b w w' ∧ valsP N s = none ∧ e = .returned (.tuple #[.slice none 0 0, .bool false]) := by
  have HR : Hid (Rdr b s w) := h
  have HT1 : Hid (tk [40] s = none) := h1
  have HV : Hid (valsP N s = none) := by
    show _ = _
    simp only [valsP, h1]
  clear h h1
  go_enter Tryz.func79, Tryz.ntmps79
  go_wp2_with fail
  refine Calls.mono (take_no b s ⟨#[40]⟩ _ HR.out HT1.out) ?_
  rintro e w1 ⟨rfl, g1, r1⟩
  have HG1 : Hid (G b w w1) := g1
  clear g1 r1
  go_wp2_with fail
  go_ret2
  exact ⟨HG1.out, HV.out, rfl⟩
/-- what vals answers -/
theorem vals_any (N b : Nat) (s : Bs) (w : World) (h : Rdr b s w) (hs : s.length ≤ 300) (hN : 310 ≤ N) :
    Calls Tryz.prog 79 #[.pointer (some ⟨b, 0, none⟩)] w fun e w' => G b w w' ∧ ∃ v p n c, v = .slice p n c ∧
      ((∃ vs r, valsP N s = some (vs, r) ∧ n = vs.length ∧ OwnN w.heap.size w' v vs ∧ e = .returned (.tuple #[v, .bool true]) ∧ Rdr b r w') ∨ (valsP N s = none ∧ e = .returned (.tuple #[v, .bool false]))) := by
  cases h1 : tk [40] s with
  | none =>
    refine (vals_no N b s w h h1).mono ?_
    rintro e w' ⟨g, h2, rfl⟩
    exact ⟨g, _, none, 0, 0, rfl, Or.inr ⟨h2, rfl⟩⟩
  | some s1 =>
    refine (vals_yes N b s s1 w h hs hN h1).mono ?_
    rintro e w' ⟨g, v, ho, hc⟩
    obtain ⟨p, c, hv⟩ := ho.form
    refine ⟨g, v, p, _, c, hv, ?_⟩
    rcases hc with ⟨r, h2, rfl, hr⟩ | ⟨h2, rfl⟩
    · exact Or.inl ⟨_, r, h2, rfl, ho, rfl, hr⟩
    · exact Or.inr ⟨h2, rfl⟩
end Go.Proofs.YtgaopmdpcjcooaaGreatDoor
