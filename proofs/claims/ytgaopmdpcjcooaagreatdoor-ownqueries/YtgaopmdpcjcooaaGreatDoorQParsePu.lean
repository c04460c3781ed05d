/- Contract over this translation: one part of a selector's text, without a sign behind the key. -/
import Derived.Test.YtgaopmdpcjcooaaGreatDoorQParsePt
namespace Go.Proofs.YtgaopmdpcjcooaaGreatDoor
open Go.RowKit
set_option linter.unusedVariables false
set_option linter.unusedSimpArgs false
theorem ownN_nil (B : Nat) (w : World) : OwnN B w (.slice none 0 0) [] := World.ownsRow_nil _ _ _ _
theorem beq_nil' {y : ByteArray} {s : Bs} (h : y = Ba s) (g : s = []) : (y.toList == []) = true := by
  subst h
  rw [ba_list, g]
  rfl
theorem beq_lit' {y : ByteArray} {s t : Bs} (h : y = Ba s) (g : s = t) : (y.toList == t) = true := by
  subst h
  rw [ba_list, g]
  simp
set_option maxRecDepth 100000 in
set_option maxHeartbeats 4000000 in
theorem part_not (N b : Nat) (s : Bs) (w : World) (h : Rdr b s w) (hs : s.length ≤ 300) (hN : 310 ≤ N) (s2 : Bs) (t0 : tk [61, 61] (rr s) = none) (t1 : tk [61] (rr s) = none) (t2 : tk [33, 61] (rr s) = none) (hk : rn s = []) (t3 : tk [33] (rr s) = some s2) :
    Calls Tryz.prog 56 #[.pointer (some ⟨b, 0, none⟩)] w fun e w' => PartR N b s w e w' := by
  have HR0 : Hid (Rdr b s (w.alloc (.cells #[.string ⟨#[]⟩, .int .i64 0, .slice none 0 0] 35))) := h.below ((Below.refl _ _).alloc (Nat.le_refl _) _)
  have HG0 : Hid (G b w (w.alloc (.cells #[.string ⟨#[]⟩, .int .i64 0, .slice none 0 0] 35))) := (G.refl b w).alloc _
  have HX0 : Hid (Bx3 w.heap.size (w.alloc (.cells #[.string ⟨#[]⟩, .int .i64 0, .slice none 0 0] 35))) := bx3_new _ _ _ _
  have hbl := h.lt
  have hne : w.heap.size ≠ b := by omega
  have HSz : Hid (w.heap.size ≤ (w.alloc (.cells #[.string ⟨#[]⟩, .int .i64 0, .slice none 0 0] 35)).heap.size) := by show _ ≤ _; simp
  have hrl := rr_len s
  clear h
  have HT0 : Hid (tk [61, 61] (rr s) = none) := t0
  have HT1 : Hid (tk [61] (rr s) = none) := t1
  have HT2 : Hid (tk [33, 61] (rr s) = none) := t2
  have HT3 : Hid (tk [33] (rr s) = some s2) := t3
  have HL : Hid (s2.length ≤ 300) := by have := tk_len t3 (by decide); show _ ≤ _; omega
  have HP : Hid (partP N s = some ((rn s2, 4, []), rr s2)) := by
    show _ = _
    unfold partP
    simp only [t0, t1, t2]
    unfold notP
    simp only [hk, if_true, t3]
  clear t0 t1 t2 t3
  obtain ⟨y, hy⟩ : ∃ y, y = Ba (rn s) := ⟨_, rfl⟩
  have HY : Hid (y = Ba (rn s)) := hy
  have hyb : (y.toList == []) = true := beq_nil' hy hk
  have HRun : Hid (∀ w1, Rdr b s w1 → Calls Tryz.prog 78 #[.pointer (some ⟨b, 0, none⟩)] w1 fun e w' => e = .returned (.string y) ∧ G b w1 w' ∧ Rdr b (rr s) w') := fun w1 h1 => by rw [hy]; exact run_any b s w1 h1 (by omega)
  clear hy
  go_enter Tryz.func56, Tryz.ntmps56
  go_wp2_with fail
  refine Calls.mono (HRun.out _ HR0.out) ?_
  rintro e w1 ⟨rfl, g1, r1⟩
  have HG1 : Hid (G b w w1) := HG0.out.trans g1
  have HX1 : Hid (Bx3 w.heap.size w1) := HX0.out.g g1 hne
  have HR1 : Hid (Rdr b _ w1) := r1
  clear g1 r1
  go_wp2_with fail
  refine Calls.mono (take_no b (rr s) ⟨#[61, 61]⟩ _ HR1.out HT0.out) ?_
  rintro e w2 ⟨rfl, g1, r1⟩
  have HG2 : Hid (G b w w2) := HG1.out.trans g1
  have HX2 : Hid (Bx3 w.heap.size w2) := HX1.out.g g1 hne
  have HR2 : Hid (Rdr b _ w2) := r1
  clear g1 r1
  go_wp2_with fail
  refine Calls.mono (take_no b (rr s) ⟨#[61]⟩ _ HR2.out HT1.out) ?_
  rintro e w3 ⟨rfl, g1, r1⟩
  have HG3 : Hid (G b w w3) := HG2.out.trans g1
  have HX3 : Hid (Bx3 w.heap.size w3) := HX2.out.g g1 hne
  have HR3 : Hid (Rdr b _ w3) := r1
  clear g1 r1
  go_wp2_with fail
  refine Calls.mono (take_no b (rr s) ⟨#[33, 61]⟩ _ HR3.out HT2.out) ?_
  rintro e w4 ⟨rfl, g1, r1⟩
  have HG4 : Hid (G b w w4) := HG3.out.trans g1
  have HX4 : Hid (Bx3 w.heap.size w4) := HX3.out.g g1 hne
  have HR4 : Hid (Rdr b _ w4) := r1
  clear g1 r1
  go_wp2_with fail
  refine Calls.mono (take_yes b (rr s) s2 ⟨#[33]⟩ _ HR4.out HT3.out) ?_
  rintro e w5 ⟨rfl, g1, r1⟩
  have HG5 : Hid (G b w w5) := HG4.out.trans g1
  have HX5 : Hid (Bx3 w.heap.size w5) := HX4.out.g g1 hne
  have HR5 : Hid (Rdr b _ w5) := r1
  clear g1 r1
  go_wp2_with fail
  obtain ⟨y2, hy2⟩ : ∃ y, y = Ba (rn s2) := ⟨_, rfl⟩
  have HY2 : Hid (y2 = Ba (rn s2)) := hy2
  have HRun2 : Hid (∀ w1, Rdr b s2 w1 → Calls Tryz.prog 78 #[.pointer (some ⟨b, 0, none⟩)] w1 fun e w' => e = .returned (.string y2) ∧ G b w1 w' ∧ Rdr b (rr s2) w') := fun w1 h1 => by rw [hy2]; exact run_any b s2 w1 h1 (by have := HL.out; omega)
  clear hy2
  refine Calls.mono (HRun2.out _ HR5.out) ?_
  rintro e w6 ⟨rfl, g1, r1⟩
  have HG6 : Hid (G b w w6) := HG5.out.trans g1
  have HX6 : Hid (Bx3 w.heap.size w6) := HX5.out.g g1 hne
  have HR6 : Hid (Rdr b _ w6) := r1
  clear g1 r1
  obtain ⟨f1, f2, f3⟩ := part_fin HG6.out HX6.out HR6.out hbl (ownN_nil w.heap.size w6) (.string y2) (.int .i64 4) (.slice none 0 0)
  obtain ⟨c0, c1, c2⟩ := (put3_box HX6.out y2 4 (.slice none 0 0)).cells
  unfold put3 at f1 f2 f3 c0 c1 c2
  have F : Hid (_) := And.intro f1 (And.intro f2 f3)
  clear f1 f2 f3
  obtain ⟨⟨z0, hz0⟩, ⟨z1, hz1⟩, ⟨z2, hz2⟩⟩ := HX6.out.some
  have hf0 := HX6.out.free 0
  have hf1 := HX6.out.free 1
  have hf2 := HX6.out.free 2
  go_wp2_with fail
  refine bodyPost_ret (v := .tuple #[.agg #[.string y2, .int .i64 4, (.slice none 0 0)], .bool true]) (by simp [results, Tryz.results56, go_sem, c0, c1, c2]) rfl ?_
  exact ⟨F.out.1, Or.inl ⟨(rn s2, 4, []), rr s2, none, 0, 0, HP.out, rfl, by rw [HY2.out], F.out.2.1, F.out.2.2⟩⟩
set_option maxRecDepth 100000 in
set_option maxHeartbeats 4000000 in
theorem part_there_k (N b : Nat) (s : Bs) (w : World) (h : Rdr b s w) (hs : s.length ≤ 300) (hN : 310 ≤ N) (t0 : tk [61, 61] (rr s) = none) (t1 : tk [61] (rr s) = none) (t2 : tk [33, 61] (rr s) = none) (hk : rn s ≠ []) (hw : rn (rr s) = []) :
    Calls Tryz.prog 56 #[.pointer (some ⟨b, 0, none⟩)] w fun e w' => PartR N b s w e w' := by
  have HR0 : Hid (Rdr b s (w.alloc (.cells #[.string ⟨#[]⟩, .int .i64 0, .slice none 0 0] 35))) := h.below ((Below.refl _ _).alloc (Nat.le_refl _) _)
  have HG0 : Hid (G b w (w.alloc (.cells #[.string ⟨#[]⟩, .int .i64 0, .slice none 0 0] 35))) := (G.refl b w).alloc _
  have HX0 : Hid (Bx3 w.heap.size (w.alloc (.cells #[.string ⟨#[]⟩, .int .i64 0, .slice none 0 0] 35))) := bx3_new _ _ _ _
  have hbl := h.lt
  have hne : w.heap.size ≠ b := by omega
  have HSz : Hid (w.heap.size ≤ (w.alloc (.cells #[.string ⟨#[]⟩, .int .i64 0, .slice none 0 0] 35)).heap.size) := by show _ ≤ _; simp
  have hrl := rr_len s
  clear h
  have HT0 : Hid (tk [61, 61] (rr s) = none) := t0
  have HT1 : Hid (tk [61] (rr s) = none) := t1
  have HT2 : Hid (tk [33, 61] (rr s) = none) := t2
  have HP : Hid (partP N s = some ((rn s, 3, []), rr (rr s))) := by
    show _ = _
    unfold partP
    simp only [t0, t1, t2]
    rw [not_here hk]
    unfold wordP
    rw [if_pos hw]
  clear t0 t1 t2
  obtain ⟨y, hy⟩ : ∃ y, y = Ba (rn s) := ⟨_, rfl⟩
  have HY : Hid (y = Ba (rn s)) := hy
  have hyb : (y.toList == []) = false := beq_nil hy hk
  have HRun : Hid (∀ w1, Rdr b s w1 → Calls Tryz.prog 78 #[.pointer (some ⟨b, 0, none⟩)] w1 fun e w' => e = .returned (.string y) ∧ G b w1 w' ∧ Rdr b (rr s) w') := fun w1 h1 => by rw [hy]; exact run_any b s w1 h1 (by omega)
  clear hy
  have hrl2 := rr_len (rr s)
  go_enter Tryz.func56, Tryz.ntmps56
  go_wp2_with fail
  refine Calls.mono (HRun.out _ HR0.out) ?_
  rintro e w1 ⟨rfl, g1, r1⟩
  have HG1 : Hid (G b w w1) := HG0.out.trans g1
  have HX1 : Hid (Bx3 w.heap.size w1) := HX0.out.g g1 hne
  have HR1 : Hid (Rdr b _ w1) := r1
  clear g1 r1
  go_wp2_with fail
  refine Calls.mono (take_no b (rr s) ⟨#[61, 61]⟩ _ HR1.out HT0.out) ?_
  rintro e w2 ⟨rfl, g1, r1⟩
  have HG2 : Hid (G b w w2) := HG1.out.trans g1
  have HX2 : Hid (Bx3 w.heap.size w2) := HX1.out.g g1 hne
  have HR2 : Hid (Rdr b _ w2) := r1
  clear g1 r1
  go_wp2_with fail
  refine Calls.mono (take_no b (rr s) ⟨#[61]⟩ _ HR2.out HT1.out) ?_
  rintro e w3 ⟨rfl, g1, r1⟩
  have HG3 : Hid (G b w w3) := HG2.out.trans g1
  have HX3 : Hid (Bx3 w.heap.size w3) := HX2.out.g g1 hne
  have HR3 : Hid (Rdr b _ w3) := r1
  clear g1 r1
  go_wp2_with fail
  refine Calls.mono (take_no b (rr s) ⟨#[33, 61]⟩ _ HR3.out HT2.out) ?_
  rintro e w4 ⟨rfl, g1, r1⟩
  have HG4 : Hid (G b w w4) := HG3.out.trans g1
  have HX4 : Hid (Bx3 w.heap.size w4) := HX3.out.g g1 hne
  have HR4 : Hid (Rdr b _ w4) := r1
  clear g1 r1
  go_wp2_with fail
  obtain ⟨y2, hy2⟩ : ∃ y, y = Ba (rn (rr s)) := ⟨_, rfl⟩
  have hv0 : (y2.toList == []) = true := beq_nil' hy2 hw
  have HRun2 : Hid (∀ w1, Rdr b (rr s) w1 → Calls Tryz.prog 78 #[.pointer (some ⟨b, 0, none⟩)] w1 fun e w' => e = .returned (.string y2) ∧ G b w1 w' ∧ Rdr b (rr (rr s)) w') := fun w1 h1 => by rw [hy2]; exact run_any b (rr s) w1 h1 (by omega)
  clear hy2
  refine Calls.mono (HRun2.out _ HR4.out) ?_
  rintro e w5 ⟨rfl, g1, r1⟩
  have HG5 : Hid (G b w w5) := HG4.out.trans g1
  have HX5 : Hid (Bx3 w.heap.size w5) := HX4.out.g g1 hne
  have HR5 : Hid (Rdr b _ w5) := r1
  clear g1 r1
  obtain ⟨f1, f2, f3⟩ := part_fin HG5.out HX5.out HR5.out hbl (ownN_nil w.heap.size w5) (.string y) (.int .i64 3) (.slice none 0 0)
  obtain ⟨c0, c1, c2⟩ := (put3_box HX5.out y 3 (.slice none 0 0)).cells
  unfold put3 at f1 f2 f3 c0 c1 c2
  have F : Hid (_) := And.intro f1 (And.intro f2 f3)
  clear f1 f2 f3
  obtain ⟨⟨z0, hz0⟩, ⟨z1, hz1⟩, ⟨z2, hz2⟩⟩ := HX5.out.some
  have hf0 := HX5.out.free 0
  have hf1 := HX5.out.free 1
  have hf2 := HX5.out.free 2
  go_wp2_with fail
  refine bodyPost_ret (v := .tuple #[.agg #[.string y, .int .i64 3, (.slice none 0 0)], .bool true]) (by simp [results, Tryz.results56, go_sem, c0, c1, c2]) rfl ?_
  exact ⟨F.out.1, Or.inl ⟨(rn s, 3, []), rr (rr s), none, 0, 0, HP.out, rfl, by rw [HY.out], F.out.2.1, F.out.2.2⟩⟩
set_option maxRecDepth 100000 in
set_option maxHeartbeats 4000000 in
theorem part_in_k (N b : Nat) (s : Bs) (w : World) (h : Rdr b s w) (hs : s.length ≤ 300) (hN : 310 ≤ N) (t0 : tk [61, 61] (rr s) = none) (t1 : tk [61] (rr s) = none) (t2 : tk [33, 61] (rr s) = none) (hk : rn s ≠ []) (hw : rn (rr s) = [105, 110]) :
    Calls Tryz.prog 56 #[.pointer (some ⟨b, 0, none⟩)] w fun e w' => PartR N b s w e w' := by
  have HR0 : Hid (Rdr b s (w.alloc (.cells #[.string ⟨#[]⟩, .int .i64 0, .slice none 0 0] 35))) := h.below ((Below.refl _ _).alloc (Nat.le_refl _) _)
  have HG0 : Hid (G b w (w.alloc (.cells #[.string ⟨#[]⟩, .int .i64 0, .slice none 0 0] 35))) := (G.refl b w).alloc _
  have HX0 : Hid (Bx3 w.heap.size (w.alloc (.cells #[.string ⟨#[]⟩, .int .i64 0, .slice none 0 0] 35))) := bx3_new _ _ _ _
  have hbl := h.lt
  have hne : w.heap.size ≠ b := by omega
  have HSz : Hid (w.heap.size ≤ (w.alloc (.cells #[.string ⟨#[]⟩, .int .i64 0, .slice none 0 0] 35)).heap.size) := by show _ ≤ _; simp
  have hrl := rr_len s
  clear h
  have HT0 : Hid (tk [61, 61] (rr s) = none) := t0
  have HT1 : Hid (tk [61] (rr s) = none) := t1
  have HT2 : Hid (tk [33, 61] (rr s) = none) := t2
  have HP : Hid (partP N s = (valsP N (rr (rr s))).map fun p => ((rn s, 1, p.1), p.2)) := by
    show _ = _
    unfold partP
    simp only [t0, t1, t2]
    rw [not_here hk]
    unfold wordP
    rw [if_neg (by rw [hw]; decide), if_pos hw]
  clear t0 t1 t2
  obtain ⟨y, hy⟩ : ∃ y, y = Ba (rn s) := ⟨_, rfl⟩
  have HY : Hid (y = Ba (rn s)) := hy
  have hyb : (y.toList == []) = false := beq_nil hy hk
  have HRun : Hid (∀ w1, Rdr b s w1 → Calls Tryz.prog 78 #[.pointer (some ⟨b, 0, none⟩)] w1 fun e w' => e = .returned (.string y) ∧ G b w1 w' ∧ Rdr b (rr s) w') := fun w1 h1 => by rw [hy]; exact run_any b s w1 h1 (by omega)
  clear hy
  have hrl2 := rr_len (rr s)
  go_enter Tryz.func56, Tryz.ntmps56
  go_wp2_with fail
  refine Calls.mono (HRun.out _ HR0.out) ?_
  rintro e w1 ⟨rfl, g1, r1⟩
  have HG1 : Hid (G b w w1) := HG0.out.trans g1
  have HX1 : Hid (Bx3 w.heap.size w1) := HX0.out.g g1 hne
  have HR1 : Hid (Rdr b _ w1) := r1
  clear g1 r1
  go_wp2_with fail
  refine Calls.mono (take_no b (rr s) ⟨#[61, 61]⟩ _ HR1.out HT0.out) ?_
  rintro e w2 ⟨rfl, g1, r1⟩
  have HG2 : Hid (G b w w2) := HG1.out.trans g1
  have HX2 : Hid (Bx3 w.heap.size w2) := HX1.out.g g1 hne
  have HR2 : Hid (Rdr b _ w2) := r1
  clear g1 r1
  go_wp2_with fail
  refine Calls.mono (take_no b (rr s) ⟨#[61]⟩ _ HR2.out HT1.out) ?_
  rintro e w3 ⟨rfl, g1, r1⟩
  have HG3 : Hid (G b w w3) := HG2.out.trans g1
  have HX3 : Hid (Bx3 w.heap.size w3) := HX2.out.g g1 hne
  have HR3 : Hid (Rdr b _ w3) := r1
  clear g1 r1
  go_wp2_with fail
  refine Calls.mono (take_no b (rr s) ⟨#[33, 61]⟩ _ HR3.out HT2.out) ?_
  rintro e w4 ⟨rfl, g1, r1⟩
  have HG4 : Hid (G b w w4) := HG3.out.trans g1
  have HX4 : Hid (Bx3 w.heap.size w4) := HX3.out.g g1 hne
  have HR4 : Hid (Rdr b _ w4) := r1
  clear g1 r1
  go_wp2_with fail
  obtain ⟨y2, hy2⟩ : ∃ y, y = Ba (rn (rr s)) := ⟨_, rfl⟩
  have hv0 : (y2.toList == []) = false := beq_nil hy2 (by rw [hw]; decide)
  have hv1 : (y2.toList == [105, 110]) = true := beq_lit' hy2 hw
  have HRun2 : Hid (∀ w1, Rdr b (rr s) w1 → Calls Tryz.prog 78 #[.pointer (some ⟨b, 0, none⟩)] w1 fun e w' => e = .returned (.string y2) ∧ G b w1 w' ∧ Rdr b (rr (rr s)) w') := fun w1 h1 => by rw [hy2]; exact run_any b (rr s) w1 h1 (by omega)
  clear hy2
  refine Calls.mono (HRun2.out _ HR4.out) ?_
  rintro e w5 ⟨rfl, g1, r1⟩
  have HG5 : Hid (G b w w5) := HG4.out.trans g1
  have HX5 : Hid (Bx3 w.heap.size w5) := HX4.out.g g1 hne
  have HR5 : Hid (Rdr b _ w5) := r1
  clear g1 r1
  go_wp2_with fail
  refine Calls.mono (vals_any N b _ _ HR5.out (by have := rr_len (rr s); omega) hN) ?_
  rintro e w6 ⟨g1, v, p, n, c, rfl, hv⟩
  have HG6 : Hid (G b w w6) := HG5.out.trans g1
  have HX6 : Hid (Bx3 w.heap.size w6) := HX5.out.g g1 hne
  clear g1
  rcases hv with ⟨vs, r, hvp, rfl, hown, rfl, hrd⟩ | ⟨hvp, rfl⟩
  · have HR6 : Hid (Rdr b r w6) := hrd
    have HO : Hid (OwnN w.heap.size w6 (.slice p vs.length c) vs) := hown.low HG5.out.size
    have HP2 : Hid (partP N s = some ((rn s, 1, vs), r)) := by show _ = _; rw [HP.out, hvp]; rfl
    clear hvp hown hrd
    generalize hnv : vs.length = nv at *
    have HNv : Hid (nv = vs.length) := hnv.symm
    clear hnv
    obtain ⟨f1, f2, f3⟩ := part_fin HG6.out HX6.out HR6.out hbl HO.out (.string y) (.int .i64 1) (.slice p nv c)
    obtain ⟨c0, c1, c2⟩ := (put3_box HX6.out y 1 (.slice p nv c)).cells
    unfold put3 at f1 f2 f3 c0 c1 c2
    have F : Hid (_) := And.intro f1 (And.intro f2 f3)
    clear f1 f2 f3
    obtain ⟨⟨z0, hz0⟩, ⟨z1, hz1⟩, ⟨z2, hz2⟩⟩ := HX6.out.some
    have hf0 := HX6.out.free 0
    have hf1 := HX6.out.free 1
    have hf2 := HX6.out.free 2
    go_wp2_with fail
    refine bodyPost_ret (v := .tuple #[.agg #[.string y, .int .i64 1, (.slice p nv c)], .bool true]) (by simp [results, Tryz.results56, go_sem, c0, c1, c2]) rfl ?_
    exact ⟨F.out.1, Or.inl ⟨(rn s, 1, vs), r, p, nv, c, HP2.out, HNv.out, by rw [HY.out], F.out.2.1, F.out.2.2⟩⟩
  · have HP2 : Hid (partP N s = none) := by show _ = _; rw [HP.out, hvp]; rfl
    have hgr := put3_grown w6 w.heap.size (.string y) (.int .i64 1) (.slice p n c)
    have f1 := HG6.out.grown hgr (fun k e => by cases e; exact Nat.le_refl _)
    obtain ⟨c0, c1, c2⟩ := (put3_box HX6.out y 1 (.slice p n c)).cells
    unfold put3 at f1 c0 c1 c2
    have F : Hid (_) := f1
    clear f1 hgr hvp
    obtain ⟨⟨z0, hz0⟩, ⟨z1, hz1⟩, ⟨z2, hz2⟩⟩ := HX6.out.some
    have hf0 := HX6.out.free 0
    have hf1 := HX6.out.free 1
    have hf2 := HX6.out.free 2
    go_wp2_with fail
    refine bodyPost_ret (v := .tuple #[.agg #[.string y, .int .i64 1, .slice p n c], .bool false]) (by simp [results, Tryz.results56, go_sem, c0, c1, c2]) rfl ?_
    exact ⟨F.out, Or.inr ⟨HP2.out, y, 1, p, n, c, rfl⟩⟩
set_option maxRecDepth 100000 in
set_option maxHeartbeats 4000000 in
theorem part_notin_k (N b : Nat) (s : Bs) (w : World) (h : Rdr b s w) (hs : s.length ≤ 300) (hN : 310 ≤ N) (t0 : tk [61, 61] (rr s) = none) (t1 : tk [61] (rr s) = none) (t2 : tk [33, 61] (rr s) = none) (hk : rn s ≠ []) (hw : rn (rr s) = [110, 111, 116, 105, 110]) :
    Calls Tryz.prog 56 #[.pointer (some ⟨b, 0, none⟩)] w fun e w' => PartR N b s w e w' := by
  have HR0 : Hid (Rdr b s (w.alloc (.cells #[.string ⟨#[]⟩, .int .i64 0, .slice none 0 0] 35))) := h.below ((Below.refl _ _).alloc (Nat.le_refl _) _)
  have HG0 : Hid (G b w (w.alloc (.cells #[.string ⟨#[]⟩, .int .i64 0, .slice none 0 0] 35))) := (G.refl b w).alloc _
  have HX0 : Hid (Bx3 w.heap.size (w.alloc (.cells #[.string ⟨#[]⟩, .int .i64 0, .slice none 0 0] 35))) := bx3_new _ _ _ _
  have hbl := h.lt
  have hne : w.heap.size ≠ b := by omega
  have HSz : Hid (w.heap.size ≤ (w.alloc (.cells #[.string ⟨#[]⟩, .int .i64 0, .slice none 0 0] 35)).heap.size) := by show _ ≤ _; simp
  have hrl := rr_len s
  clear h
  have HT0 : Hid (tk [61, 61] (rr s) = none) := t0
  have HT1 : Hid (tk [61] (rr s) = none) := t1
  have HT2 : Hid (tk [33, 61] (rr s) = none) := t2
  have HP : Hid (partP N s = (valsP N (rr (rr s))).map fun p => ((rn s, 2, p.1), p.2)) := by
    show _ = _
    unfold partP
    simp only [t0, t1, t2]
    rw [not_here hk]
    unfold wordP
    rw [if_neg (by rw [hw]; decide), if_neg (by rw [hw]; decide), if_pos hw]
  clear t0 t1 t2
  obtain ⟨y, hy⟩ : ∃ y, y = Ba (rn s) := ⟨_, rfl⟩
  have HY : Hid (y = Ba (rn s)) := hy
  have hyb : (y.toList == []) = false := beq_nil hy hk
  have HRun : Hid (∀ w1, Rdr b s w1 → Calls Tryz.prog 78 #[.pointer (some ⟨b, 0, none⟩)] w1 fun e w' => e = .returned (.string y) ∧ G b w1 w' ∧ Rdr b (rr s) w') := fun w1 h1 => by rw [hy]; exact run_any b s w1 h1 (by omega)
  clear hy
  have hrl2 := rr_len (rr s)
  go_enter Tryz.func56, Tryz.ntmps56
  go_wp2_with fail
  refine Calls.mono (HRun.out _ HR0.out) ?_
  rintro e w1 ⟨rfl, g1, r1⟩
  have HG1 : Hid (G b w w1) := HG0.out.trans g1
  have HX1 : Hid (Bx3 w.heap.size w1) := HX0.out.g g1 hne
  have HR1 : Hid (Rdr b _ w1) := r1
  clear g1 r1
  go_wp2_with fail
  refine Calls.mono (take_no b (rr s) ⟨#[61, 61]⟩ _ HR1.out HT0.out) ?_
  rintro e w2 ⟨rfl, g1, r1⟩
  have HG2 : Hid (G b w w2) := HG1.out.trans g1
  have HX2 : Hid (Bx3 w.heap.size w2) := HX1.out.g g1 hne
  have HR2 : Hid (Rdr b _ w2) := r1
  clear g1 r1
  go_wp2_with fail
  refine Calls.mono (take_no b (rr s) ⟨#[61]⟩ _ HR2.out HT1.out) ?_
  rintro e w3 ⟨rfl, g1, r1⟩
  have HG3 : Hid (G b w w3) := HG2.out.trans g1
  have HX3 : Hid (Bx3 w.heap.size w3) := HX2.out.g g1 hne
  have HR3 : Hid (Rdr b _ w3) := r1
  clear g1 r1
  go_wp2_with fail
  refine Calls.mono (take_no b (rr s) ⟨#[33, 61]⟩ _ HR3.out HT2.out) ?_
  rintro e w4 ⟨rfl, g1, r1⟩
  have HG4 : Hid (G b w w4) := HG3.out.trans g1
  have HX4 : Hid (Bx3 w.heap.size w4) := HX3.out.g g1 hne
  have HR4 : Hid (Rdr b _ w4) := r1
  clear g1 r1
  go_wp2_with fail
  obtain ⟨y2, hy2⟩ : ∃ y, y = Ba (rn (rr s)) := ⟨_, rfl⟩
  have hv0 : (y2.toList == []) = false := beq_nil hy2 (by rw [hw]; decide)
  have hv1 : (y2.toList == [105, 110]) = false := beq_lit hy2 (by rw [hw]; decide)
  have hv2 : (y2.toList == [110, 111, 116, 105, 110]) = true := beq_lit' hy2 hw
  have HRun2 : Hid (∀ w1, Rdr b (rr s) w1 → Calls Tryz.prog 78 #[.pointer (some ⟨b, 0, none⟩)] w1 fun e w' => e = .returned (.string y2) ∧ G b w1 w' ∧ Rdr b (rr (rr s)) w') := fun w1 h1 => by rw [hy2]; exact run_any b (rr s) w1 h1 (by omega)
  clear hy2
  refine Calls.mono (HRun2.out _ HR4.out) ?_
  rintro e w5 ⟨rfl, g1, r1⟩
  have HG5 : Hid (G b w w5) := HG4.out.trans g1
  have HX5 : Hid (Bx3 w.heap.size w5) := HX4.out.g g1 hne
  have HR5 : Hid (Rdr b _ w5) := r1
  clear g1 r1
  go_wp2_with fail
  refine Calls.mono (vals_any N b _ _ HR5.out (by have := rr_len (rr s); omega) hN) ?_
  rintro e w6 ⟨g1, v, p, n, c, rfl, hv⟩
  have HG6 : Hid (G b w w6) := HG5.out.trans g1
  have HX6 : Hid (Bx3 w.heap.size w6) := HX5.out.g g1 hne
  clear g1
  rcases hv with ⟨vs, r, hvp, rfl, hown, rfl, hrd⟩ | ⟨hvp, rfl⟩
  · have HR6 : Hid (Rdr b r w6) := hrd
    have HO : Hid (OwnN w.heap.size w6 (.slice p vs.length c) vs) := hown.low HG5.out.size
    have HP2 : Hid (partP N s = some ((rn s, 2, vs), r)) := by show _ = _; rw [HP.out, hvp]; rfl
    clear hvp hown hrd
    generalize hnv : vs.length = nv at *
    have HNv : Hid (nv = vs.length) := hnv.symm
    clear hnv
    obtain ⟨f1, f2, f3⟩ := part_fin HG6.out HX6.out HR6.out hbl HO.out (.string y) (.int .i64 2) (.slice p nv c)
    obtain ⟨c0, c1, c2⟩ := (put3_box HX6.out y 2 (.slice p nv c)).cells
    unfold put3 at f1 f2 f3 c0 c1 c2
    have F : Hid (_) := And.intro f1 (And.intro f2 f3)
    clear f1 f2 f3
    obtain ⟨⟨z0, hz0⟩, ⟨z1, hz1⟩, ⟨z2, hz2⟩⟩ := HX6.out.some
    have hf0 := HX6.out.free 0
    have hf1 := HX6.out.free 1
    have hf2 := HX6.out.free 2
    go_wp2_with fail
    refine bodyPost_ret (v := .tuple #[.agg #[.string y, .int .i64 2, (.slice p nv c)], .bool true]) (by simp [results, Tryz.results56, go_sem, c0, c1, c2]) rfl ?_
    exact ⟨F.out.1, Or.inl ⟨(rn s, 2, vs), r, p, nv, c, HP2.out, HNv.out, by rw [HY.out], F.out.2.1, F.out.2.2⟩⟩
  · have HP2 : Hid (partP N s = none) := by show _ = _; rw [HP.out, hvp]; rfl
    have hgr := put3_grown w6 w.heap.size (.string y) (.int .i64 2) (.slice p n c)
    have f1 := HG6.out.grown hgr (fun k e => by cases e; exact Nat.le_refl _)
    obtain ⟨c0, c1, c2⟩ := (put3_box HX6.out y 2 (.slice p n c)).cells
    unfold put3 at f1 c0 c1 c2
    have F : Hid (_) := f1
    clear f1 hgr hvp
    obtain ⟨⟨z0, hz0⟩, ⟨z1, hz1⟩, ⟨z2, hz2⟩⟩ := HX6.out.some
    have hf0 := HX6.out.free 0
    have hf1 := HX6.out.free 1
    have hf2 := HX6.out.free 2
    go_wp2_with fail
    refine bodyPost_ret (v := .tuple #[.agg #[.string y, .int .i64 2, .slice p n c], .bool false]) (by simp [results, Tryz.results56, go_sem, c0, c1, c2]) rfl ?_
    exact ⟨F.out, Or.inr ⟨HP2.out, y, 2, p, n, c, rfl⟩⟩
set_option maxRecDepth 100000 in
set_option maxHeartbeats 4000000 in
theorem part_bad_k (N b : Nat) (s : Bs) (w : World) (h : Rdr b s w) (hs : s.length ≤ 300) (hN : 310 ≤ N) (t0 : tk [61, 61] (rr s) = none) (t1 : tk [61] (rr s) = none) (t2 : tk [33, 61] (rr s) = none) (hk : rn s ≠ []) (hw : rn (rr s) ≠ []) (hw1 : rn (rr s) ≠ [105, 110]) (hw2 : rn (rr s) ≠ [110, 111, 116, 105, 110]) :
    Calls Tryz.prog 56 #[.pointer (some ⟨b, 0, none⟩)] w fun e w' => PartR N b s w e w' := by
  have HR0 : Hid (Rdr b s (w.alloc (.cells #[.string ⟨#[]⟩, .int .i64 0, .slice none 0 0] 35))) := h.below ((Below.refl _ _).alloc (Nat.le_refl _) _)
  have HG0 : Hid (G b w (w.alloc (.cells #[.string ⟨#[]⟩, .int .i64 0, .slice none 0 0] 35))) := (G.refl b w).alloc _
  have HX0 : Hid (Bx3 w.heap.size (w.alloc (.cells #[.string ⟨#[]⟩, .int .i64 0, .slice none 0 0] 35))) := bx3_new _ _ _ _
  have hbl := h.lt
  have hne : w.heap.size ≠ b := by omega
  have HSz : Hid (w.heap.size ≤ (w.alloc (.cells #[.string ⟨#[]⟩, .int .i64 0, .slice none 0 0] 35)).heap.size) := by show _ ≤ _; simp
  have hrl := rr_len s
  clear h
  have HT0 : Hid (tk [61, 61] (rr s) = none) := t0
  have HT1 : Hid (tk [61] (rr s) = none) := t1
  have HT2 : Hid (tk [33, 61] (rr s) = none) := t2
  have HP : Hid (partP N s = none) := by
    show _ = _
    unfold partP
    simp only [t0, t1, t2]
    rw [not_here hk]
    unfold wordP
    rw [if_neg hw, if_neg hw1, if_neg hw2]
  clear t0 t1 t2
  obtain ⟨y, hy⟩ : ∃ y, y = Ba (rn s) := ⟨_, rfl⟩
  have HY : Hid (y = Ba (rn s)) := hy
  have hyb : (y.toList == []) = false := beq_nil hy hk
  have HRun : Hid (∀ w1, Rdr b s w1 → Calls Tryz.prog 78 #[.pointer (some ⟨b, 0, none⟩)] w1 fun e w' => e = .returned (.string y) ∧ G b w1 w' ∧ Rdr b (rr s) w') := fun w1 h1 => by rw [hy]; exact run_any b s w1 h1 (by omega)
  clear hy
  have hrl2 := rr_len (rr s)
  go_enter Tryz.func56, Tryz.ntmps56
  go_wp2_with fail
  refine Calls.mono (HRun.out _ HR0.out) ?_
  rintro e w1 ⟨rfl, g1, r1⟩
  have HG1 : Hid (G b w w1) := HG0.out.trans g1
  have HX1 : Hid (Bx3 w.heap.size w1) := HX0.out.g g1 hne
  have HR1 : Hid (Rdr b _ w1) := r1
  clear g1 r1
  go_wp2_with fail
  refine Calls.mono (take_no b (rr s) ⟨#[61, 61]⟩ _ HR1.out HT0.out) ?_
  rintro e w2 ⟨rfl, g1, r1⟩
  have HG2 : Hid (G b w w2) := HG1.out.trans g1
  have HX2 : Hid (Bx3 w.heap.size w2) := HX1.out.g g1 hne
  have HR2 : Hid (Rdr b _ w2) := r1
  clear g1 r1
  go_wp2_with fail
  refine Calls.mono (take_no b (rr s) ⟨#[61]⟩ _ HR2.out HT1.out) ?_
  rintro e w3 ⟨rfl, g1, r1⟩
  have HG3 : Hid (G b w w3) := HG2.out.trans g1
  have HX3 : Hid (Bx3 w.heap.size w3) := HX2.out.g g1 hne
  have HR3 : Hid (Rdr b _ w3) := r1
  clear g1 r1
  go_wp2_with fail
  refine Calls.mono (take_no b (rr s) ⟨#[33, 61]⟩ _ HR3.out HT2.out) ?_
  rintro e w4 ⟨rfl, g1, r1⟩
  have HG4 : Hid (G b w w4) := HG3.out.trans g1
  have HX4 : Hid (Bx3 w.heap.size w4) := HX3.out.g g1 hne
  have HR4 : Hid (Rdr b _ w4) := r1
  clear g1 r1
  go_wp2_with fail
  obtain ⟨y2, hy2⟩ : ∃ y, y = Ba (rn (rr s)) := ⟨_, rfl⟩
  have hv0 : (y2.toList == []) = false := beq_nil hy2 hw
  have hv1 : (y2.toList == [105, 110]) = false := beq_lit hy2 hw1
  have hv2 : (y2.toList == [110, 111, 116, 105, 110]) = false := beq_lit hy2 hw2
  have HRun2 : Hid (∀ w1, Rdr b (rr s) w1 → Calls Tryz.prog 78 #[.pointer (some ⟨b, 0, none⟩)] w1 fun e w' => e = .returned (.string y2) ∧ G b w1 w' ∧ Rdr b (rr (rr s)) w') := fun w1 h1 => by rw [hy2]; exact run_any b (rr s) w1 h1 (by omega)
  clear hy2
  refine Calls.mono (HRun2.out _ HR4.out) ?_
  rintro e w5 ⟨rfl, g1, r1⟩
  have HG5 : Hid (G b w w5) := HG4.out.trans g1
  have HX5 : Hid (Bx3 w.heap.size w5) := HX4.out.g g1 hne
  have HR5 : Hid (Rdr b _ w5) := r1
  clear g1 r1
  obtain ⟨f1, f2, f3⟩ := part_fin HG5.out HX5.out HR5.out hbl (ownN_nil w.heap.size w5) (.string ⟨#[]⟩) (.int .i64 0) (.slice none 0 0)
  obtain ⟨c0, c1, c2⟩ := (put3_box HX5.out ⟨#[]⟩ 0 (.slice none 0 0)).cells
  unfold put3 at f1 f2 f3 c0 c1 c2
  have F : Hid (_) := And.intro f1 (And.intro f2 f3)
  clear f1 f2 f3
  obtain ⟨⟨z0, hz0⟩, ⟨z1, hz1⟩, ⟨z2, hz2⟩⟩ := HX5.out.some
  have hf0 := HX5.out.free 0
  have hf1 := HX5.out.free 1
  have hf2 := HX5.out.free 2
  go_wp2_with fail
  refine bodyPost_ret (v := .tuple #[.agg #[.string ⟨#[]⟩, .int .i64 0, (.slice none 0 0)], .bool false]) (by simp [results, Tryz.results56, go_sem, c0, c1, c2]) rfl ?_
  exact ⟨F.out.1, Or.inr ⟨HP.out, ⟨#[]⟩, 0, none, 0, 0, rfl⟩⟩
set_option maxRecDepth 100000 in
set_option maxHeartbeats 4000000 in
theorem part_there_n (N b : Nat) (s : Bs) (w : World) (h : Rdr b s w) (hs : s.length ≤ 300) (hN : 310 ≤ N) (t0 : tk [61, 61] (rr s) = none) (t1 : tk [61] (rr s) = none) (t2 : tk [33, 61] (rr s) = none) (hk : rn s = []) (t3 : tk [33] (rr s) = none) (hw : rn (rr s) = []) :
    Calls Tryz.prog 56 #[.pointer (some ⟨b, 0, none⟩)] w fun e w' => PartR N b s w e w' := by
  have HR0 : Hid (Rdr b s (w.alloc (.cells #[.string ⟨#[]⟩, .int .i64 0, .slice none 0 0] 35))) := h.below ((Below.refl _ _).alloc (Nat.le_refl _) _)
  have HG0 : Hid (G b w (w.alloc (.cells #[.string ⟨#[]⟩, .int .i64 0, .slice none 0 0] 35))) := (G.refl b w).alloc _
  have HX0 : Hid (Bx3 w.heap.size (w.alloc (.cells #[.string ⟨#[]⟩, .int .i64 0, .slice none 0 0] 35))) := bx3_new _ _ _ _
  have hbl := h.lt
  have hne : w.heap.size ≠ b := by omega
  have HSz : Hid (w.heap.size ≤ (w.alloc (.cells #[.string ⟨#[]⟩, .int .i64 0, .slice none 0 0] 35)).heap.size) := by show _ ≤ _; simp
  have hrl := rr_len s
  clear h
  have HT0 : Hid (tk [61, 61] (rr s) = none) := t0
  have HT1 : Hid (tk [61] (rr s) = none) := t1
  have HT2 : Hid (tk [33, 61] (rr s) = none) := t2
  have HT3 : Hid (tk [33] (rr s) = none) := t3
  have HP : Hid (partP N s = some ((rn s, 3, []), rr (rr s))) := by
    show _ = _
    unfold partP
    simp only [t0, t1, t2]
    unfold notP
    rw [if_pos hk, t3]
    simp only
    unfold wordP
    rw [if_pos hw]
  clear t0 t1 t2 t3
  obtain ⟨y, hy⟩ : ∃ y, y = Ba (rn s) := ⟨_, rfl⟩
  have HY : Hid (y = Ba (rn s)) := hy
  have hyb : (y.toList == []) = true := beq_nil' hy hk
  have HRun : Hid (∀ w1, Rdr b s w1 → Calls Tryz.prog 78 #[.pointer (some ⟨b, 0, none⟩)] w1 fun e w' => e = .returned (.string y) ∧ G b w1 w' ∧ Rdr b (rr s) w') := fun w1 h1 => by rw [hy]; exact run_any b s w1 h1 (by omega)
  clear hy
  have hrl2 := rr_len (rr s)
  go_enter Tryz.func56, Tryz.ntmps56
  go_wp2_with fail
  refine Calls.mono (HRun.out _ HR0.out) ?_
  rintro e w1 ⟨rfl, g1, r1⟩
  have HG1 : Hid (G b w w1) := HG0.out.trans g1
  have HX1 : Hid (Bx3 w.heap.size w1) := HX0.out.g g1 hne
  have HR1 : Hid (Rdr b _ w1) := r1
  clear g1 r1
  go_wp2_with fail
  refine Calls.mono (take_no b (rr s) ⟨#[61, 61]⟩ _ HR1.out HT0.out) ?_
  rintro e w2 ⟨rfl, g1, r1⟩
  have HG2 : Hid (G b w w2) := HG1.out.trans g1
  have HX2 : Hid (Bx3 w.heap.size w2) := HX1.out.g g1 hne
  have HR2 : Hid (Rdr b _ w2) := r1
  clear g1 r1
  go_wp2_with fail
  refine Calls.mono (take_no b (rr s) ⟨#[61]⟩ _ HR2.out HT1.out) ?_
  rintro e w3 ⟨rfl, g1, r1⟩
  have HG3 : Hid (G b w w3) := HG2.out.trans g1
  have HX3 : Hid (Bx3 w.heap.size w3) := HX2.out.g g1 hne
  have HR3 : Hid (Rdr b _ w3) := r1
  clear g1 r1
  go_wp2_with fail
  refine Calls.mono (take_no b (rr s) ⟨#[33, 61]⟩ _ HR3.out HT2.out) ?_
  rintro e w4 ⟨rfl, g1, r1⟩
  have HG4 : Hid (G b w w4) := HG3.out.trans g1
  have HX4 : Hid (Bx3 w.heap.size w4) := HX3.out.g g1 hne
  have HR4 : Hid (Rdr b _ w4) := r1
  clear g1 r1
  go_wp2_with fail
  refine Calls.mono (take_no b (rr s) ⟨#[33]⟩ _ HR4.out HT3.out) ?_
  rintro e w5 ⟨rfl, g1, r1⟩
  have HG5 : Hid (G b w w5) := HG4.out.trans g1
  have HX5 : Hid (Bx3 w.heap.size w5) := HX4.out.g g1 hne
  have HR5 : Hid (Rdr b _ w5) := r1
  clear g1 r1
  go_wp2_with fail
  obtain ⟨y2, hy2⟩ : ∃ y, y = Ba (rn (rr s)) := ⟨_, rfl⟩
  have hv0 : (y2.toList == []) = true := beq_nil' hy2 hw
  have HRun2 : Hid (∀ w1, Rdr b (rr s) w1 → Calls Tryz.prog 78 #[.pointer (some ⟨b, 0, none⟩)] w1 fun e w' => e = .returned (.string y2) ∧ G b w1 w' ∧ Rdr b (rr (rr s)) w') := fun w1 h1 => by rw [hy2]; exact run_any b (rr s) w1 h1 (by omega)
  clear hy2
  refine Calls.mono (HRun2.out _ HR5.out) ?_
  rintro e w6 ⟨rfl, g1, r1⟩
  have HG6 : Hid (G b w w6) := HG5.out.trans g1
  have HX6 : Hid (Bx3 w.heap.size w6) := HX5.out.g g1 hne
  have HR6 : Hid (Rdr b _ w6) := r1
  clear g1 r1
  obtain ⟨f1, f2, f3⟩ := part_fin HG6.out HX6.out HR6.out hbl (ownN_nil w.heap.size w6) (.string y) (.int .i64 3) (.slice none 0 0)
  obtain ⟨c0, c1, c2⟩ := (put3_box HX6.out y 3 (.slice none 0 0)).cells
  unfold put3 at f1 f2 f3 c0 c1 c2
  have F : Hid (_) := And.intro f1 (And.intro f2 f3)
  clear f1 f2 f3
  obtain ⟨⟨z0, hz0⟩, ⟨z1, hz1⟩, ⟨z2, hz2⟩⟩ := HX6.out.some
  have hf0 := HX6.out.free 0
  have hf1 := HX6.out.free 1
  have hf2 := HX6.out.free 2
  go_wp2_with fail
  refine bodyPost_ret (v := .tuple #[.agg #[.string y, .int .i64 3, (.slice none 0 0)], .bool true]) (by simp [results, Tryz.results56, go_sem, c0, c1, c2]) rfl ?_
  exact ⟨F.out.1, Or.inl ⟨(rn s, 3, []), rr (rr s), none, 0, 0, HP.out, rfl, by rw [HY.out], F.out.2.1, F.out.2.2⟩⟩
set_option maxRecDepth 100000 in
set_option maxHeartbeats 4000000 in
theorem part_in_n (N b : Nat) (s : Bs) (w : World) (h : Rdr b s w) (hs : s.length ≤ 300) (hN : 310 ≤ N) (t0 : tk [61, 61] (rr s) = none) (t1 : tk [61] (rr s) = none) (t2 : tk [33, 61] (rr s) = none) (hk : rn s = []) (t3 : tk [33] (rr s) = none) (hw : rn (rr s) = [105, 110]) :
    Calls Tryz.prog 56 #[.pointer (some ⟨b, 0, none⟩)] w fun e w' => PartR N b s w e w' := by
  have HR0 : Hid (Rdr b s (w.alloc (.cells #[.string ⟨#[]⟩, .int .i64 0, .slice none 0 0] 35))) := h.below ((Below.refl _ _).alloc (Nat.le_refl _) _)
  have HG0 : Hid (G b w (w.alloc (.cells #[.string ⟨#[]⟩, .int .i64 0, .slice none 0 0] 35))) := (G.refl b w).alloc _
  have HX0 : Hid (Bx3 w.heap.size (w.alloc (.cells #[.string ⟨#[]⟩, .int .i64 0, .slice none 0 0] 35))) := bx3_new _ _ _ _
  have hbl := h.lt
  have hne : w.heap.size ≠ b := by omega
  have HSz : Hid (w.heap.size ≤ (w.alloc (.cells #[.string ⟨#[]⟩, .int .i64 0, .slice none 0 0] 35)).heap.size) := by show _ ≤ _; simp
  have hrl := rr_len s
  clear h
  have HT0 : Hid (tk [61, 61] (rr s) = none) := t0
  have HT1 : Hid (tk [61] (rr s) = none) := t1
  have HT2 : Hid (tk [33, 61] (rr s) = none) := t2
  have HT3 : Hid (tk [33] (rr s) = none) := t3
  have HP : Hid (partP N s = (valsP N (rr (rr s))).map fun p => ((rn s, 1, p.1), p.2)) := by
    show _ = _
    unfold partP
    simp only [t0, t1, t2]
    unfold notP
    rw [if_pos hk, t3]
    simp only
    unfold wordP
    rw [if_neg (by rw [hw]; decide), if_pos hw]
  clear t0 t1 t2 t3
  obtain ⟨y, hy⟩ : ∃ y, y = Ba (rn s) := ⟨_, rfl⟩
  have HY : Hid (y = Ba (rn s)) := hy
  have hyb : (y.toList == []) = true := beq_nil' hy hk
  have HRun : Hid (∀ w1, Rdr b s w1 → Calls Tryz.prog 78 #[.pointer (some ⟨b, 0, none⟩)] w1 fun e w' => e = .returned (.string y) ∧ G b w1 w' ∧ Rdr b (rr s) w') := fun w1 h1 => by rw [hy]; exact run_any b s w1 h1 (by omega)
  clear hy
  have hrl2 := rr_len (rr s)
  go_enter Tryz.func56, Tryz.ntmps56
  go_wp2_with fail
  refine Calls.mono (HRun.out _ HR0.out) ?_
  rintro e w1 ⟨rfl, g1, r1⟩
  have HG1 : Hid (G b w w1) := HG0.out.trans g1
  have HX1 : Hid (Bx3 w.heap.size w1) := HX0.out.g g1 hne
  have HR1 : Hid (Rdr b _ w1) := r1
  clear g1 r1
  go_wp2_with fail
  refine Calls.mono (take_no b (rr s) ⟨#[61, 61]⟩ _ HR1.out HT0.out) ?_
  rintro e w2 ⟨rfl, g1, r1⟩
  have HG2 : Hid (G b w w2) := HG1.out.trans g1
  have HX2 : Hid (Bx3 w.heap.size w2) := HX1.out.g g1 hne
  have HR2 : Hid (Rdr b _ w2) := r1
  clear g1 r1
  go_wp2_with fail
  refine Calls.mono (take_no b (rr s) ⟨#[61]⟩ _ HR2.out HT1.out) ?_
  rintro e w3 ⟨rfl, g1, r1⟩
  have HG3 : Hid (G b w w3) := HG2.out.trans g1
  have HX3 : Hid (Bx3 w.heap.size w3) := HX2.out.g g1 hne
  have HR3 : Hid (Rdr b _ w3) := r1
  clear g1 r1
  go_wp2_with fail
  refine Calls.mono (take_no b (rr s) ⟨#[33, 61]⟩ _ HR3.out HT2.out) ?_
  rintro e w4 ⟨rfl, g1, r1⟩
  have HG4 : Hid (G b w w4) := HG3.out.trans g1
  have HX4 : Hid (Bx3 w.heap.size w4) := HX3.out.g g1 hne
  have HR4 : Hid (Rdr b _ w4) := r1
  clear g1 r1
  go_wp2_with fail
  refine Calls.mono (take_no b (rr s) ⟨#[33]⟩ _ HR4.out HT3.out) ?_
  rintro e w5 ⟨rfl, g1, r1⟩
  have HG5 : Hid (G b w w5) := HG4.out.trans g1
  have HX5 : Hid (Bx3 w.heap.size w5) := HX4.out.g g1 hne
  have HR5 : Hid (Rdr b _ w5) := r1
  clear g1 r1
  go_wp2_with fail
  obtain ⟨y2, hy2⟩ : ∃ y, y = Ba (rn (rr s)) := ⟨_, rfl⟩
  have hv0 : (y2.toList == []) = false := beq_nil hy2 (by rw [hw]; decide)
  have hv1 : (y2.toList == [105, 110]) = true := beq_lit' hy2 hw
  have HRun2 : Hid (∀ w1, Rdr b (rr s) w1 → Calls Tryz.prog 78 #[.pointer (some ⟨b, 0, none⟩)] w1 fun e w' => e = .returned (.string y2) ∧ G b w1 w' ∧ Rdr b (rr (rr s)) w') := fun w1 h1 => by rw [hy2]; exact run_any b (rr s) w1 h1 (by omega)
  clear hy2
  refine Calls.mono (HRun2.out _ HR5.out) ?_
  rintro e w6 ⟨rfl, g1, r1⟩
  have HG6 : Hid (G b w w6) := HG5.out.trans g1
  have HX6 : Hid (Bx3 w.heap.size w6) := HX5.out.g g1 hne
  have HR6 : Hid (Rdr b _ w6) := r1
  clear g1 r1
  go_wp2_with fail
  refine Calls.mono (vals_any N b _ _ HR6.out (by have := rr_len (rr s); omega) hN) ?_
  rintro e w7 ⟨g1, v, p, n, c, rfl, hv⟩
  have HG7 : Hid (G b w w7) := HG6.out.trans g1
  have HX7 : Hid (Bx3 w.heap.size w7) := HX6.out.g g1 hne
  clear g1
  rcases hv with ⟨vs, r, hvp, rfl, hown, rfl, hrd⟩ | ⟨hvp, rfl⟩
  · have HR7 : Hid (Rdr b r w7) := hrd
    have HO : Hid (OwnN w.heap.size w7 (.slice p vs.length c) vs) := hown.low HG6.out.size
    have HP2 : Hid (partP N s = some ((rn s, 1, vs), r)) := by show _ = _; rw [HP.out, hvp]; rfl
    clear hvp hown hrd
    generalize hnv : vs.length = nv at *
    have HNv : Hid (nv = vs.length) := hnv.symm
    clear hnv
    obtain ⟨f1, f2, f3⟩ := part_fin HG7.out HX7.out HR7.out hbl HO.out (.string y) (.int .i64 1) (.slice p nv c)
    obtain ⟨c0, c1, c2⟩ := (put3_box HX7.out y 1 (.slice p nv c)).cells
    unfold put3 at f1 f2 f3 c0 c1 c2
    have F : Hid (_) := And.intro f1 (And.intro f2 f3)
    clear f1 f2 f3
    obtain ⟨⟨z0, hz0⟩, ⟨z1, hz1⟩, ⟨z2, hz2⟩⟩ := HX7.out.some
    have hf0 := HX7.out.free 0
    have hf1 := HX7.out.free 1
    have hf2 := HX7.out.free 2
    go_wp2_with fail
    refine bodyPost_ret (v := .tuple #[.agg #[.string y, .int .i64 1, (.slice p nv c)], .bool true]) (by simp [results, Tryz.results56, go_sem, c0, c1, c2]) rfl ?_
    exact ⟨F.out.1, Or.inl ⟨(rn s, 1, vs), r, p, nv, c, HP2.out, HNv.out, by rw [HY.out], F.out.2.1, F.out.2.2⟩⟩
  · have HP2 : Hid (partP N s = none) := by show _ = _; rw [HP.out, hvp]; rfl
    have hgr := put3_grown w7 w.heap.size (.string y) (.int .i64 1) (.slice p n c)
    have f1 := HG7.out.grown hgr (fun k e => by cases e; exact Nat.le_refl _)
    obtain ⟨c0, c1, c2⟩ := (put3_box HX7.out y 1 (.slice p n c)).cells
    unfold put3 at f1 c0 c1 c2
    have F : Hid (_) := f1
    clear f1 hgr hvp
    obtain ⟨⟨z0, hz0⟩, ⟨z1, hz1⟩, ⟨z2, hz2⟩⟩ := HX7.out.some
    have hf0 := HX7.out.free 0
    have hf1 := HX7.out.free 1
    have hf2 := HX7.out.free 2
    go_wp2_with fail
    refine bodyPost_ret (v := .tuple #[.agg #[.string y, .int .i64 1, .slice p n c], .bool false]) (by simp [results, Tryz.results56, go_sem, c0, c1, c2]) rfl ?_
    exact ⟨F.out, Or.inr ⟨HP2.out, y, 1, p, n, c, rfl⟩⟩
set_option maxRecDepth 100000 in
set_option maxHeartbeats 4000000 in
theorem part_notin_n (N b : Nat) (s : Bs) (w : World) (h : Rdr b s w) (hs : s.length ≤ 300) (hN : 310 ≤ N) (t0 : tk [61, 61] (rr s) = none) (t1 : tk [61] (rr s) = none) (t2 : tk [33, 61] (rr s) = none) (hk : rn s = []) (t3 : tk [33] (rr s) = none) (hw : rn (rr s) = [110, 111, 116, 105, 110]) :
    Calls Tryz.prog 56 #[.pointer (some ⟨b, 0, none⟩)] w fun e w' => PartR N b s w e w' := by
  have HR0 : Hid (Rdr b s (w.alloc (.cells #[.string ⟨#[]⟩, .int .i64 0, .slice none 0 0] 35))) := h.below ((Below.refl _ _).alloc (Nat.le_refl _) _)
  have HG0 : Hid (G b w (w.alloc (.cells #[.string ⟨#[]⟩, .int .i64 0, .slice none 0 0] 35))) := (G.refl b w).alloc _
  have HX0 : Hid (Bx3 w.heap.size (w.alloc (.cells #[.string ⟨#[]⟩, .int .i64 0, .slice none 0 0] 35))) := bx3_new _ _ _ _
  have hbl := h.lt
  have hne : w.heap.size ≠ b := by omega
  have HSz : Hid (w.heap.size ≤ (w.alloc (.cells #[.string ⟨#[]⟩, .int .i64 0, .slice none 0 0] 35)).heap.size) := by show _ ≤ _; simp
  have hrl := rr_len s
  clear h
  have HT0 : Hid (tk [61, 61] (rr s) = none) := t0
  have HT1 : Hid (tk [61] (rr s) = none) := t1
  have HT2 : Hid (tk [33, 61] (rr s) = none) := t2
  have HT3 : Hid (tk [33] (rr s) = none) := t3
  have HP : Hid (partP N s = (valsP N (rr (rr s))).map fun p => ((rn s, 2, p.1), p.2)) := by
    show _ = _
    unfold partP
    simp only [t0, t1, t2]
    unfold notP
    rw [if_pos hk, t3]
    simp only
    unfold wordP
    rw [if_neg (by rw [hw]; decide), if_neg (by rw [hw]; decide), if_pos hw]
  clear t0 t1 t2 t3
  obtain ⟨y, hy⟩ : ∃ y, y = Ba (rn s) := ⟨_, rfl⟩
  have HY : Hid (y = Ba (rn s)) := hy
  have hyb : (y.toList == []) = true := beq_nil' hy hk
  have HRun : Hid (∀ w1, Rdr b s w1 → Calls Tryz.prog 78 #[.pointer (some ⟨b, 0, none⟩)] w1 fun e w' => e = .returned (.string y) ∧ G b w1 w' ∧ Rdr b (rr s) w') := fun w1 h1 => by rw [hy]; exact run_any b s w1 h1 (by omega)
  clear hy
  have hrl2 := rr_len (rr s)
  go_enter Tryz.func56, Tryz.ntmps56
  go_wp2_with fail
  refine Calls.mono (HRun.out _ HR0.out) ?_
  rintro e w1 ⟨rfl, g1, r1⟩
  have HG1 : Hid (G b w w1) := HG0.out.trans g1
  have HX1 : Hid (Bx3 w.heap.size w1) := HX0.out.g g1 hne
  have HR1 : Hid (Rdr b _ w1) := r1
  clear g1 r1
  go_wp2_with fail
  refine Calls.mono (take_no b (rr s) ⟨#[61, 61]⟩ _ HR1.out HT0.out) ?_
  rintro e w2 ⟨rfl, g1, r1⟩
  have HG2 : Hid (G b w w2) := HG1.out.trans g1
  have HX2 : Hid (Bx3 w.heap.size w2) := HX1.out.g g1 hne
  have HR2 : Hid (Rdr b _ w2) := r1
  clear g1 r1
  go_wp2_with fail
  refine Calls.mono (take_no b (rr s) ⟨#[61]⟩ _ HR2.out HT1.out) ?_
  rintro e w3 ⟨rfl, g1, r1⟩
  have HG3 : Hid (G b w w3) := HG2.out.trans g1
  have HX3 : Hid (Bx3 w.heap.size w3) := HX2.out.g g1 hne
  have HR3 : Hid (Rdr b _ w3) := r1
  clear g1 r1
  go_wp2_with fail
  refine Calls.mono (take_no b (rr s) ⟨#[33, 61]⟩ _ HR3.out HT2.out) ?_
  rintro e w4 ⟨rfl, g1, r1⟩
  have HG4 : Hid (G b w w4) := HG3.out.trans g1
  have HX4 : Hid (Bx3 w.heap.size w4) := HX3.out.g g1 hne
  have HR4 : Hid (Rdr b _ w4) := r1
  clear g1 r1
  go_wp2_with fail
  refine Calls.mono (take_no b (rr s) ⟨#[33]⟩ _ HR4.out HT3.out) ?_
  rintro e w5 ⟨rfl, g1, r1⟩
  have HG5 : Hid (G b w w5) := HG4.out.trans g1
  have HX5 : Hid (Bx3 w.heap.size w5) := HX4.out.g g1 hne
  have HR5 : Hid (Rdr b _ w5) := r1
  clear g1 r1
  go_wp2_with fail
  obtain ⟨y2, hy2⟩ : ∃ y, y = Ba (rn (rr s)) := ⟨_, rfl⟩
  have hv0 : (y2.toList == []) = false := beq_nil hy2 (by rw [hw]; decide)
  have hv1 : (y2.toList == [105, 110]) = false := beq_lit hy2 (by rw [hw]; decide)
  have hv2 : (y2.toList == [110, 111, 116, 105, 110]) = true := beq_lit' hy2 hw
  have HRun2 : Hid (∀ w1, Rdr b (rr s) w1 → Calls Tryz.prog 78 #[.pointer (some ⟨b, 0, none⟩)] w1 fun e w' => e = .returned (.string y2) ∧ G b w1 w' ∧ Rdr b (rr (rr s)) w') := fun w1 h1 => by rw [hy2]; exact run_any b (rr s) w1 h1 (by omega)
  clear hy2
  refine Calls.mono (HRun2.out _ HR5.out) ?_
  rintro e w6 ⟨rfl, g1, r1⟩
  have HG6 : Hid (G b w w6) := HG5.out.trans g1
  have HX6 : Hid (Bx3 w.heap.size w6) := HX5.out.g g1 hne
  have HR6 : Hid (Rdr b _ w6) := r1
  clear g1 r1
  go_wp2_with fail
  refine Calls.mono (vals_any N b _ _ HR6.out (by have := rr_len (rr s); omega) hN) ?_
  rintro e w7 ⟨g1, v, p, n, c, rfl, hv⟩
  have HG7 : Hid (G b w w7) := HG6.out.trans g1
  have HX7 : Hid (Bx3 w.heap.size w7) := HX6.out.g g1 hne
  clear g1
  rcases hv with ⟨vs, r, hvp, rfl, hown, rfl, hrd⟩ | ⟨hvp, rfl⟩
  · have HR7 : Hid (Rdr b r w7) := hrd
    have HO : Hid (OwnN w.heap.size w7 (.slice p vs.length c) vs) := hown.low HG6.out.size
    have HP2 : Hid (partP N s = some ((rn s, 2, vs), r)) := by show _ = _; rw [HP.out, hvp]; rfl
    clear hvp hown hrd
    generalize hnv : vs.length = nv at *
    have HNv : Hid (nv = vs.length) := hnv.symm
    clear hnv
    obtain ⟨f1, f2, f3⟩ := part_fin HG7.out HX7.out HR7.out hbl HO.out (.string y) (.int .i64 2) (.slice p nv c)
    obtain ⟨c0, c1, c2⟩ := (put3_box HX7.out y 2 (.slice p nv c)).cells
    unfold put3 at f1 f2 f3 c0 c1 c2
    have F : Hid (_) := And.intro f1 (And.intro f2 f3)
    clear f1 f2 f3
    obtain ⟨⟨z0, hz0⟩, ⟨z1, hz1⟩, ⟨z2, hz2⟩⟩ := HX7.out.some
    have hf0 := HX7.out.free 0
    have hf1 := HX7.out.free 1
    have hf2 := HX7.out.free 2
    go_wp2_with fail
    refine bodyPost_ret (v := .tuple #[.agg #[.string y, .int .i64 2, (.slice p nv c)], .bool true]) (by simp [results, Tryz.results56, go_sem, c0, c1, c2]) rfl ?_
    exact ⟨F.out.1, Or.inl ⟨(rn s, 2, vs), r, p, nv, c, HP2.out, HNv.out, by rw [HY.out], F.out.2.1, F.out.2.2⟩⟩
  · have HP2 : Hid (partP N s = none) := by show _ = _; rw [HP.out, hvp]; rfl
    have hgr := put3_grown w7 w.heap.size (.string y) (.int .i64 2) (.slice p n c)
    have f1 := HG7.out.grown hgr (fun k e => by cases e; exact Nat.le_refl _)
    obtain ⟨c0, c1, c2⟩ := (put3_box HX7.out y 2 (.slice p n c)).cells
    unfold put3 at f1 c0 c1 c2
    have F : Hid (_) := f1
    clear f1 hgr hvp
    obtain ⟨⟨z0, hz0⟩, ⟨z1, hz1⟩, ⟨z2, hz2⟩⟩ := HX7.out.some
    have hf0 := HX7.out.free 0
    have hf1 := HX7.out.free 1
    have hf2 := HX7.out.free 2
    go_wp2_with fail
    refine bodyPost_ret (v := .tuple #[.agg #[.string y, .int .i64 2, .slice p n c], .bool false]) (by simp [results, Tryz.results56, go_sem, c0, c1, c2]) rfl ?_
    exact ⟨F.out, Or.inr ⟨HP2.out, y, 2, p, n, c, rfl⟩⟩
set_option maxRecDepth 100000 in
set_option maxHeartbeats 4000000 in
theorem part_bad_n (N b : Nat) (s : Bs) (w : World) (h : Rdr b s w) (hs : s.length ≤ 300) (hN : 310 ≤ N) (t0 : tk [61, 61] (rr s) = none) (t1 : tk [61] (rr s) = none) (t2 : tk [33, 61] (rr s) = none) (hk : rn s = []) (t3 : tk [33] (rr s) = none) (hw : rn (rr s) ≠ []) (hw1 : rn (rr s) ≠ [105, 110]) (hw2 : rn (rr s) ≠ [110, 111, 116, 105, 110]) :
    Calls Tryz.prog 56 #[.pointer (some ⟨b, 0, none⟩)] w fun e w' => PartR N b s w e w' := by
  have HR0 : Hid (Rdr b s (w.alloc (.cells #[.string ⟨#[]⟩, .int .i64 0, .slice none 0 0] 35))) := h.below ((Below.refl _ _).alloc (Nat.le_refl _) _)
  have HG0 : Hid (G b w (w.alloc (.cells #[.string ⟨#[]⟩, .int .i64 0, .slice none 0 0] 35))) := (G.refl b w).alloc _
  have HX0 : Hid (Bx3 w.heap.size (w.alloc (.cells #[.string ⟨#[]⟩, .int .i64 0, .slice none 0 0] 35))) := bx3_new _ _ _ _
  have hbl := h.lt
  have hne : w.heap.size ≠ b := by omega
  have HSz : Hid (w.heap.size ≤ (w.alloc (.cells #[.string ⟨#[]⟩, .int .i64 0, .slice none 0 0] 35)).heap.size) := by show _ ≤ _; simp
  have hrl := rr_len s
  clear h
  have HT0 : Hid (tk [61, 61] (rr s) = none) := t0
  have HT1 : Hid (tk [61] (rr s) = none) := t1
  have HT2 : Hid (tk [33, 61] (rr s) = none) := t2
  have HT3 : Hid (tk [33] (rr s) = none) := t3
  have HP : Hid (partP N s = none) := by
    show _ = _
    unfold partP
    simp only [t0, t1, t2]
    unfold notP
    rw [if_pos hk, t3]
    simp only
    unfold wordP
    rw [if_neg hw, if_neg hw1, if_neg hw2]
  clear t0 t1 t2 t3
  obtain ⟨y, hy⟩ : ∃ y, y = Ba (rn s) := ⟨_, rfl⟩
  have HY : Hid (y = Ba (rn s)) := hy
  have hyb : (y.toList == []) = true := beq_nil' hy hk
  have HRun : Hid (∀ w1, Rdr b s w1 → Calls Tryz.prog 78 #[.pointer (some ⟨b, 0, none⟩)] w1 fun e w' => e = .returned (.string y) ∧ G b w1 w' ∧ Rdr b (rr s) w') := fun w1 h1 => by rw [hy]; exact run_any b s w1 h1 (by omega)
  clear hy
  have hrl2 := rr_len (rr s)
  go_enter Tryz.func56, Tryz.ntmps56
  go_wp2_with fail
  refine Calls.mono (HRun.out _ HR0.out) ?_
  rintro e w1 ⟨rfl, g1, r1⟩
  have HG1 : Hid (G b w w1) := HG0.out.trans g1
  have HX1 : Hid (Bx3 w.heap.size w1) := HX0.out.g g1 hne
  have HR1 : Hid (Rdr b _ w1) := r1
  clear g1 r1
  go_wp2_with fail
  refine Calls.mono (take_no b (rr s) ⟨#[61, 61]⟩ _ HR1.out HT0.out) ?_
  rintro e w2 ⟨rfl, g1, r1⟩
  have HG2 : Hid (G b w w2) := HG1.out.trans g1
  have HX2 : Hid (Bx3 w.heap.size w2) := HX1.out.g g1 hne
  have HR2 : Hid (Rdr b _ w2) := r1
  clear g1 r1
  go_wp2_with fail
  refine Calls.mono (take_no b (rr s) ⟨#[61]⟩ _ HR2.out HT1.out) ?_
  rintro e w3 ⟨rfl, g1, r1⟩
  have HG3 : Hid (G b w w3) := HG2.out.trans g1
  have HX3 : Hid (Bx3 w.heap.size w3) := HX2.out.g g1 hne
  have HR3 : Hid (Rdr b _ w3) := r1
  clear g1 r1
  go_wp2_with fail
  refine Calls.mono (take_no b (rr s) ⟨#[33, 61]⟩ _ HR3.out HT2.out) ?_
  rintro e w4 ⟨rfl, g1, r1⟩
  have HG4 : Hid (G b w w4) := HG3.out.trans g1
  have HX4 : Hid (Bx3 w.heap.size w4) := HX3.out.g g1 hne
  have HR4 : Hid (Rdr b _ w4) := r1
  clear g1 r1
  go_wp2_with fail
  refine Calls.mono (take_no b (rr s) ⟨#[33]⟩ _ HR4.out HT3.out) ?_
  rintro e w5 ⟨rfl, g1, r1⟩
  have HG5 : Hid (G b w w5) := HG4.out.trans g1
  have HX5 : Hid (Bx3 w.heap.size w5) := HX4.out.g g1 hne
  have HR5 : Hid (Rdr b _ w5) := r1
  clear g1 r1
  go_wp2_with fail
  obtain ⟨y2, hy2⟩ : ∃ y, y = Ba (rn (rr s)) := ⟨_, rfl⟩
  have hv0 : (y2.toList == []) = false := beq_nil hy2 hw
  have hv1 : (y2.toList == [105, 110]) = false := beq_lit hy2 hw1
  have hv2 : (y2.toList == [110, 111, 116, 105, 110]) = false := beq_lit hy2 hw2
  have HRun2 : Hid (∀ w1, Rdr b (rr s) w1 → Calls Tryz.prog 78 #[.pointer (some ⟨b, 0, none⟩)] w1 fun e w' => e = .returned (.string y2) ∧ G b w1 w' ∧ Rdr b (rr (rr s)) w') := fun w1 h1 => by rw [hy2]; exact run_any b (rr s) w1 h1 (by omega)
  clear hy2
  refine Calls.mono (HRun2.out _ HR5.out) ?_
  rintro e w6 ⟨rfl, g1, r1⟩
  have HG6 : Hid (G b w w6) := HG5.out.trans g1
  have HX6 : Hid (Bx3 w.heap.size w6) := HX5.out.g g1 hne
  have HR6 : Hid (Rdr b _ w6) := r1
  clear g1 r1
  obtain ⟨f1, f2, f3⟩ := part_fin HG6.out HX6.out HR6.out hbl (ownN_nil w.heap.size w6) (.string ⟨#[]⟩) (.int .i64 0) (.slice none 0 0)
  obtain ⟨c0, c1, c2⟩ := (put3_box HX6.out ⟨#[]⟩ 0 (.slice none 0 0)).cells
  unfold put3 at f1 f2 f3 c0 c1 c2
  have F : Hid (_) := And.intro f1 (And.intro f2 f3)
  clear f1 f2 f3
  obtain ⟨⟨z0, hz0⟩, ⟨z1, hz1⟩, ⟨z2, hz2⟩⟩ := HX6.out.some
  have hf0 := HX6.out.free 0
  have hf1 := HX6.out.free 1
  have hf2 := HX6.out.free 2
  go_wp2_with fail
  refine bodyPost_ret (v := .tuple #[.agg #[.string ⟨#[]⟩, .int .i64 0, (.slice none 0 0)], .bool false]) (by simp [results, Tryz.results56, go_sem, c0, c1, c2]) rfl ?_
  exact ⟨F.out.1, Or.inr ⟨HP.out, ⟨#[]⟩, 0, none, 0, 0, rfl⟩⟩
theorem rpart_any (N b : Nat) (s : Bs) (w : World) (h : Rdr b s w) (hs : s.length ≤ 300) (hN : 310 ≤ N) :
    Calls Tryz.prog 56 #[.pointer (some ⟨b, 0, none⟩)] w fun e w' => PartR N b s w e w' := by
  cases t0 : tk [61, 61] (rr s) with
  | some s2 => exact part_eq2 N b s w h hs hN s2 t0
  | none =>
    cases t1 : tk [61] (rr s) with
    | some s2 => exact part_eq1 N b s w h hs hN s2 t0 t1
    | none =>
      cases t2 : tk [33, 61] (rr s) with
      | some s2 => exact part_ne N b s w h hs hN s2 t0 t1 t2
      | none =>
        by_cases hk : rn s = []
        · cases t3 : tk [33] (rr s) with
          | some s2 => exact part_not N b s w h hs hN s2 t0 t1 t2 hk t3
          | none =>
            by_cases hw : rn (rr s) = []
            · exact part_there_n N b s w h hs hN t0 t1 t2 hk t3 hw
            by_cases hw1 : rn (rr s) = [105, 110]
            · exact part_in_n N b s w h hs hN t0 t1 t2 hk t3 hw1
            by_cases hw2 : rn (rr s) = [110, 111, 116, 105, 110]
            · exact part_notin_n N b s w h hs hN t0 t1 t2 hk t3 hw2
            exact part_bad_n N b s w h hs hN t0 t1 t2 hk t3 hw hw1 hw2
        · by_cases hw : rn (rr s) = []
          · exact part_there_k N b s w h hs hN t0 t1 t2 hk hw
          by_cases hw1 : rn (rr s) = [105, 110]
          · exact part_in_k N b s w h hs hN t0 t1 t2 hk hw1
          by_cases hw2 : rn (rr s) = [110, 111, 116, 105, 110]
          · exact part_notin_k N b s w h hs hN t0 t1 t2 hk hw2
          exact part_bad_k N b s w h hs hN t0 t1 t2 hk hw hw1 hw2
end Go.Proofs.YtgaopmdpcjcooaaGreatDoor
