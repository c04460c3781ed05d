/- Contracts over this translation: strings.Clone; token.own: a user in memory of its own. -/
import Derived.Test.YtmbpjbghhimedaaGreatDoorTkIssue
import Derived.Laws.AppendOwn
import Derived.Laws.MakeOwn
import Derived.Deep.AppendLies
namespace Go.Proofs.YtmbpjbghhimedaaGreatDoor
open Go.RowKit
set_option linter.unusedVariables false
set_option linter.unusedSimpArgs false
theorem clone_any (s : Bs) (w : World) (hs : s.length ≤ 281474976710656) : Calls Tryz.prog 79 #[.string (Ba s)] w fun e w' => e = .returned (.string (Ba s)) ∧ Below w.heap.size w w' := by
  have HC : Hid (Calls Tryz.prog 102 #[.string (Ba s)] w fun e w' => e = .returned (.string (Ba s)) ∧ Below w.heap.size w w') := Tryz.stringslite_Clone (Ba s) w (by rw [ba_size]; exact hs)
  generalize Ba s = y at *
  go_enter Tryz.func79, Tryz.ntmps79
  go_wp2_with fail
  refine Calls.mono HC.out ?_
  rintro e w1 ⟨rfl, b⟩
  have B1 : Hid (Below w.heap.size w w1) := b
  clear b
  go_wp2_with fail
  go_ret
  exact ⟨rfl, B1.out⟩
theorem info_str : (Tryz.prog.info? 9).map (fun i => (i.zero, i.size, i.bytes)) = some (some (.string ⟨#[]⟩), 1, 16) := by kernel_rfl
/-- a list of texts of one's own, from block B on -/
def OwnN (B : Nat) (w : World) (v : Value) (l : List Bs) : Prop := w.ownsRow B 9 1 v l.length (l.map fun s => .string (Ba s))
theorem OwnN.low {B B' : Nat} {w : World} {v : Value} {l : List Bs} (h : OwnN B w v l) (hb : B' ≤ B) : OwnN B' w v l := by
  obtain ⟨h1, h2⟩ := h
  refine ⟨h1, ?_⟩
  rcases h2 with h2 | ⟨g, cap, cur, e, hB, rest⟩
  · exact Or.inl h2
  · exact Or.inr ⟨g, cap, cur, e, Nat.le_trans hb hB, rest⟩
theorem OwnN.below {B : Nat} {w w' : World} {v : Value} {l : List Bs} (h : OwnN B w v l) (g : Below w.heap.size w w') : OwnN B w' v l := by
  obtain ⟨h1, h2⟩ := h
  refine ⟨h1, ?_⟩
  rcases h2 with h2 | ⟨k, cap, cur, e, hB, hh, rest⟩
  · exact Or.inl h2
  · exact Or.inr ⟨k, cap, cur, e, hB, by rw [g.block _ (Array.getElem?_eq_some_iff.1 hh).1]; exact hh, rest⟩
theorem OwnN.strs {B : Nat} {w : World} {v : Value} {l : List Bs} (h : OwnN B w v l) : Strs w v l := by
  rcases h.2 with ⟨rfl, h0⟩ | ⟨g, cap, cur, rfl, hB, hh, hc, hm, hs, ht⟩
  · exact Or.inl ⟨List.length_eq_zero_iff.1 h0, none, 0, rfl⟩
  · refine Or.inr ⟨g, 0, cap, rfl, hc, hm, (Array.getElem?_eq_some_iff.1 hh).1, fun i s hi => ?_⟩
    have hil : i < l.length := (List.getElem?_eq_some_iff.1 hi).1
    have := World.ownsRow.cellAt (w := w) (g := g) (cap := cap) (n := l.length) (xs := l.map fun s => .string (Ba s)) (size := 1) (e := 9) (base := B) h i (by omega)
    rw [Nat.zero_add, this, List.getElem?_map, hi]
    rfl
/-- rows of cells behind an append -/
theorem take_map (l : List Bs) (k : Nat) (h : k < l.length) : ((l.take (k + 1)).map fun s => Value.string (Ba s)) = ((l.take k).map fun s => Value.string (Ba s)) ++ [.string (Ba l[k])] := by
  rw [List.take_succ_eq_append_getElem h, List.map_append]
  rfl
theorem own_block {B b : Nat} {w : World} {e : TypeId} {n size : Nat} {v : Value} {xs : List Value} (h : w.ownsRow B e size v n xs) (hb : b < B) : v.ownBlock = none ∨ v.ownBlock ≠ some b := by
  cases hv : v.ownBlock with
  | none => exact Or.inl rfl
  | some x =>
    have := (World.ownsRow.lt h x hv).1
    exact Or.inr (fun e => by cases e; omega)
theorem set_grown (w : World) (b i : Nat) (v : Value) : w.grownBy (w.setCell ⟨b, i, none⟩ v) (some b) :=
  ⟨rfl, rfl, rfl, by simp [World.setCell], fun k _ hb => heap_setCell_other _ _ _ _ (fun e => hb (by rw [e]))⟩
theorem grown_trans {b : Nat} {x y z : World} (h : x.grownBy y (some b)) (g : y.grownBy z (some b)) : x.grownBy z (some b) :=
  ⟨g.os.trans h.os, g.tape.trans h.tape, g.output.trans h.output, Nat.le_trans h.size g.size, fun k hk hb => (g.block k (Nat.lt_of_lt_of_le hk h.size) hb).trans (h.block k hk hb)⟩
theorem put2_grown (w : World) (b : Nat) (u v : Value) : w.grownBy (put2 w b u v) (some b) :=
  grown_trans (set_grown w b 0 u) (set_grown _ b 1 v)
theorem own_belowT {w w' : World} {B : Nat} {e : TypeId} {v : Value} {n : Nat} {xs : List Value} (h : w.ownsRow B e 1 v n xs) (g : Below w.heap.size w w') : w'.ownsRow B e 1 v n xs := by
  obtain ⟨h1, h2⟩ := h
  refine ⟨h1, ?_⟩
  rcases h2 with h2 | ⟨k, cap, cur, e, hB, hh, rest⟩
  · exact Or.inl h2
  · exact Or.inr ⟨k, cap, cur, e, hB, by rw [g.block _ (Array.getElem?_eq_some_iff.1 hh).1]; exact hh, rest⟩
set_option maxRecDepth 100000 in
set_option maxHeartbeats 4000000 in
theorem own_any (n : Bs) (v : Value) (gs : List Bs) (w : World) (hn : n.length ≤ 20) (hv : Strs w v gs) (h6 : gs.length ≤ 6) (hg : ∀ g ∈ gs, g.length ≤ 20) :
    Calls Tryz.prog 49 #[.agg #[.string (Ba n), v]] w fun e w' => ∃ g cap, e = .returned (.agg #[.string (Ba n), .slice (some ⟨g, 0, none⟩) gs.length cap]) ∧ OwnN w.heap.size w' (.slice (some ⟨g, 0, none⟩) gs.length cap) gs ∧ Below w.heap.size w w' := by
  obtain ⟨i0, hi, hz0, hz1, hz2⟩ := info_parts info_str
  obtain ⟨p, c, rfl, hln, hcell⟩ := hv.open
  have HCl : Hid (∀ w, Calls Tryz.prog 79 #[.string (Ba n)] w fun e w' => e = .returned (.string (Ba n)) ∧ Below w.heap.size w w') := fun w => clone_any n w (by omega)
  have HCg : Hid (∀ k (hk : k < gs.length) w, Calls Tryz.prog 79 #[.string (Ba gs[k])] w fun e w' => e = .returned (.string (Ba gs[k])) ∧ Below w.heap.size w w') := fun k hk w => clone_any _ w (by have := hg _ (List.getElem_mem hk); omega)
  have HC : Hid (∀ k (hk : k < gs.length), ∃ g o, p = some ⟨g, o, none⟩ ∧ gs.length ≤ c ∧ ∀ w1, Below w.heap.size w w1 → w1.cell? ⟨g, o + k, none⟩ = some (.string (Ba gs[k]))) := hcell
  clear hcell hv hg hln
  obtain ⟨w0, hw0⟩ : ∃ w0, w0 = (w.alloc (.cells #[.string (Ba n), .slice p gs.length c] 24)).alloc (.cells #[.string ⟨#[]⟩, .slice none 0 0] 24) := ⟨_, rfl⟩
  have hs0 : w0.heap.size = w.heap.size + 1 + 1 := by rw [hw0]; simp
  have hB0 : Below w.heap.size w w0 := by rw [hw0]; exact ((Below.refl _ _).alloc (Nat.le_refl _) _).alloc (by simp) _
  have hbx1 : Bx2 w0 w.heap.size (.string (Ba n)) (.slice p gs.length c) 24 := by
    rw [hw0]
    exact (bx2_new _ _ _ _).below ((Below.refl _ _).alloc (Nat.le_refl _) _)
  have hbx2 : Bx2 w0 (w.heap.size + 1) (.string ⟨#[]⟩) (.slice none 0 0) 24 := by
    rw [hw0]
    have h := bx2_new (w.alloc (.cells #[.string (Ba n), .slice p gs.length c] 24)) (.string ⟨#[]⟩) (.slice none 0 0) 24
    simpa using h
  have HBx1 : Hid (Bx2 w0 w.heap.size (.string (Ba n)) (.slice p gs.length c) 24) := hbx1
  have HBx2 : Hid (Bx2 w0 (w.heap.size + 1) (.string ⟨#[]⟩) (.slice none 0 0) 24) := hbx2
  have HB0 : Hid (Below w.heap.size w w0) := hB0
  have q0 := hbx1.c0
  have q1 := hbx1.c1
  clear hbx1 hbx2 hB0
  go_enter Tryz.func49, Tryz.ntmps49
  go_wp2_with (refine wpList_make_own _ rfl _ _ 22 rfl (w.heap.size + 1 + 1) 9 i0 (.string ⟨#[]⟩) 1 Tryz.underlying22 hi hz0 hz1 .i64 .i64 _ gs.length rfl rfl rfl (by rw [hz2]; omega) (by unfold maxLen; omega) (by simp) ?_)
  intro w1 hown0 hgr0
  rw [← hw0] at hgr0
  rw [← hs0] at hown0
  have HB1 : Hid (Below w0.heap.size w0 w1) := (Below.refl _ _).grown hgr0 (Nat.le_refl _) (fun k hk => by cases hk)
  have HO1 : Hid (w1.ownsRow w0.heap.size 9 1 (.slice (some ⟨w0.heap.size, 0, none⟩) 0 gs.length) 0 ((gs.take 0).map fun s => Value.string (Ba s))) := hown0
  have HSz : Hid (w0.heap.size = w.heap.size + 1 + 1) := hs0
  have r1 := (HBx1.out.below HB1.out).c1
  rw [← hs0]
  clear hown0 hgr0 hw0 hs0 q0 q1
  go_wp2_with fail
  go_loopw [3, 13] (fun sv iv wr => ∃ (k g cap : Nat), k ≤ gs.length ∧ iv = .int .i64 k ∧ sv = .slice (some ⟨g, 0, none⟩) k cap ∧ wr.ownsRow w0.heap.size 9 1 (.slice (some ⟨g, 0, none⟩) k cap) k ((gs.take k).map fun s => Value.string (Ba s)) ∧ Below w0.heap.size w0 wr) (fun _ iv _ => gs.length - (intOf iv).toNat)
  case atStart => exact ⟨0, w0.heap.size, gs.length, Nat.zero_le _, rfl, rfl, HO1.out, HB1.out⟩
  case round =>
    obtain ⟨k, g, cap, hk, rfl, rfl, hown, hbel⟩ := hrel
    have HO : Hid (wr.ownsRow w0.heap.size 9 1 (.slice (some ⟨g, 0, none⟩) k cap) k ((gs.take k).map fun s => Value.string (Ba s))) := hown
    have HB : Hid (Below w0.heap.size w0 wr) := hbel
    clear hown hbel r1 HO1 HB1
    by_cases hlt : k < gs.length
    · obtain ⟨g', o', rfl, hlc, hc0⟩ := HC.out k hlt
      have hc1 := hc0 wr (HB0.out.trans (HB.out.mono HB0.out.size))
      have HCk : Hid (∀ w, Calls Tryz.prog 79 #[.string (Ba gs[k])] w fun e w' => e = .returned (.string (Ba gs[k])) ∧ Below w.heap.size w w') := HCg.out k hlt
      have HTk : Hid (((gs.take (k + 1)).map fun s => Value.string (Ba s)) = ((gs.take k).map fun s => Value.string (Ba s)) ++ [.string (Ba gs[k])]) := take_map gs k hlt
      have hkI : (k : Int) < (gs.length : Int) := by omega
      clear hc0
      generalize Ba gs[k] = y at *
      generalize ((gs.take k).map fun s => Value.string (Ba s)) = xs at *
      generalize hx1 : ((gs.take (k + 1)).map fun s => Value.string (Ba s)) = xs1 at *
      go_wp2_with fail
      refine Calls.mono (HCk.out _) ?_
      rintro e w3 ⟨rfl, b⟩
      have HA : Hid ((w3.alloc (.cells #[.string y] 9)).ownsRow w0.heap.size 9 1 (.slice (some ⟨g, 0, none⟩) k cap) k xs) := (own_belowT HO.out b).alloc _
      have HB3 : Hid (Below w0.heap.size w0 (w3.alloc (.cells #[.string y] 9))) := by
        have h := HB.out.trans (b.mono HB.out.size)
        exact h.alloc h.size _
      clear b HO HB
      go_wp2_with (at_builtin; refine wpList_append_lies _ rfl _ _ 22 rfl w0.heap.size 9 i0 (.string ⟨#[]⟩) 1 16 Tryz.underlying22 hi hz0 hz1 hz2 rfl (by decide) _ _ _ rfl (HA.out) ⟨w3.heap.size, 0, none⟩ 1 1 [.string y] rfl rfl ?g1 ?g2 (by decide) ?g3 ?g4 ?g5 _ rfl ?_)
      case g1 => exact World.news_of_block (heap_alloc_new w3 _)
      case g2 => intro u hu; rw [List.mem_singleton.1 hu]; rfl
      case g3 => unfold maxLen; omega
      case g4 => omega
      case g5 => exact HB3.out.size
      intro g3 cap3 w4 hown' hgrow hlies _
      have HO4 : Hid (w4.ownsRow w0.heap.size 9 1 (.slice (some ⟨g3, 0, none⟩) (k + 1) cap3) (k + 1) xs1) := by
        show World.ownsRow _ _ _ _ _ _ _
        rw [HTk.out]
        exact hown'
      have HB4 : Hid (Below w0.heap.size w0 w4) := HB3.out.grown hgrow HB3.out.size (fun j hj => (HA.out.lt j hj).1)
      clear hown' hgrow hlies HA HB3
      go_wp2_with fail
      go_roundw
      case rel => exact ⟨k + 1, g3, cap3, by omega, by go_num, rfl, by rw [hx1]; exact HO4.out, HB4.out⟩
      case measure => simp [intOf]; omega
    · have hke : k = gs.length := by omega
      have HN : Hid (OwnN w0.heap.size wr (.slice (some ⟨g, 0, none⟩) k cap) gs) := by
        show World.ownsRow _ _ _ _ _ _ _
        have h := HO.out
        rw [hke, List.take_of_length_le (Nat.le_refl _)] at h
        rw [hke]
        exact h
      have hkI : ¬ ((k : Int) < (gs.length : Int)) := by omega
      have z0 := (HBx1.out.below HB.out).c0
      have HK : Hid (k = gs.length) := hke
      clear hke HO
      generalize hy : Ba n = y at *
      go_wp2_with fail
      refine Calls.mono (HCl.out _) ?_
      rintro e w3 ⟨rfl, b⟩
      have HB3 : Hid (Below w0.heap.size w0 w3) := HB.out.trans (b.mono HB.out.size)
      have HN3 : Hid (OwnN w0.heap.size w3 (.slice (some ⟨g, 0, none⟩) k cap) gs) := HN.out.below b
      have hR := HBx2.out.below HB3.out
      have HR : Hid (Bx2 w3 (w.heap.size + 1) (.string ⟨#[]⟩) (.slice none 0 0) 24) := hR
      have s0 := hR.c0
      have s1 := hR.c1
      have f0 := hR.free 0
      have f1 := hR.free 1
      clear b HN HB hR z0
      go_wp2_with fail
      change bodyPost _ _ _ _ _ (put2 w3 (w.heap.size + 1) (.string y) (.slice (some ⟨g, 0, none⟩) k cap))
      have e6 := put2_box HR.out (.string y) (.slice (some ⟨g, 0, none⟩) k cap)
      have b6 := put2_below (HB0.out.trans (HB3.out.mono HB0.out.size)) (Nat.le_succ w.heap.size) (.string y) (.slice (some ⟨g, 0, none⟩) k cap)
      have n6 : OwnN w.heap.size (put2 w3 (w.heap.size + 1) (.string y) (.slice (some ⟨g, 0, none⟩) k cap)) (.slice (some ⟨g, 0, none⟩) k cap) gs :=
        OwnN.low (World.ownsRow.kept HN3.out (put2_grown _ _ _ _) (own_block HN3.out (by rw [HSz.out]; omega))) HB0.out.size
      generalize put2 w3 (w.heap.size + 1) (.string y) (.slice (some ⟨g, 0, none⟩) k cap) = W at *
      exact bodyPost_ret (v := .agg #[.string y, .slice (some ⟨g, 0, none⟩) k cap]) (by simp [results, Tryz.results49, go_sem, e6.c0, e6.c1]) rfl ⟨g, cap, by rw [HK.out, hy], by have := n6; rw [HK.out] at this; exact this, b6⟩
end Go.Proofs.YtmbpjbghhimedaaGreatDoor
