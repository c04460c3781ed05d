/- Contract over this translation of the reference's Find: a field of a value. -/
import Derived.Test.YtaogilpkeeigoaaGreatDoorRfBox
import Derived.Test.YtaogilpkeeigoaaGreatDoorRfPlain
import Derived.Handy
namespace Go.Proofs.YtaogilpkeeigoaaGreatDoor
open Go.RowKit
set_option linter.unusedVariables false
set_option linter.unusedSimpArgs false
/-- what is known of the answer of Find -/
def RFindPost (av : Nat → Prop) {n : Nat} (fs : List (Bs × J n)) (nm : Bs) (w : World) (e : Ending) (w' : World) : Prop :=
  Below w.heap.size w w' ∧ ((findF fs nm = none ∧ e = .returned (.tuple #[rfV ⟨0, false, 0, []⟩ (.slice none 0 0) (.slice none 0 0), .bool false])) ∨ ∃ x v, findF fs nm = some x ∧ e = .returned (.tuple #[v, .bool true]) ∧ RSt av w n x v)
theorem findF_hit {α : Type} {fs : List (Bs × α)} {nm : Bs} {k : Nat} {f : Bs × α} (h : fs[k]? = some f) (he : f.1 = nm) : findF (fs.drop k) nm = some f.2 := by
  have hk : k < fs.length := by
    rcases Nat.lt_or_ge k fs.length with h' | h'
    · exact h'
    · rw [List.getElem?_eq_none h'] at h; cases h
  rw [List.drop_eq_getElem_cons hk]
  rw [List.getElem?_eq_getElem hk] at h
  cases h
  unfold findF
  rw [List.find?_cons_of_pos (by simpa using he)]
  rfl
theorem findF_miss {α : Type} {fs : List (Bs × α)} {nm : Bs} {k : Nat} {f : Bs × α} (h : fs[k]? = some f) (he : f.1 ≠ nm) : findF (fs.drop k) nm = findF (fs.drop (k + 1)) nm := by
  have hk : k < fs.length := by
    rcases Nat.lt_or_ge k fs.length with h' | h'
    · exact h'
    · rw [List.getElem?_eq_none h'] at h; cases h
  rw [List.drop_eq_getElem_cons hk]
  rw [List.getElem?_eq_getElem hk] at h
  cases h
  unfold findF
  rw [List.find?_cons_of_neg (by simpa using he)]
set_option maxRecDepth 100000 in
set_option maxHeartbeats 4000000 in
theorem rffind_any (av : Nat → Prop) {n : Nat} (fs : List (Bs × J n)) (nm : ByteArray) (vn vl : Value) (w : World) (hN : RStrs av w (fs.map fun f => f.1) vn) (hL : RVals av w n (fs.map fun f => f.2) vl) :
    Calls Tryz.prog 55 #[rfV ⟨6, false, 0, []⟩ vn vl, .string nm] w (RFindPost av fs nm.data.toList w) := by
  obtain ⟨pn, cn, rfl, hn1, hn2, hn3⟩ := hN.form
  obtain ⟨pl, cl, rfl, hl1, hl2, hl3⟩ := hL.form
  have HN3 : Hid (∀ (i : Nat) (f : Bs × J n), fs[i]? = some f → ∃ g, pn = some ⟨g, 0, none⟩ ∧ g < w.heap.size ∧ w.cell? ⟨g, i, none⟩ = some (.string ⟨f.1.toArray⟩)) := fun i f h => hn3 i f.1 (by rw [List.getElem?_map, h]; rfl)
  have HL3 : Hid (∀ (i : Nat) (f : Bs × J n), fs[i]? = some f → ∃ g nm' l', pl = some ⟨g, 0, none⟩ ∧ g < w.heap.size ∧ Six w g (i * 6) (headJ n f.2) nm' l' ∧ RSt av w n f.2 (rfV (headJ n f.2) nm' l')) := fun i f h => hl3 i f.2 (by rw [List.getElem?_map, h]; rfl)
  unfold rfV
  unfold maxLen at hn2 hl2
  rw [List.length_map] at hn1 hl1
  rw [List.length_map, List.length_map]
  obtain ⟨B, hB⟩ : ∃ B, B = w.heap.size := ⟨_, rfl⟩
  obtain ⟨w0, hw0⟩ : ∃ w0, w0 = (w.alloc (.cells #[.int .i64 6, .bool false, .int .i64 0, .string ⟨#[]⟩, .slice pn fs.length cn, .slice pl fs.length cl] 25)).alloc (.cells #[.int .i64 0, .bool false, .int .i64 0, .string ⟨#[]⟩, .slice none 0 0, .slice none 0 0] 25) := ⟨_, rfl⟩
  have HB0 : Hid (Below w.heap.size w w0) := by
    show Below _ _ _
    rw [hw0]
    exact ((Below.refl _ _).alloc (Nat.le_refl _) _).alloc (by simp) _
  have HV0 : Hid (Box w0 B ⟨6, false, 0, []⟩ (.slice pn fs.length cn) (.slice pl fs.length cl)) := by
    show Box _ _ _ _ _
    rw [hw0, hB]
    exact (box_new w ⟨6, false, 0, []⟩ _ _).below ((Below.refl _ _).alloc (Nat.le_refl _) _)
  have HR0 : Hid (Box w0 (B + 1) ⟨0, false, 0, []⟩ (.slice none 0 0) (.slice none 0 0)) := by
    show Box _ _ _ _ _
    have := box_new (w.alloc (.cells #[.int .i64 6, .bool false, .int .i64 0, .string ⟨#[]⟩, .slice pn fs.length cn, .slice pl fs.length cl] 25)) ⟨0, false, 0, []⟩ (.slice none 0 0) (.slice none 0 0)
    rw [hw0, hB]
    simpa using this
  have HW0 : Hid (w0 = (w.alloc (.cells #[.int .i64 6, .bool false, .int .i64 0, .string ⟨#[]⟩, .slice pn fs.length cn, .slice pl fs.length cl] 25)).alloc (.cells #[.int .i64 0, .bool false, .int .i64 0, .string ⟨#[]⟩, .slice none 0 0, .slice none 0 0] 25)) := hw0
  have HBe : Hid (B = w.heap.size) := hB
  clear hw0 hB hN hL hn3 hl3
  go_enter Tryz.func55, Tryz.ntmps55
  go_wp2
  rw [← HBe.out, ← HW0.out]
  go_loopw [11] (fun i wr => ∃ k : Nat, k ≤ fs.length ∧ i = .int .i64 k ∧ findF fs nm.data.toList = findF (fs.drop k) nm.data.toList ∧ Below w.heap.size w wr ∧ Box wr B ⟨6, false, 0, []⟩ (.slice pn fs.length cn) (.slice pl fs.length cl) ∧ Box wr (B + 1) ⟨0, false, 0, []⟩ (.slice none 0 0) (.slice none 0 0)) (fun i _ => fs.length - (intOf i).toNat)
  case atStart => exact ⟨0, Nat.zero_le _, rfl, by rw [List.drop_zero], HB0.out, HV0.out, HR0.out⟩
  case round =>
    obtain ⟨k, hk, rfl, hf, hB, hV, hR⟩ := hrel
    have HF : Hid (findF fs nm.data.toList = findF (fs.drop k) nm.data.toList) := hf
    have HB : Hid (Below w.heap.size w wr) := hB
    have HV : Hid (Box wr B ⟨6, false, 0, []⟩ (.slice pn fs.length cn) (.slice pl fs.length cl)) := hV
    have HR : Hid (Box wr (B + 1) ⟨0, false, 0, []⟩ (.slice none 0 0) (.slice none 0 0)) := hR
    have v0 := hV.c0
    have v5 := hV.c5
    have f0 := hR.free 0
    have f1 := hR.free 1
    have f2 := hR.free 2
    have f3 := hR.free 3
    have f4 := hR.free 4
    have f5 := hR.free 5
    have r0 := hR.c0
    have r1 := hR.c1
    have r2 := hR.c2
    have r3 := hR.c3
    have r4 := hR.c4
    have r5 := hR.c5
    clear hf hB hV hR
    by_cases hlt : k < fs.length
    · obtain ⟨f, hfk⟩ : ∃ f, fs[k]? = some f := ⟨fs[k], List.getElem?_eq_getElem hlt⟩
      obtain ⟨g, rfl, hg, hgc⟩ := HN3.out k f hfk
      have n1 : wr.cell? ⟨g, k, none⟩ = some (.string ⟨f.1.toArray⟩) := (HB.out.cell (p := ⟨g, k, none⟩) hg).trans hgc
      have HK : Hid (fs[k]? = some f) := hfk
      clear hgc hfk
      have hbe : ((⟨f.1.toArray⟩ : ByteArray).toList == nm.toList) = decide (f.1 = nm.data.toList) := by
        rw [ByteArray.toList_eq, ByteArray.toList_eq, Bool.eq_iff_iff, beq_iff_eq, decide_eq_true_iff]
      by_cases he : f.1 = nm.data.toList
      · have hq : ((⟨f.1.toArray⟩ : ByteArray).toList == nm.toList) = true := by rw [hbe]; exact decide_eq_true he
        have HE : Hid (findF fs nm.data.toList = some f.2) := HF.out.trans (findF_hit HK.out he)
        obtain ⟨g', nm', l', rfl, hg', h6, hst⟩ := HL3.out k f HK.out
        obtain ⟨⟨p1, k1, c1, rfl⟩, p2, k2, c2, rfl⟩ := rst_sl hst
        have h6' := h6.keep (HB.out.block g' hg')
        obtain ⟨x0, x1, x2, x3, x4, x5⟩ := h6'
        have HS : Hid (RSt av w n f.2 (rfV (headJ n f.2) (.slice p1 k1 c1) (.slice p2 k2 c2))) := hst
        clear hbe he hst h6
        generalize (⟨f.1.toArray⟩ : ByteArray) = fb at *
        go_wp2_with fail
        have e6 := put6_box HR.out (headJ n f.2) (.slice p1 k1 c1) (.slice p2 k2 c2)
        have b6 := put6_below HB.out (g := B + 1) (by rw [HBe.out]; omega) HB.out.size (.int .i64 (headJ n f.2).k) (.bool (headJ n f.2).b) (.int .i64 (headJ n f.2).i) (.string ⟨(headJ n f.2).s.toArray⟩) (.slice p1 k1 c1) (.slice p2 k2 c2)
        change bodyPost _ _ _ _ _ (put6 wr (B + 1) _ _ _ _ _ _)
        generalize put6 wr (B + 1) (.int .i64 (headJ n f.2).k) (.bool (headJ n f.2).b) (.int .i64 (headJ n f.2).i) (.string ⟨(headJ n f.2).s.toArray⟩) (.slice p1 k1 c1) (.slice p2 k2 c2) = W at *
        exact bodyPost_ret (v := .tuple #[rfV (headJ n f.2) (.slice p1 k1 c1) (.slice p2 k2 c2), .bool true]) (by simp [results, Tryz.results55, go_sem, rfV, e6.c0, e6.c1, e6.c2, e6.c3, e6.c4, e6.c5]) rfl ⟨b6, Or.inr ⟨_, _, HE.out, rfl, HS.out⟩⟩
      · have hq : ((⟨f.1.toArray⟩ : ByteArray).toList == nm.toList) = false := by rw [hbe]; exact decide_eq_false he
        have HE : Hid (findF fs nm.data.toList = findF (fs.drop (k + 1)) nm.data.toList) := HF.out.trans (findF_miss HK.out he)
        clear hbe he
        generalize (⟨f.1.toArray⟩ : ByteArray) = fb at *
        go_wp2_with fail
        go_roundw
        case rel => exact ⟨k + 1, by omega, by go_num, HE.out, HB.out, HV.out, HR.out⟩
        case measure => simp [intOf]; omega
    · have HE : Hid (findF fs nm.data.toList = none) := by
        show _ = _
        rw [HF.out, List.drop_eq_nil_of_le (by omega)]
        rfl
      go_wp2_with fail
      have e6 := put6_box HR.out ⟨0, false, 0, []⟩ (.slice none 0 0) (.slice none 0 0)
      have b6 := put6_below HB.out (g := B + 1) (by rw [HBe.out]; omega) HB.out.size (.int .i64 0) (.bool false) (.int .i64 0) (.string ⟨#[]⟩) (.slice none 0 0) (.slice none 0 0)
      change bodyPost _ _ _ _ _ (put6 wr (B + 1) _ _ _ _ _ _)
      generalize put6 wr (B + 1) (.int .i64 0) (.bool false) (.int .i64 0) (.string ⟨#[]⟩) (.slice none 0 0) (.slice none 0 0) = W at *
      exact bodyPost_ret (v := .tuple #[rfV ⟨0, false, 0, []⟩ (.slice none 0 0) (.slice none 0 0), .bool false]) (by simp [results, Tryz.results55, go_sem, rfV, e6.c0, e6.c1, e6.c2, e6.c3, e6.c4, e6.c5]) rfl ⟨b6, Or.inl ⟨HE.out, rfl⟩⟩
end Go.Proofs.YtaogilpkeeigoaaGreatDoor
