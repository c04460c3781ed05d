/- A list of texts that comes in: what it holds, how great it is, and that it reads behind a call as it read before. -/
import Derived.Test.YtkeganpaiaebfaaDoorRows
import Derived.Test.YtkeganpaiaebfaaDoorSlSumOf
import Derived.WalkKit
import Derived.ProofKit
import Derived.OpenShut
import Derived.ShutString
import Derived.SizedLaws
import Derived.Deep.Strs
namespace Go.Proofs.YtkeganpaiaebfaaDoor
open Go.ChangeShapes Go.WideShapes Go.ChangeAt Go.RowKit Go.Deep
set_option linter.unusedVariables false
set_option linter.unusedSimpArgs false
theorem ba_self (a : ByteArray) : Ba a.data.toList = a := by simp [Ba]
theorem bulk_strs {H : Type} (l : List Bs) : Rows.uptoBulkAll (l.map fun s => (DataW.lit (.string s) : DataW H)) = (l.map List.length).sum + l.length := by
  induction l with
  | nil => simp [Rows.uptoBulkAll]
  | cons x r ih =>
    simp only [List.map_cons, Rows.uptoBulkAll, Rows.uptoBulk, ih, List.sum_cons, List.length_cons]
    omega
theorem cellsStr : Tryd.prog.cellsOf 9 = 1 := by kernel_rfl
theorem strs_arg {H : Type} {enc : TypeId × Value → H} {W : World} {base : Nat} {v : Value} {d : DataW H} {p : List MemPlace} (hval : Value.okWide Tryd.prog W .any base 29 v) (h : DataW.Trod enc Tryd.prog W 0 (fun _ => true) true 29 v d p) :
    ∃ l : List Bs, Strs W v l ∧ (l.map List.length).sum + l.length ≤ Rows.uptoBulk d ∧ ∀ W', Below W.heap.size W W' → DataW.Trod enc Tryd.prog W' 0 (fun b => decide (b < W.heap.size)) true 29 v d p := by
  obtain ⟨a0, len, cap, rfl⟩ := okWide_slice Tryd.underlying29 hval
  obtain ⟨fuel, hf⟩ := h
  rcases open_strs Tryd.underlying29 Tryd.underlying9 cellsStr hf with ⟨hcs, hx⟩ | ⟨a, len', cap', m, Sx, hcs, _, hl, hm, hmm, hx, hcell⟩
  · simp [Value.cells] at hcs
    obtain ⟨rfl, rfl, rfl⟩ := hcs
    simp only [Prod.mk.injEq] at hx
    obtain ⟨rfl, rfl⟩ := hx
    exact ⟨[], Or.inl ⟨rfl, _, _, rfl⟩, by simp, fun W' _ => shut_slice_nil Tryd.underlying29⟩
  · simp [Value.cells] at hcs
    obtain ⟨rfl, rfl, rfl⟩ := hcs
    simp only [Prod.mk.injEq] at hx
    obtain ⟨rfl, rfl⟩ := hx
    simp only [if_true] at hmm
    have hmm' : cap = m := hmm.symm
    subst hmm'
    obtain ⟨b, off, spot⟩ := a
    by_cases hc0 : cap = 0
    · subst hc0
      have hlen0 : len = 0 := by omega
      subst hlen0
      refine ⟨[], Or.inl ⟨rfl, _, _, rfl⟩, by simp, fun W' _ => ?_⟩
      show ∃ n, DataW.trod enc Tryd.prog W' 0 (fun b => decide (b < W.heap.size)) true n 29 [Value.slice (some ⟨b, off, spot⟩) 0 0] = _
      cases hsp : (fun b => decide (b < W.heap.size)) b
      · simpa [MemPlace.row] using shut_slice_cells (enc := enc) (w := W') (base := 0) (spare := fun b => decide (b < W.heap.size)) (held := true) (a := ⟨b, off, spot⟩) (len := 0) (cap := 0) Tryd.underlying29 (Nat.zero_le _) (Nat.le_refl _) (Nat.zero_le _) hsp (fun _ => .nil) (fun _ => []) (fun i hi => absurd hi (Nat.not_lt_zero _))
      · simpa [MemPlace.row] using shut_slice_whole_cells (enc := enc) (w := W') (base := 0) (spare := fun b => decide (b < W.heap.size)) (held := true) (a := ⟨b, off, spot⟩) (len := 0) (cap := 0) Tryd.underlying29 (Nat.zero_le _) (Nat.le_refl _) (Nat.zero_le _) hsp (fun _ => .nil) (fun _ => []) (fun i hi => absurd hi (Nat.not_lt_zero _))
    · have hspot : spot = none := by simpa [Addr.add] using World.cell?_spot (hcell 0 (by omega)).1
      subst hspot
      have hcell' : ∀ j, j < cap → W.cell? ⟨b, off + j, none⟩ = some (.string (Sx j)) := fun j hj => by rw [← add_plain]; exact (hcell j hj).1
      have hb : b < W.heap.size := by
        rcases Nat.lt_or_ge b W.heap.size with h | h
        · exact h
        · have h0 := hcell' 0 (by omega)
          simp [World.cell?, Array.getElem?_eq_none h] at h0
      refine ⟨(List.range len).map fun i => (Sx i).data.toList, Or.inr ⟨b, off, cap, by simp, by simpa using hl, hm, hb, fun i s hs => ?_⟩, ?_, fun W' hbel => ?_⟩
      · rw [List.getElem?_map] at hs
        obtain ⟨k, hk, rfl⟩ := Option.map_eq_some_iff.1 hs
        obtain ⟨hk1, hk2⟩ := List.getElem?_eq_some_iff.1 hk
        have hki : i = k := by simpa using hk2
        subst hki
        have hk3 : i < len := by simpa using hk1
        rw [hcell' i (by omega), ba_self]
      · have e : ((List.range len).map fun i => (DataW.lit (.string (Sx i).data.toList) : DataW H)) = ((List.range len).map fun i => (Sx i).data.toList).map fun s => (DataW.lit (.string s) : DataW H) := by
          rw [List.map_map]
          rfl
        rw [Rows.uptoBulk, e, bulk_strs]
        omega
      · exact shut_strs_whole (enc := enc) (w := W') (base := 0) (spare := fun b => decide (b < W.heap.size)) (held := true) Tryd.underlying29 Tryd.underlying9 cellsStr (b := b) (off := off) (len := len) (cap := cap) (Nat.zero_le _) hl hm (decide_eq_true hb) Sx
          (fun i hi => by rw [hbel.cell (p := ⟨b, off + i, none⟩) hb]; exact hcell' i hi) (fun i hi => (hcell i hi).2)
end Go.Proofs.YtkeganpaiaebfaaDoor
