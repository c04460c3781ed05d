/- Contracts over this translation of the reference's reader: words. -/
import Derived.Test.YtaogilpkeeigoaaGreatDoorRfSkip
import Derived.Test.YtaogilpkeeigoaaGreatDoorRdWord
import Derived.Test.YtaogilpkeeigoaaGreatDoorListPlain
namespace Go.Proofs.YtaogilpkeeigoaaGreatDoor
open Go.RowKit
set_option linter.unusedVariables false
set_option linter.unusedSimpArgs false
/-- the reference's value of a leaf -/
def rfLeaf (kk : Nat) (bb : Bool) (n : Int) (s : ByteArray) : Value := .agg #[.int .i64 kk, .bool bb, .int .i64 n, .string s, .slice none 0 0, .slice none 0 0]
theorem Rf.other {b c o p k : Nat} {t : ByteArray} {w : World} (h : Rf b t p k w) (hc : b ≠ c) (v : Value) : Rf b t p k (w.setCell ⟨c, o, none⟩ v) :=
  h.kept (grownBy_setCell w c o v) (fun e => hc (Option.some.inj e))
set_option maxRecDepth 100000 in
set_option maxHeartbeats 2000000 in
theorem rfword_yes (b : Nat) (t u : ByteArray) (p k kk : Nat) (bb : Bool) (w : World) (h : Rf b t p k w) (hp : p ≤ t.size) (ht : t.size ≤ 2000) (hu : u.size ≤ 2000) (hw : u.data.toList.isPrefixOf (rest t p) = true) :
    Calls Tryz.prog 39 #[.pointer (some ⟨b, 0, none⟩), .string u, rfLeaf kk bb 0 ⟨#[]⟩] w fun e w' => e = .returned (.tuple #[rfLeaf kk bb 0 ⟨#[]⟩, .int .i64 0]) ∧ G b w w' ∧ Rf b t (p + u.size) k w' := by
  unfold rfLeaf
  obtain ⟨w0, hw0⟩ : ∃ w0, w0 = (w.alloc (.cells #[.int .i64 kk, .bool bb, .int .i64 0, .string ⟨#[]⟩, .slice none 0 0, .slice none 0 0] 25)).alloc (.cells #[.int .i64 0, .bool false, .int .i64 0, .string ⟨#[]⟩, .slice none 0 0, .slice none 0 0] 25) := ⟨_, rfl⟩
  have h2 : Rf b t p k w0 := by rw [hw0]; exact (h.alloc _).alloc _
  have h0 := h2.text
  have h1 := h2.place
  have HR : Hid (Rf b t p k w0) := h2
  have HW : Hid (u.data.toList.isPrefixOf (t.extract p t.size).data.toList = true) := by rw [extract_rest]; exact hw
  have hsz : (t.extract p t.size).size ≤ 1000000 := by simp; omega
  have HZ : Hid ((t.extract p t.size).size ≤ 1000000) := hsz
  have hI : (p : Int) ≤ (t.size : Int) := by omega
  have hw2 : u.data.toList.isPrefixOf (List.take (t.size - p) (List.drop p t.data.toList)) = true := by
    have e : List.take (t.size - p) (List.drop p t.data.toList) = rest t p := List.take_of_length_le (by simp)
    rw [e]; exact hw
  have HG0 : Hid (G b w w0) := by
    show G b w w0
    rw [hw0]
    exact ((G.refl b w).alloc _).alloc _
  have HV : Hid (w0.heap[w.heap.size]? = some (.cells #[.int .i64 kk, .bool bb, .int .i64 0, .string ⟨#[]⟩, .slice none 0 0, .slice none 0 0] 25 (0, 0))) := by
    show w0.heap[w.heap.size]? = _
    rw [hw0, Below.heap_alloc _ _ _ (by simp)]
    exact heap_alloc_new w _
  have HZr : Hid (w0.heap[w.heap.size + 1]? = some (.cells #[.int .i64 0, .bool false, .int .i64 0, .string ⟨#[]⟩, .slice none 0 0, .slice none 0 0] 25 (0, 0))) := by
    have h0 := heap_alloc_new (w.alloc (.cells #[.int .i64 kk, .bool bb, .int .i64 0, .string ⟨#[]⟩, .slice none 0 0, .slice none 0 0] 25)) (.cells #[.int .i64 0, .bool false, .int .i64 0, .string ⟨#[]⟩, .slice none 0 0, .slice none 0 0] 25)
    have e0 : (w.alloc (.cells #[.int .i64 kk, .bool bb, .int .i64 0, .string ⟨#[]⟩, .slice none 0 0, .slice none 0 0] 25)).heap.size = w.heap.size + 1 := by simp
    rw [e0, ← hw0] at h0
    exact h0
  have HW0 : Hid (w0 = (w.alloc (.cells #[.int .i64 kk, .bool bb, .int .i64 0, .string ⟨#[]⟩, .slice none 0 0, .slice none 0 0] 25)).alloc (.cells #[.int .i64 0, .bool false, .int .i64 0, .string ⟨#[]⟩, .slice none 0 0, .slice none 0 0] 25)) := hw0
  have hbw := h.lt
  clear h hw hsz h2 hw0
  go_enter Tryz.func39, Tryz.ntmps39
  go_wp2
  rw [← HW0.out]
  go_quiet (first | (go_at_call 17; exact Calls.quiet_of_same (hasPrefix_any _ _ _ (by exact HZ.out) (by omega))))
  rw [HW.out]
  have HR1 : Hid (Rf b t p k (w0.drewN nq)) := HR.out.drewN nq
  have HG1 : Hid (G b w (w0.drewN nq)) := HG0.out.drewN nq
  have HV1 : Hid ((w0.drewN nq).heap[w.heap.size]? = some (.cells #[.int .i64 kk, .bool bb, .int .i64 0, .string ⟨#[]⟩, .slice none 0 0, .slice none 0 0] 25 (0, 0))) := HV.out
  have HZ1 : Hid ((w0.drewN nq).heap[w.heap.size + 1]? = some (.cells #[.int .i64 0, .bool false, .int .i64 0, .string ⟨#[]⟩, .slice none 0 0, .slice none 0 0] 25 (0, 0))) := HZr.out
  have c1 := HR1.out.place
  have c2 := HR1.out.free 1
  have z0 : (w0.drewN nq).cell? ⟨w.heap.size, 0, none⟩ = some (.int .i64 kk) := by rw [cell_of_row _ _ _ _ _ _ HV1.out]; rfl
  have r0 : (w0.drewN nq).cell? ⟨w.heap.size + 1, 0, none⟩ = some (.int .i64 0) := by rw [cell_of_row _ _ _ _ _ _ HZ1.out]; rfl
  have f0 : (w0.drewN nq).frozen? ⟨w.heap.size + 1, 0, none⟩ = false := frozen_of_row _ _ _ _ _ HZ1.out
  have z1 : (w0.drewN nq).cell? ⟨w.heap.size, 1, none⟩ = some (.bool bb) := by rw [cell_of_row _ _ _ _ _ _ HV1.out]; rfl
  have r1 : (w0.drewN nq).cell? ⟨w.heap.size + 1, 1, none⟩ = some (.bool false) := by rw [cell_of_row _ _ _ _ _ _ HZ1.out]; rfl
  have f1 : (w0.drewN nq).frozen? ⟨w.heap.size + 1, 1, none⟩ = false := frozen_of_row _ _ _ _ _ HZ1.out
  have z2 : (w0.drewN nq).cell? ⟨w.heap.size, 2, none⟩ = some (.int .i64 0) := by rw [cell_of_row _ _ _ _ _ _ HV1.out]; rfl
  have r2 : (w0.drewN nq).cell? ⟨w.heap.size + 1, 2, none⟩ = some (.int .i64 0) := by rw [cell_of_row _ _ _ _ _ _ HZ1.out]; rfl
  have f2 : (w0.drewN nq).frozen? ⟨w.heap.size + 1, 2, none⟩ = false := frozen_of_row _ _ _ _ _ HZ1.out
  have z3 : (w0.drewN nq).cell? ⟨w.heap.size, 3, none⟩ = some (.string ⟨#[]⟩) := by rw [cell_of_row _ _ _ _ _ _ HV1.out]; rfl
  have r3 : (w0.drewN nq).cell? ⟨w.heap.size + 1, 3, none⟩ = some (.string ⟨#[]⟩) := by rw [cell_of_row _ _ _ _ _ _ HZ1.out]; rfl
  have f3 : (w0.drewN nq).frozen? ⟨w.heap.size + 1, 3, none⟩ = false := frozen_of_row _ _ _ _ _ HZ1.out
  have z4 : (w0.drewN nq).cell? ⟨w.heap.size, 4, none⟩ = some (.slice none 0 0) := by rw [cell_of_row _ _ _ _ _ _ HV1.out]; rfl
  have r4 : (w0.drewN nq).cell? ⟨w.heap.size + 1, 4, none⟩ = some (.slice none 0 0) := by rw [cell_of_row _ _ _ _ _ _ HZ1.out]; rfl
  have f4 : (w0.drewN nq).frozen? ⟨w.heap.size + 1, 4, none⟩ = false := frozen_of_row _ _ _ _ _ HZ1.out
  have z5 : (w0.drewN nq).cell? ⟨w.heap.size, 5, none⟩ = some (.slice none 0 0) := by rw [cell_of_row _ _ _ _ _ _ HV1.out]; rfl
  have r5 : (w0.drewN nq).cell? ⟨w.heap.size + 1, 5, none⟩ = some (.slice none 0 0) := by rw [cell_of_row _ _ _ _ _ _ HZ1.out]; rfl
  have f5 : (w0.drewN nq).frozen? ⟨w.heap.size + 1, 5, none⟩ = false := frozen_of_row _ _ _ _ _ HZ1.out
  have hne : b ≠ w.heap.size := by omega
  have hne1 : b ≠ w.heap.size + 1 := by omega
  have hne2 : w.heap.size + 1 ≠ b := by omega
  have hne3 : w.heap.size ≠ b := by omega
  clear h0 h1
  generalize w0.drewN nq = w1 at *
  go_wp2_with fail
  exact bodyPost_ret (v := .tuple #[.agg #[.int .i64 kk, .bool bb, .int .i64 0, .string ⟨#[]⟩, .slice none 0 0, .slice none 0 0], .int .i64 0]) (by simp [results, Tryz.results39, go_sem, r0, r1, r2, r3, r4, r5, hne1, hne2]) rfl ⟨rfl, ((((((HG1.out.setCell 1 _).setNew (Nat.le_succ _) _).setNew (Nat.le_succ _) _).setNew (Nat.le_succ _) _).setNew (Nat.le_succ _) _).setNew (Nat.le_succ _) _).setNew (Nat.le_succ _) _, ((((((HR1.out.move (p + u.size)).other hne1 _).other hne1 _).other hne1 _).other hne1 _).other hne1 _).other hne1 _⟩
set_option maxRecDepth 100000 in
set_option maxHeartbeats 2000000 in
theorem rfword_no (b : Nat) (t u : ByteArray) (p k kk : Nat) (bb : Bool) (w : World) (h : Rf b t p k w) (hp : p ≤ t.size) (ht : t.size ≤ 2000) (hu : u.size ≤ 2000) (hw : u.data.toList.isPrefixOf (rest t p) = false) :
    Calls Tryz.prog 39 #[.pointer (some ⟨b, 0, none⟩), .string u, rfLeaf kk bb 0 ⟨#[]⟩] w fun e w' => e = .returned (.tuple #[rfLeaf 0 false 0 ⟨#[]⟩, .int .i64 3]) ∧ G b w w' := by
  unfold rfLeaf
  obtain ⟨w0, hw0⟩ : ∃ w0, w0 = (w.alloc (.cells #[.int .i64 kk, .bool bb, .int .i64 0, .string ⟨#[]⟩, .slice none 0 0, .slice none 0 0] 25)).alloc (.cells #[.int .i64 0, .bool false, .int .i64 0, .string ⟨#[]⟩, .slice none 0 0, .slice none 0 0] 25) := ⟨_, rfl⟩
  have h2 : Rf b t p k w0 := by rw [hw0]; exact (h.alloc _).alloc _
  have h0 := h2.text
  have h1 := h2.place
  have HR : Hid (Rf b t p k w0) := h2
  have HW : Hid (u.data.toList.isPrefixOf (t.extract p t.size).data.toList = false) := by
    show u.data.toList.isPrefixOf (t.extract p t.size).data.toList = false
    rw [extract_rest]; exact hw
  have hsz : (t.extract p t.size).size ≤ 1000000 := by simp; omega
  have HZ : Hid ((t.extract p t.size).size ≤ 1000000) := hsz
  have hI : (p : Int) ≤ (t.size : Int) := by omega
  have hw2 : u.data.toList.isPrefixOf (List.take (t.size - p) (List.drop p t.data.toList)) = false := by
    have e : List.take (t.size - p) (List.drop p t.data.toList) = rest t p := List.take_of_length_le (by simp)
    rw [e]; exact hw
  have HG0 : Hid (G b w w0) := by
    show G b w w0
    rw [hw0]
    exact ((G.refl b w).alloc _).alloc _
  have HV : Hid (w0.heap[w.heap.size]? = some (.cells #[.int .i64 kk, .bool bb, .int .i64 0, .string ⟨#[]⟩, .slice none 0 0, .slice none 0 0] 25 (0, 0))) := by
    show w0.heap[w.heap.size]? = _
    rw [hw0, Below.heap_alloc _ _ _ (by simp)]
    exact heap_alloc_new w _
  have HZr : Hid (w0.heap[w.heap.size + 1]? = some (.cells #[.int .i64 0, .bool false, .int .i64 0, .string ⟨#[]⟩, .slice none 0 0, .slice none 0 0] 25 (0, 0))) := by
    have h0 := heap_alloc_new (w.alloc (.cells #[.int .i64 kk, .bool bb, .int .i64 0, .string ⟨#[]⟩, .slice none 0 0, .slice none 0 0] 25)) (.cells #[.int .i64 0, .bool false, .int .i64 0, .string ⟨#[]⟩, .slice none 0 0, .slice none 0 0] 25)
    have e0 : (w.alloc (.cells #[.int .i64 kk, .bool bb, .int .i64 0, .string ⟨#[]⟩, .slice none 0 0, .slice none 0 0] 25)).heap.size = w.heap.size + 1 := by simp
    rw [e0, ← hw0] at h0
    exact h0
  have HW0 : Hid (w0 = (w.alloc (.cells #[.int .i64 kk, .bool bb, .int .i64 0, .string ⟨#[]⟩, .slice none 0 0, .slice none 0 0] 25)).alloc (.cells #[.int .i64 0, .bool false, .int .i64 0, .string ⟨#[]⟩, .slice none 0 0, .slice none 0 0] 25)) := hw0
  have hbw := h.lt
  clear h hw hsz h2 hw0
  go_enter Tryz.func39, Tryz.ntmps39
  go_wp2
  rw [← HW0.out]
  go_quiet (first | (go_at_call 17; exact Calls.quiet_of_same (hasPrefix_any _ _ _ (by exact HZ.out) (by omega))))
  rw [HW.out]
  have HR1 : Hid (Rf b t p k (w0.drewN nq)) := HR.out.drewN nq
  have HG1 : Hid (G b w (w0.drewN nq)) := HG0.out.drewN nq
  have HV1 : Hid ((w0.drewN nq).heap[w.heap.size]? = some (.cells #[.int .i64 kk, .bool bb, .int .i64 0, .string ⟨#[]⟩, .slice none 0 0, .slice none 0 0] 25 (0, 0))) := HV.out
  have HZ1 : Hid ((w0.drewN nq).heap[w.heap.size + 1]? = some (.cells #[.int .i64 0, .bool false, .int .i64 0, .string ⟨#[]⟩, .slice none 0 0, .slice none 0 0] 25 (0, 0))) := HZr.out
  have c1 := HR1.out.place
  have c2 := HR1.out.free 1
  have z0 : (w0.drewN nq).cell? ⟨w.heap.size, 0, none⟩ = some (.int .i64 kk) := by rw [cell_of_row _ _ _ _ _ _ HV1.out]; rfl
  have r0 : (w0.drewN nq).cell? ⟨w.heap.size + 1, 0, none⟩ = some (.int .i64 0) := by rw [cell_of_row _ _ _ _ _ _ HZ1.out]; rfl
  have f0 : (w0.drewN nq).frozen? ⟨w.heap.size + 1, 0, none⟩ = false := frozen_of_row _ _ _ _ _ HZ1.out
  have z1 : (w0.drewN nq).cell? ⟨w.heap.size, 1, none⟩ = some (.bool bb) := by rw [cell_of_row _ _ _ _ _ _ HV1.out]; rfl
  have r1 : (w0.drewN nq).cell? ⟨w.heap.size + 1, 1, none⟩ = some (.bool false) := by rw [cell_of_row _ _ _ _ _ _ HZ1.out]; rfl
  have f1 : (w0.drewN nq).frozen? ⟨w.heap.size + 1, 1, none⟩ = false := frozen_of_row _ _ _ _ _ HZ1.out
  have z2 : (w0.drewN nq).cell? ⟨w.heap.size, 2, none⟩ = some (.int .i64 0) := by rw [cell_of_row _ _ _ _ _ _ HV1.out]; rfl
  have r2 : (w0.drewN nq).cell? ⟨w.heap.size + 1, 2, none⟩ = some (.int .i64 0) := by rw [cell_of_row _ _ _ _ _ _ HZ1.out]; rfl
  have f2 : (w0.drewN nq).frozen? ⟨w.heap.size + 1, 2, none⟩ = false := frozen_of_row _ _ _ _ _ HZ1.out
  have z3 : (w0.drewN nq).cell? ⟨w.heap.size, 3, none⟩ = some (.string ⟨#[]⟩) := by rw [cell_of_row _ _ _ _ _ _ HV1.out]; rfl
  have r3 : (w0.drewN nq).cell? ⟨w.heap.size + 1, 3, none⟩ = some (.string ⟨#[]⟩) := by rw [cell_of_row _ _ _ _ _ _ HZ1.out]; rfl
  have f3 : (w0.drewN nq).frozen? ⟨w.heap.size + 1, 3, none⟩ = false := frozen_of_row _ _ _ _ _ HZ1.out
  have z4 : (w0.drewN nq).cell? ⟨w.heap.size, 4, none⟩ = some (.slice none 0 0) := by rw [cell_of_row _ _ _ _ _ _ HV1.out]; rfl
  have r4 : (w0.drewN nq).cell? ⟨w.heap.size + 1, 4, none⟩ = some (.slice none 0 0) := by rw [cell_of_row _ _ _ _ _ _ HZ1.out]; rfl
  have f4 : (w0.drewN nq).frozen? ⟨w.heap.size + 1, 4, none⟩ = false := frozen_of_row _ _ _ _ _ HZ1.out
  have z5 : (w0.drewN nq).cell? ⟨w.heap.size, 5, none⟩ = some (.slice none 0 0) := by rw [cell_of_row _ _ _ _ _ _ HV1.out]; rfl
  have r5 : (w0.drewN nq).cell? ⟨w.heap.size + 1, 5, none⟩ = some (.slice none 0 0) := by rw [cell_of_row _ _ _ _ _ _ HZ1.out]; rfl
  have f5 : (w0.drewN nq).frozen? ⟨w.heap.size + 1, 5, none⟩ = false := frozen_of_row _ _ _ _ _ HZ1.out
  have hne : b ≠ w.heap.size := by omega
  have hne1 : b ≠ w.heap.size + 1 := by omega
  have hne2 : w.heap.size + 1 ≠ b := by omega
  have hne3 : w.heap.size ≠ b := by omega
  clear h0 h1
  generalize w0.drewN nq = w1 at *
  go_wp2_with fail
  exact bodyPost_ret (v := .tuple #[.agg #[.int .i64 (0 : Nat), .bool false, .int .i64 0, .string ⟨#[]⟩, .slice none 0 0, .slice none 0 0], .int .i64 3]) (by simp [results, Tryz.results39, go_sem, r0, r1, r2, r3, r4, r5, hne1, hne2]) rfl ⟨rfl, ((((((HG1.out).setNew (Nat.le_succ _) _).setNew (Nat.le_succ _) _).setNew (Nat.le_succ _) _).setNew (Nat.le_succ _) _).setNew (Nat.le_succ _) _).setNew (Nat.le_succ _) _⟩
end Go.Proofs.YtaogilpkeeigoaaGreatDoor
