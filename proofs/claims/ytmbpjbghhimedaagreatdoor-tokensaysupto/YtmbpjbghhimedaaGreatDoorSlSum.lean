/- Contracts over this translation: what New, Sum of a Hash and Sum of a text answer. -/
import Derived.Test.YtmbpjbghhimedaaGreatDoorSlWrite
namespace Go.Proofs.YtmbpjbghhimedaaGreatDoor
open Go.RowKit
set_option linter.unusedVariables false
set_option linter.unusedSimpArgs false
def first8 : List Nat := [1779033703, 3144134277, 1013904242, 2773480762, 1359893119, 2600822924, 528734635, 1541459225]
/-- a Hash that has nothing -/
def newP : HS := (first8, List.replicate 64 0, 0)
theorem first8_st : St8 first8 := ⟨rfl, by decide⟩
theorem newP_ok : HOk newP := ⟨first8_st, by simp [newP], by decide⟩
set_option maxRecDepth 100000 in
set_option maxHeartbeats 4000000 in
theorem first_any (w : World) : Calls Tryz.prog 114 #[] w fun e w' => e = .returned (.agg (Vw first8).toArray) ∧ Below w.heap.size w w' := by
  go_enter Tryz.func114, Tryz.ntmps114
  go_wp2_with fail
  refine bodyPost_ret (v := .agg (Vw first8).toArray) ?_ rfl ⟨rfl, (Below.refl _ _).alloc (Nat.le_refl _) _⟩
  exact results_cell_row rfl _ _ _ _ _ _ _ rfl (heap_alloc_new w _) Tryz.underlying127 rfl (by kernel_rfl)
set_option maxRecDepth 100000 in
theorem new_cells : List.foldl (fun cs (x : Value × Nat) => cs.setIfInBounds x.snd x.fst) Tryz.zeroCells130 (Vw first8).zipIdx = hashC newP := by kernel_rfl
set_option maxRecDepth 100000 in
theorem zero_size : Tryz.zeroCells130.size = 73 := by kernel_rfl
set_option maxRecDepth 100000 in
set_option maxHeartbeats 4000000 in
theorem new_any (w : World) : Calls Tryz.prog 88 #[] w fun e w' => ∃ b, w.heap.size ≤ b ∧ e = .returned (.pointer (some ⟨b, 0, none⟩)) ∧ HashAt b newP w' ∧ Below w.heap.size w w' := by
  have HF : Hid (Calls Tryz.prog 114 #[] w fun e w' => e = .returned (.agg (Vw first8).toArray) ∧ Below w.heap.size w w') := first_any w
  go_enter Tryz.func88, Tryz.ntmps88
  go_wp2_with fail
  refine Calls.mono HF.out ?_
  rintro e w1 ⟨rfl, b1⟩
  have HB1 : Hid (Below w.heap.size w w1) := b1
  clear b1
  go_wp2_with fail
  rw [new_cells]
  go_ret
  refine ⟨w1.heap.size, HB1.out.size, rfl, heap_alloc_new w1 _, HB1.out.alloc HB1.out.size _⟩
/-- the Sum of a Hash -/
def sumH (h : HS) : Bs := bytesP (feedP h (endP h.2.2)).1
theorem endP_len (m : Nat) : (endP m).length ≤ 80 := by
  unfold endP
  simp only [List.length_append, List.length_cons, List.length_nil, List.length_replicate]
  have : (eightP (m * 8 % 18446744073709551616)).length = 8 := by simp [eightP]
  rw [this]
  have : noughts m < 64 := Nat.mod_lt _ (by decide)
  omega
set_option maxRecDepth 100000 in
set_option maxHeartbeats 8000000 in
theorem hsum_any (b : Nat) (h : HS) (w : World) (hh : HOk h) (hat : HashAt b h w) (hc : Cub w) :
    Calls Tryz.prog 90 #[.pointer (some ⟨b, 0, none⟩)] w fun e w' => e = .returned (.string (Ba (sumH h))) ∧ Below w.heap.size w w' := by
  have cm := hat.many hh
  have hbl : b < w.heap.size := lt_of_block hat
  have hsz : Hid ((Tryz.prog.info? 130).map (·.size) = some (hashC h).size) := by
    rw [hashC_size hh]
    show _ = _
    kernel_rfl
  have hone : Hid ((hashC h).all (·.oneCell') = true) := by
    show _ = _
    simp [hashC, Vw, Lib.byteCells, Value.oneCell']
  have hol : Hid (Tryz.zeroCells130.size = (hashC h).size) := by
    rw [hashC_size hh]
    exact zero_size
  have HN0 : Hid ((w.alloc (.cells Tryz.zeroCells130 130)).heap[w.heap.size]? = some (.cells Tryz.zeroCells130 130 (0, 0))) := heap_alloc_new w _
  have HAt : Hid (w.heap[b]? = some (.cells (hashC h) 130 (0, 0))) := hat
  obtain ⟨w2, hw2⟩ : ∃ w2, w2 = (w.alloc (.cells Tryz.zeroCells130 130)).setRow w.heap.size (hashC h) := ⟨_, rfl⟩
  have HW2 : Hid ((w.alloc (.cells Tryz.zeroCells130 130)).setRow w.heap.size (hashC h) = w2) := hw2.symm
  have hw2b : w2 = w.alloc (.cells (hashC h) 130) := by rw [hw2]; exact World.setRow_alloc_new w _ _ _
  have HB2 : Hid (Below w.heap.size w w2) := by rw [hw2b]; exact (Below.refl _ _).alloc (Nat.le_refl _) _
  have HE2 : Hid (HashAt w.heap.size h w2) := by rw [hw2b]; exact heap_alloc_new w _
  have cm2 : w2.cell? ⟨b, 72, none⟩ = some (.int .u64 (h.2.2 : Nat)) := by rw [HB2.out.cell (p := ⟨b, 72, none⟩) hbl]; exact cm
  have hc2 : Cub w2 := hc.below HB2.out
  have hlt2 : w.heap.size < w2.heap.size := lt_of_block HE2.out
  have HEnd : Hid (∀ w, Calls Tryz.prog 116 #[.int .u64 (h.2.2 : Nat)] w fun e w' => e = .returned (.string (Ba (endP h.2.2))) ∧ Below w.heap.size w w') := fun w => ending_any h.2.2 w hh.2.2
  have HSum : Hid (sumH h = bytesP (feedP h (endP h.2.2)).1) := rfl
  have HLen := endP_len h.2.2
  have hok2 := feedP_ok (endP h.2.2) hh
  have hne : w.heap.size ≠ 6 := by have := hc.1; omega
  have HCub : Hid (Cub w2) := hc2
  clear hw2 hw2b hc2 hc
  go_enter Tryz.func90, Tryz.ntmps90
  go_wp2_with (first | refine wpList_load_row rfl 130 _ rfl _ rfl 130 _ _ _ HAt.out Tryz.underlying130 rfl hsz.out ?_ | (refine wpList_store_row rfl 130 _ _ rfl _ _ rfl rfl _ _ HN0.out hsz.out hol.out hone.out ?_; rw [HW2.out]))
  refine Calls.mono (HEnd.out _) ?_
  rintro e w3 ⟨rfl, b3⟩
  have HB3 : Hid (Below w.heap.size w w3) := HB2.out.trans (b3.mono HB2.out.size)
  have HWr : Hid (Calls Tryz.prog 89 #[.pointer (some ⟨w.heap.size, 0, none⟩), .string (Ba (endP h.2.2))] w3 fun e w' => e = .returned (.tuple #[]) ∧ HashAt w.heap.size (feedP h (endP h.2.2)) w' ∧ Cub w' ∧ G w.heap.size w3 w') :=
    write_any w.heap.size h (endP h.2.2) w3 hh (HE2.out.below b3) (HCub.out.below b3) hne (by unfold maxLen; omega)
  clear b3
  go_wp2_with fail
  refine Calls.mono HWr.out ?_
  rintro e w4 ⟨rfl, a4, c4, g4⟩
  have HB4 : Hid (Below w.heap.size w w4) := HB3.out.trans (g4.below (Nat.le_refl _) HB3.out.size)
  have hrg : w4.rangeAt w.heap.size 0 (Vw (feedP h (endP h.2.2)).1) := fun j v hv => cell_at a4 (hashC_st hok2 hv)
  have hsv : (Tryz.prog.info? 127).map (·.size) = some (Vw (feedP h (endP h.2.2)).1).length := by rw [List.length_map, hok2.1.1]; kernel_rfl
  have HRg : Hid (_) := hrg
  have HSv : Hid (_) := hsv
  have HBo : Hid (∀ w, Calls Tryz.prog 117 #[.agg (Vw (feedP h (endP h.2.2)).1).toArray] w fun e w' => e = .returned (.string (Ba (sumH h))) ∧ Below w.heap.size w w') := fun w => by rw [HSum.out]; exact bytesOf_any _ w hok2.1.1
  clear a4 c4 g4 hrg hsv
  go_wp2_with (refine wpList_load_mid rfl 127 _ rfl w.heap.size 0 rfl _ _ HRg.out Tryz.underlying127 rfl HSv.out ?_)
  refine Calls.mono (HBo.out _) ?_
  rintro e w5 ⟨rfl, b5⟩
  have HB5 : Hid (Below w.heap.size w w5) := HB4.out.trans (b5.mono HB4.out.size)
  clear b5
  go_wp2_with fail
  go_ret
  exact ⟨rfl, HB5.out⟩
end Go.Proofs.YtmbpjbghhimedaaGreatDoor
