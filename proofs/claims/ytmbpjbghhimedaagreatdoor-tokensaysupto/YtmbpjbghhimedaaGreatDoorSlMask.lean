/- Contracts over this translation: what seal.masked and seal.Mac answer. -/
import Derived.Test.YtmbpjbghhimedaaGreatDoorSlSumOf
namespace Go.Proofs.YtmbpjbghhimedaaGreatDoor
open Go.RowKit
set_option linter.unusedVariables false
set_option linter.unusedSimpArgs false
/-- each byte xored -/
def maskP (b : Bs) (x : UInt8) : Bs := b.map (· ^^^ x)
theorem maskP_length (b : Bs) (x : UInt8) : (maskP b x).length = b.length := List.length_map ..
theorem mask_set (b : Bs) (x : UInt8) (k : Nat) (h : k < b.length) : (maskP (b.take k) x ++ b.drop k).set k (b[k] ^^^ x) = maskP (b.take (k + 1)) x ++ b.drop (k + 1) := by
  have hml : (maskP (b.take k) x).length = k := by rw [maskP_length, List.length_take]; omega
  rw [List.set_append_right _ _ (by omega), hml, Nat.sub_self, List.drop_eq_getElem_cons h, List.take_succ_eq_append_getElem h]
  simp only [maskP, List.map_append, List.map_cons, List.map_nil, List.set_cons_zero, List.append_assoc, List.singleton_append]
theorem bc_set (l : Bs) (k : Nat) (y : UInt8) : Lib.byteCells (l.set k y) = (Lib.byteCells l).set k (.int .u8 (y.toNat : Nat)) := by simp [Lib.byteCells, List.map_set]
theorem xor_u8 (a b : UInt8) : bits .xor .u8 (a.toNat : Int) (b.toNat : Int) = (((a ^^^ b).toNat : Nat) : Int) := by
  rw [u8_xor_nat _ _ a.toNat_lt b.toNat_lt, UInt8.toNat_xor]
set_option maxRecDepth 100000 in
set_option maxHeartbeats 8000000 in
theorem masked_any (b : Bs) (x : UInt8) (w : World) (hb : b.length = 64) :
    Calls Tryz.prog 61 #[.agg (Lib.byteCells b).toArray, .int .u8 x.toNat] w fun e w' => e = .returned (.string (Ba (maskP b x))) ∧ Below w.heap.size w w' := by
  have HB0 : Hid (Below w.heap.size w (w.alloc (.cells (Lib.byteCells b).toArray 78))) := (Below.refl _ _).alloc (Nat.le_refl _) _
  have HH0 : Hid ((w.alloc (.cells (Lib.byteCells b).toArray 78)).heap[w.heap.size]? = some (.cells (Lib.byteCells b).toArray 78 (0, 0))) := heap_alloc_new w _
  go_enter Tryz.func61, Tryz.ntmps61
  go_wp2_with fail
  go_loopw [6] (fun i wr => ∃ k : Nat, k ≤ 64 ∧ i = .int .i64 k ∧ wr.heap[w.heap.size]? = some (.cells (Lib.byteCells (maskP (b.take k) x ++ b.drop k)).toArray 78 (0, 0)) ∧ Below w.heap.size w wr) (fun i _ => 64 - (intOf i).toNat)
  case atStart => exact ⟨0, Nat.zero_le _, rfl, HH0.out, HB0.out⟩
  case round =>
    obtain ⟨k, hk, rfl, hcell, hbel⟩ := hrel
    have HB : Hid (Below w.heap.size w wr) := hbel
    by_cases hlt : k < 64
    · have hkb : k < b.length := by omega
      have hml : (maskP (b.take k) x).length = k := by rw [maskP_length, List.length_take]; omega
      have hck : wr.cell? ⟨w.heap.size, k, none⟩ = some (.int .u8 (b[k].toNat : Nat)) := by
        refine cell_at hcell ?_
        rw [List.getElem?_toArray, Lib.byteCells, List.getElem?_map, List.getElem?_append_right (by omega), hml, Nat.sub_self, List.getElem?_drop, Nat.add_zero, List.getElem?_eq_getElem hkb]
        rfl
      have hfz : wr.frozen? ⟨w.heap.size, k, none⟩ = false := Lib.frozen_of_heap hcell k
      have hx := xor_u8 b[k] x
      have hset : (Lib.byteCells (maskP (b.take k) x ++ b.drop k)).toArray.setIfInBounds k (.int .u8 ((b[k] ^^^ x).toNat : Nat)) = (Lib.byteCells (maskP (b.take (k + 1)) x ++ b.drop (k + 1))).toArray := by
        rw [List.setIfInBounds_toArray, ← bc_set, mask_set b x k hkb]
      have HN : Hid ((wr.setCell ⟨w.heap.size, k, none⟩ (.int .u8 ((b[k] ^^^ x).toNat : Nat))).heap[w.heap.size]? = some (.cells (Lib.byteCells (maskP (b.take (k + 1)) x ++ b.drop (k + 1))).toArray 78 (0, 0))) := by
        have h := heap_setCell_same _ _ k _ _ (.int .u8 ((b[k] ^^^ x).toNat : Nat)) hcell
        rw [hset] at h
        exact h
      have HNB : Hid (Below w.heap.size w (wr.setCell ⟨w.heap.size, k, none⟩ (.int .u8 ((b[k] ^^^ x).toNat : Nat)))) := hbel.setCell (p := ⟨w.heap.size, k, none⟩) (Nat.le_refl _) _
      have hkI : (k : Int) < 64 := by omega
      clear hcell hbel hset hml
      generalize (b[k] ^^^ x).toNat = y at *
      generalize b[k].toNat = z at *
      generalize x.toNat = xn at *
      go_wp2_with fail
      go_roundw
      case rel => exact ⟨k + 1, by omega, by go_num, HN.out, HNB.out⟩
      case measure => simp [intOf]; omega
    · have hke : k = 64 := by omega
      have hml : (maskP b x).length = 64 := by rw [maskP_length, hb]
      have hcv : (convert 56 9 (.slice (some ⟨w.heap.size, 0, none⟩) 64 64)).run Tryz.prog wr = .ok (.string (Ba (maskP b x))) wr := by
        rw [hke, List.take_of_length_le (by omega), List.drop_of_length_le (by omega), List.append_nil] at hcell
        have := conv_row (cap := 64) hcell (l := maskP b x) (fun i hi => by
          rw [List.getElem?_toArray, Lib.byteCells, List.getElem?_map, List.getElem?_eq_getElem hi]
          rfl)
        rw [hml] at this
        exact this
      have hkI : ¬ ((k : Int) < 64) := by omega
      clear hcell hbel hke
      go_wp2_with fail
      go_ret
      exact ⟨rfl, HB.out⟩
/-- a key as it goes into a block -/
def keyP (key : Bs) : Bs := over (List.replicate 64 0) key 0
/-- the Mac of a text by a key that fits a block -/
def macK (key s : Bs) : Bs := sumP (maskP (keyP key) 92 ++ sumP (maskP (keyP key) 54 ++ s))
def macP (key s : Bs) : Bs := if key.length > 64 then macK (sumP key) s else macK key s
theorem sumP_length (s : Bs) : (sumP s).length = 32 := by
  unfold sumP sumH
  rw [bytesP_length, (feedP_ok _ (feedP_ok s newP_ok)).1.1]
theorem keyP_length {key : Bs} (h : key.length ≤ 64) : (keyP key).length = 64 := by
  unfold keyP
  rw [over_len (by simpa using h)]
  rfl
theorem strs2 (w : World) (a b : Bs) : Strs (w.alloc (.cells #[.string (Ba a), .string (Ba b)] 9)) (.slice (some ⟨w.heap.size, 0, none⟩) 2 2) [a, b] := by
  refine Or.inr ⟨w.heap.size, 0, 2, rfl, Nat.le_refl _, by unfold maxLen; decide, by simp, fun i x hx => ?_⟩
  match i, hx with
  | 0, hx =>
    simp only [List.getElem?_cons_zero, Option.some.injEq] at hx
    subst hx
    exact cell_at (heap_alloc_new w _) rfl
  | 1, hx =>
    simp only [List.getElem?_cons_succ, List.getElem?_cons_zero, Option.some.injEq] at hx
    subst hx
    exact cell_at (heap_alloc_new w _) rfl
set_option maxRecDepth 100000 in
theorem zero_block : (#[.int .u8 0, .int .u8 0, .int .u8 0, .int .u8 0, .int .u8 0, .int .u8 0, .int .u8 0, .int .u8 0, .int .u8 0, .int .u8 0, .int .u8 0, .int .u8 0, .int .u8 0, .int .u8 0, .int .u8 0, .int .u8 0, .int .u8 0, .int .u8 0, .int .u8 0, .int .u8 0, .int .u8 0, .int .u8 0, .int .u8 0, .int .u8 0, .int .u8 0, .int .u8 0, .int .u8 0, .int .u8 0, .int .u8 0, .int .u8 0, .int .u8 0, .int .u8 0, .int .u8 0, .int .u8 0, .int .u8 0, .int .u8 0, .int .u8 0, .int .u8 0, .int .u8 0, .int .u8 0, .int .u8 0, .int .u8 0, .int .u8 0, .int .u8 0, .int .u8 0, .int .u8 0, .int .u8 0, .int .u8 0, .int .u8 0, .int .u8 0, .int .u8 0, .int .u8 0, .int .u8 0, .int .u8 0, .int .u8 0, .int .u8 0, .int .u8 0, .int .u8 0, .int .u8 0, .int .u8 0, .int .u8 0, .int .u8 0, .int .u8 0, .int .u8 0] : Array Value) = (Lib.byteCells (List.replicate 64 0)).toArray := by kernel_rfl
set_option maxRecDepth 100000 in
/-- behind the copy of a key into a new block -/
theorem key_copy (w : World) (key : Bs) (hk : key.length ≤ 64) : ∃ w3, (Builtin.copy_ #[56, 9] 3 #[.slice (some ⟨w.heap.size, 0, none⟩) 64 64, .string (Ba key)]).run Tryz.prog (w.alloc (.cells #[.int .u8 0, .int .u8 0, .int .u8 0, .int .u8 0, .int .u8 0, .int .u8 0, .int .u8 0, .int .u8 0, .int .u8 0, .int .u8 0, .int .u8 0, .int .u8 0, .int .u8 0, .int .u8 0, .int .u8 0, .int .u8 0, .int .u8 0, .int .u8 0, .int .u8 0, .int .u8 0, .int .u8 0, .int .u8 0, .int .u8 0, .int .u8 0, .int .u8 0, .int .u8 0, .int .u8 0, .int .u8 0, .int .u8 0, .int .u8 0, .int .u8 0, .int .u8 0, .int .u8 0, .int .u8 0, .int .u8 0, .int .u8 0, .int .u8 0, .int .u8 0, .int .u8 0, .int .u8 0, .int .u8 0, .int .u8 0, .int .u8 0, .int .u8 0, .int .u8 0, .int .u8 0, .int .u8 0, .int .u8 0, .int .u8 0, .int .u8 0, .int .u8 0, .int .u8 0, .int .u8 0, .int .u8 0, .int .u8 0, .int .u8 0, .int .u8 0, .int .u8 0, .int .u8 0, .int .u8 0, .int .u8 0, .int .u8 0, .int .u8 0, .int .u8 0] 78)) = .ok (.int .i64 (key.length : Nat)) w3 ∧
    w3.heap[w.heap.size]? = some (.cells (Lib.byteCells (keyP key)).toArray 78 (0, 0)) ∧ Below w.heap.size w w3 := by
  rw [zero_block]
  have h0 : (w.alloc (.cells (Lib.byteCells (List.replicate 64 0)).toArray 78)).heap[w.heap.size]? = some (.cells (Lib.byteCells (List.replicate 64 0)).toArray 78 (0, 0)) := heap_alloc_new w _
  have hsz : (Lib.byteCells (List.replicate 64 0)).toArray.size = 64 := by rw [List.size_toArray, Lib.byteCells_length, List.length_replicate]
  have h := copy_str (w.alloc (.cells (Lib.byteCells (List.replicate 64 0)).toArray 78)) w.heap.size 0 64 64 key _ 78 key.length (by omega) h0 (by rw [hsz]; omega)
  refine ⟨_, h, ?_, below_setRow ((Below.refl _ _).alloc (Nat.le_refl _) _) (Nat.le_refl _) _⟩
  rw [setRow_heap _ _ _ _ _ _ h0]
  congr 3
  rw [List.take_of_length_le (Nat.le_refl _), List.toList_toArray, List.take_zero, List.nil_append]
  unfold keyP over
  rw [List.take_zero, List.nil_append]
  simp [Lib.byteCells]
end Go.Proofs.YtmbpjbghhimedaaGreatDoor
