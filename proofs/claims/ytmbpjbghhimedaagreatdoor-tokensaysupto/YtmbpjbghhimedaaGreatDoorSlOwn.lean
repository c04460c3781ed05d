/- Bytes that a call has gathered in memory of its own: plain facts on worlds. -/
import Derived.Test.YtmbpjbghhimedaaGreatDoorSlMix
import Derived.Laws.BytesArg
namespace Go.Proofs.YtmbpjbghhimedaaGreatDoor
open Go.RowKit
set_option linter.unusedVariables false
set_option linter.unusedSimpArgs false
/-- The slice v owns the bytes l, in blocks from B on. -/
def Own (B : Nat) (w : World) (v : Value) (l : Bs) : Prop := w.ownsRow B 5 1 v l.length (Lib.byteCells l)
theorem Own.below {B : Nat} {w w' : World} {v : Value} {l : Bs} (h : Own B w v l) (g : Below w.heap.size w w') : Own B w' v l := by
  refine World.ownsRow.kept (row := none) h ⟨g.os, g.tape, g.output, g.size, fun k hk _ => g.block k hk⟩ ?_
  cases v.ownBlock with
  | none => exact Or.inl rfl
  | some x => exact Or.inr (fun e => by cases e)
theorem strOf_bytes (l : Bs) : strOfNums (l.map fun c => (c.toNat : Int)) = ⟨l.toArray⟩ := by
  have : ((l.map fun c => (c.toNat : Int)).map fun n => UInt8.ofNat n.toNat) = l := by
    rw [List.map_map]
    conv => rhs; rw [← List.map_id l]
    apply List.map_congr_left
    intro c _
    simp
  unfold strOfNums
  rw [this]
theorem conv_row {w : World} {g cap : Nat} {cur : Array Value} {t : TypeId} {fr : Nat × Nat} {l : Bs} (hh : w.heap[g]? = some (.cells cur t fr)) (hc : ∀ i (h : i < l.length), cur[i]? = some (.int .u8 l[i].toNat)) :
    (convert 56 9 (.slice (some ⟨g, 0, none⟩) l.length cap)).run Tryz.prog w = .ok (.string (Ba l)) w := by
  have := run_convert_bytes_arg (P := Tryz.prog) w 56 5 Tryz.underlying56 Tryz.underlying5 g 0 l.length cap (l.map fun c => (c.toNat : Int)) (by simp) (by
    intro i hi
    rw [Nat.zero_add, cell_of_row _ _ _ _ _ _ hh, hc i hi]
    simp [hi]) 9 Tryz.underlying9
  have e : strOfNums (l.map fun c => (c.toNat : Int)) = ⟨l.toArray⟩ := strOf_bytes l
  rw [e] at this
  exact this
theorem conv_own {B : Nat} {w : World} {v : Value} {l : Bs} (h : Own B w v l) : (convert 56 9 v).run Tryz.prog w = .ok (.string (Ba l)) w := by
  rcases h.2 with ⟨rfl, hn⟩ | ⟨g, cap, cur, rfl, hg, hh, _, _, _, htk⟩
  · have : l = [] := List.length_eq_zero_iff.1 hn
    subst this
    exact run_convert_bytes_nil w 56 5 Tryz.underlying56 Tryz.underlying5 0 0 9 Tryz.underlying9
  · refine conv_row hh (fun i hi => ?_)
    have h2 : (cur.toList.take (l.length * 1))[i]? = (Lib.byteCells l)[i]? := by rw [htk]
    rw [List.getElem?_take, if_pos (by omega)] at h2
    rw [Array.getElem?_toList] at h2
    rw [h2]
    simp [Lib.byteCells, hi]
/-- the four bytes of a number, the highest first -/
def fourP (x : Nat) : Bs := [(x / 16777216).toUInt8, (x / 65536).toUInt8, (x / 256).toUInt8, x.toUInt8]
def bytesP (v : List Nat) : Bs := v.flatMap fourP
theorem bytesP_append (a b : List Nat) : bytesP (a ++ b) = bytesP a ++ bytesP b := by simp [bytesP]
theorem bytesP_length (v : List Nat) : (bytesP v).length = 4 * v.length := by
  induction v with
  | nil => rfl
  | cons x v ih =>
    show (bytesP ([x] ++ v)).length = _
    rw [bytesP_append, List.length_append, ih, List.length_cons]
    show 4 + _ = _
    omega
theorem bytesP_take (v : List Nat) (k : Nat) (h : k < v.length) : bytesP (v.take (k + 1)) = bytesP (v.take k) ++ fourP (v.getD k 0) := by
  rw [List.take_succ_eq_append_getElem h, bytesP_append, List.getD_eq_getElem?_getD, List.getElem?_eq_getElem h]
  simp [bytesP]
theorem four_cells (x : Nat) : Lib.byteCells (fourP x) = [.int .u8 (IntKind.u8.wrap ((x : Int) / 16777216)), .int .u8 (IntKind.u8.wrap ((x : Int) / 65536)), .int .u8 (IntKind.u8.wrap ((x : Int) / 256)), .int .u8 (IntKind.u8.wrap (x : Int))] := by
  have h : ∀ y : Nat, ((y.toUInt8.toNat : Nat) : Int) = IntKind.u8.wrap (y : Int) := fun y => by
    rw [IntKind.wrap_u8', Nat.toUInt8_eq, UInt8.toNat_ofNat']
    omega
  simp only [Lib.byteCells, fourP, List.map_cons, List.map_nil, h]
  rfl
theorem idx_state (v : List Nat) (i : Nat) (hl : v.length = 8) (hi : i < 8) (w : World) : (Instr.index 127 (.agg (Vw v).toArray) (.int .i64 (i : Int))).run Tryz.prog w = .ok (.int .u32 (v.getD i 0 : Nat)) w := by
  have hg := vw_get (ws := v) (k := i) (by omega)
  unfold Instr.index
  simp only [asIntOf, Sem.run_bind, Sem.run_pure, Result.andThen, run_underlying Tryz.underlying127]
  rw [if_pos (by omega)]
  rw [show ((i : Int).toNat) = i from rfl]
  generalize (Vw v).toArray = cs at *
  simp only [Tryz.sizeOf85, Tryz.isAgg85, part, Sem.run_bind, Result.andThen, Nat.mul_one, hg, Sem.run_pure, Bool.false_eq_true, if_false]
set_option maxRecDepth 100000 in
set_option maxHeartbeats 8000000 in
theorem bytesOf_any (v : List Nat) (w : World) (hv : v.length = 8) :
    Calls Tryz.prog 117 #[.agg (Vw v).toArray] w fun e w' => e = .returned (.string (Ba (bytesP v))) ∧ Below w.heap.size w w' := by
  obtain ⟨i0, hi, hz0, hz1, hz2⟩ := info_parts info_byte
  have HIx : Hid (∀ i < 8, ∀ w, (Instr.index 127 (.agg (Vw v).toArray) (.int .i64 (i : Nat))).run Tryz.prog w = .ok (.int .u32 (v.getD i 0 : Nat)) w) := fun i hi w => idx_state _ i hv hi w
  have hsz : Hid ((Tryz.prog.info? 127).map (·.size) = some (Vw v).toArray.size) := by
    show _ = _
    rw [List.size_toArray, List.length_map, hv]
    kernel_rfl
  have HBx : Hid ((w.alloc (.cells (Vw v).toArray 127)).heap[w.heap.size]? = some (.cells (Vw v).toArray 127 (0, 0))) := heap_alloc_new w _
  generalize hA : (Vw v).toArray = vA at *
  clear hA
  go_enter Tryz.func117, Tryz.ntmps117
  have HB0 : Hid (Below w.heap.size w (w.alloc (.cells vA 127))) := (Below.refl _ _).alloc (Nat.le_refl _) _
  go_wp2_with (refine wpList_make_own _ rfl _ _ 56 rfl w.heap.size 5 i0 (.int .u8 0) 1 Tryz.underlying56 hi hz0 hz1 .i64 .i64 _ 32 rfl rfl rfl (by omega) (by unfold maxLen; omega) (by simp) ?_)
  intro w1 hown0 hgr0
  have HB1 : Hid (Below w.heap.size w w1) := HB0.out.grown hgr0 (by simp) (fun k hk => by cases hk)
  have HBx1 : Hid (w1.heap[w.heap.size]? = some (.cells vA 127 (0, 0))) := by
    show _ = _
    rw [hgr0.block w.heap.size (by simp) (fun e => by cases e)]
    exact HBx.out
  have HO1 : Hid (w1.ownsRow w.heap.size 5 1 (.slice (some ⟨w.heap.size + 1, 0, none⟩) 0 32) 0 (Lib.byteCells (bytesP (v.take 0)))) := hown0
  clear hown0 hgr0 HB0 HBx
  go_wp2_with (refine wpList_load_row rfl 127 _ rfl _ rfl 127 _ _ _ HBx1.out Tryz.underlying127 rfl hsz.out ?_)
  have HL : Hid (∀ k, (bytesP (v.take k)).length ≤ 32) := fun k => by
    show _ ≤ _
    rw [bytesP_length, List.length_take]
    omega
  have HT : Hid (∀ k < 8, Lib.byteCells (bytesP (v.take (k + 1))) = Lib.byteCells (bytesP (v.take k)) ++ [.int .u8 (IntKind.u8.wrap ((v.getD k 0 : Int) / 16777216)), .int .u8 (IntKind.u8.wrap ((v.getD k 0 : Int) / 65536)), .int .u8 (IntKind.u8.wrap ((v.getD k 0 : Int) / 256)), .int .u8 (IntKind.u8.wrap (v.getD k 0 : Int))]) := fun k hk => by
    show _ = _
    rw [bytesP_take v k (by omega), ← four_cells]
    simp [Lib.byteCells]
  have HE : Hid (bytesP (v.take 8) = bytesP v) := by show _ = _; rw [← hv, List.take_length]
  go_loopw [3, 8] (fun sv i wr => ∃ (k : Nat) (g : Option Addr) (n cap : Nat), k ≤ 8 ∧ i = .int .i64 k ∧ sv = .slice g n cap ∧ n = 4 * k ∧ wr.ownsRow w.heap.size 5 1 sv n (Lib.byteCells (bytesP (v.take k))) ∧ Below w.heap.size w wr) (fun _ i _ => 8 - (intOf i).toNat)
  case atStart => exact ⟨0, _, 0, 32, Nat.zero_le _, rfl, rfl, rfl, HO1.out, HB1.out⟩
  case round =>
    obtain ⟨k, g, n, cap, hk, rfl, rfl, rfl, hown, hbel⟩ := hrel
    have HB : Hid (Below w.heap.size w wr) := hbel
    by_cases hlt : k < 8
    · have hix := HIx.out k hlt
      have hk8 : (k : Int) < 8 := by omega
      have hT := HT.out k hlt
      have hB4 := hbel.alloc (o := .cells #[.int .u8 (IntKind.u8.wrap ((v.getD k 0 : Int) / 16777216)), .int .u8 (IntKind.u8.wrap ((v.getD k 0 : Int) / 65536)), .int .u8 (IntKind.u8.wrap ((v.getD k 0 : Int) / 256)), .int .u8 (IntKind.u8.wrap (v.getD k 0 : Int))] 5) hbel.size
      generalize v.getD k 0 = x at *
      generalize hc1 : IntKind.u8.wrap ((x : Int) / 16777216) = x1 at *
      generalize hc2 : IntKind.u8.wrap ((x : Int) / 65536) = x2 at *
      generalize hc3 : IntKind.u8.wrap ((x : Int) / 256) = x3 at *
      generalize hc4 : IntKind.u8.wrap (x : Int) = x4 at *
      clear hbel
      go_wp2_with (at_builtin; refine wpList_append_own _ rfl _ _ 56 rfl w.heap.size 5 i0 (.int .u8 0) 1 1 Tryz.underlying56 hi hz0 hz1 hz2 rfl (by decide) _ _ _ rfl (hown.alloc _) ⟨wr.heap.size, 0, none⟩ 4 4 [.int .u8 x1, .int .u8 x2, .int .u8 x3, .int .u8 x4] rfl rfl ?g1 ?g2 ?g3 ?g4 ?g5 ?_)
      case g1 =>
        intro j u hj
        match j, hj with
        | 0, hj => simp at hj; subst hj; simp [Addr.add]
        | 1, hj => simp at hj; subst hj; simp [Addr.add]
        | 2, hj => simp at hj; subst hj; simp [Addr.add]
        | 3, hj => simp at hj; subst hj; simp [Addr.add]
      case g2 =>
        intro u hu
        simp at hu
        rcases hu with rfl | rfl | rfl | rfl <;> rfl
      case g3 => unfold maxLen; omega
      case g4 => omega
      case g5 => have := HB.out.size; simp; omega
      intro v' w2 hown' hgrow _
      obtain ⟨g2, n2, cap2, rfl⟩ : ∃ g2 n2 cap2, v' = .slice g2 n2 cap2 := by
        rcases hown'.2 with ⟨hv, h0⟩ | ⟨g, cap, cur, hv, _⟩
        · exact ⟨_, _, _, hv⟩
        · exact ⟨_, _, _, hv⟩
      have hn2 : n2 = 4 * k + 4 := by
        rcases hown'.2 with ⟨hv, h0⟩ | ⟨g, cap, cur, hv, _⟩
        · simp at h0
        · injection hv with _ e _
      subst hn2
      have HO2 : Hid (w2.ownsRow w.heap.size 5 1 (.slice g2 (4 * k + 4) cap2) (4 * k + 4) (Lib.byteCells (bytesP (v.take (k + 1))))) := by
        show World.ownsRow _ _ _ _ _ _ _
        rw [hT]
        exact hown'
      have HB2 : Hid (Below w.heap.size w w2) := hB4.grown hgrow (by have := HB.out.size; simp; omega) (fun j hj => (hown.lt j hj).1)
      clear hown hown' hgrow hT hB4
      go_wp2_with fail
      go_roundw
      case rel => exact ⟨k + 1, g2, 4 * k + 4, cap2, by omega, by go_num, rfl, by omega, HO2.out, HB2.out⟩
      case measure => simp [intOf]; omega
    · have hke : k = 8 := by omega
      have hO : Own w.heap.size wr (.slice g (4 * k) cap) (bytesP v) := by
        have h := hown
        have h2 : bytesP (v.take k) = bytesP v := by rw [hke]; exact HE.out
        rw [h2] at h
        have hl : (bytesP v).length = 4 * k := by rw [bytesP_length, hv, hke]
        unfold Own
        rw [hl]
        exact h
      have hcv := conv_own hO
      have hk8 : ¬ ((k : Int) < 8) := by omega
      clear hO hown hke hbel
      go_wp2_with fail
      go_ret
      exact ⟨rfl, HB.out⟩
end Go.Proofs.YtmbpjbghhimedaaGreatDoor
