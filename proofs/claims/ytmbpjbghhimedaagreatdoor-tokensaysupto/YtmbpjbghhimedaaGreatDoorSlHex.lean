/- Contract over this translation: what seal.Hex answers. -/
import Derived.Test.YtmbpjbghhimedaaGreatDoorSlBuild
import Derived.Test.YtmbpjbghhimedaaGreatDoorShelf
namespace Go.Proofs.YtmbpjbghhimedaaGreatDoor
open Go.RowKit
set_option linter.unusedVariables false
set_option linter.unusedSimpArgs false
/-- the signs of bytes -/
def hexD : Bs := [48, 49, 50, 51, 52, 53, 54, 55, 56, 57, 97, 98, 99, 100, 101, 102]
def hx (k : Nat) : UInt8 := hexD.getD k 0
def hexP (s : Bs) : Bs := s.flatMap fun c => [hx (c.toNat / 16), hx (c.toNat % 16)]
theorem hexP_nil : hexP [] = [] := rfl
theorem hexP_append (a b : Bs) : hexP (a ++ b) = hexP a ++ hexP b := by simp [hexP]
theorem hexP_length (s : Bs) : (hexP s).length = 2 * s.length := by
  induction s with
  | nil => rfl
  | cons c s ih =>
    show (hexP ([c] ++ s)).length = _
    rw [hexP_append, List.length_append, ih, List.length_cons]
    show 2 + _ = _
    omega
theorem hexP_take (s : Bs) (k : Nat) (h : k < s.length) : hexP (s.take (k + 1)) = hexP (s.take k) ++ [hx (s[k].toNat / 16), hx (s[k].toNat % 16)] := by
  rw [List.take_succ_eq_append_getElem h, hexP_append]
  rfl
theorem hex_get (i : Nat) (h : i < 16) : (⟨#[48, 49, 50, 51, 52, 53, 54, 55, 56, 57, 97, 98, 99, 100, 101, 102]⟩ : ByteArray)[i]'h = hx i := by
  have : i = 0 ∨ i = 1 ∨ i = 2 ∨ i = 3 ∨ i = 4 ∨ i = 5 ∨ i = 6 ∨ i = 7 ∨ i = 8 ∨ i = 9 ∨ i = 10 ∨ i = 11 ∨ i = 12 ∨ i = 13 ∨ i = 14 ∨ i = 15 := by omega
  rcases this with rfl | rfl | rfl | rfl | rfl | rfl | rfl | rfl | rfl | rfl | rfl | rfl | rfl | rfl | rfl | rfl
  all_goals rfl
theorem cells_snoc (a b : Bs) : Lib.byteCells (a ++ b) = Lib.byteCells a ++ Lib.byteCells b := by simp [Lib.byteCells]
theorem u8_low (c : UInt8) : bits .and .u8 (c.toNat : Int) 15 = ((c.toNat % 16 : Nat) : Int) := by
  have h : c.toNat < 256 := c.toNat_lt
  have := u8_and_nat c.toNat 15 h (by decide)
  rw [show ((15 : Nat) : Int) = 15 from rfl] at this
  rw [this]
  congr 1
  exact Nat.and_two_pow_sub_one_eq_mod c.toNat 4
set_option maxRecDepth 100000 in
set_option maxHeartbeats 4000000 in
theorem hex_any (s : Bs) (w : World) (hs : s.length ≤ 1048576) :
    Calls Tryz.prog 35 #[.string (Ba s)] w fun e w' => e = .returned (.string (Ba (hexP s))) ∧ Below w.heap.size w w' := by
  have hsz : (Ba s).size = s.length := ba_size s
  have HG : Hid (∀ (B b n : Nat) (w : World) (hB : B ≤ b) (hbk : w.heap[b]? = some (.cells #[.pointer none, .slice none 0 0] 58 (0, 0))) (hBw : B ≤ w.heap.size) (hn : n ≤ 281474976710656), Calls Tryz.prog 37 #[.pointer (some ⟨b, 0, none⟩), .int .i64 n] w fun e w' => e = .returned (.tuple #[]) ∧ (Lib.BuilderAt 58 5 B b (.pointer (some ⟨b, 0, none⟩)) [] w' ∧ Below B w w')) := Tryz.Builder_Grow_fresh
  go_enter Tryz.func35, Tryz.ntmps35
  go_wp2_with fail
  refine Calls.mono (HG.out w.heap.size w.heap.size (2 * s.length) _ (Nat.le_refl _) (heap_alloc_new w _) (by simp) (by omega)) ?_
  rintro e w1 ⟨rfl, hi1, b1⟩
  have HB0 : Hid (Below w.heap.size w w1) := ((Below.refl _ _).alloc (Nat.le_refl _) _).trans b1
  have HI0 : Hid (IsB w.heap.size w.heap.size (Lib.byteCells (hexP (s.take 0))) w1) := Or.inr hi1
  clear hi1 b1 HG
  have HT : Hid (∀ k (h : k < s.length), hexP (s.take (k + 1)) = hexP (s.take k) ++ [hx (s[k].toNat / 16)] ++ [hx (s[k].toNat % 16)]) := fun k h => by
    show _ = _
    rw [hexP_take s k h, List.append_assoc]
    rfl
  have HL : Hid (∀ k, (hexP (s.take k)).length ≤ 2 * s.length) := fun k => by
    show _ ≤ _
    rw [hexP_length, List.length_take]
    omega
  have HE : Hid (hexP (s.take s.length) = hexP s) := by show _ = _; rw [List.take_length]
  go_wp2_with fail
  go_loopw [11] (fun i wr => ∃ k : Nat, k ≤ s.length ∧ i = .int .i64 k ∧ IsB w.heap.size w.heap.size (Lib.byteCells (hexP (s.take k))) wr ∧ Below w.heap.size w wr) (fun i _ => s.length - (intOf i).toNat)
  case atStart => exact ⟨0, Nat.zero_le _, rfl, HI0.out, HB0.out⟩
  case round =>
    obtain ⟨k, hk, rfl, hib, hbel⟩ := hrel
    have HI : Hid (IsB w.heap.size w.heap.size (Lib.byteCells (hexP (s.take k))) wr) := hib
    have HB : Hid (Below w.heap.size w wr) := hbel
    clear hib hbel
    by_cases hlt : k < s.length
    · have hT := HT.out k hlt
      have hal := HL.out k
      have hgt : (Ba s)[k]'(by rw [ba_size]; exact hlt) = s[k] := ba_get s k hlt
      have hc : s[k].toNat < 256 := s[k].toNat_lt
      have hlow := u8_low s[k]
      generalize han : hexP (s.take (k + 1)) = an at *
      generalize hexP (s.take k) = ak at *
      generalize s[k] = x at *
      have hi1 := hex_get (x.toNat / 16) (by omega)
      have hi2 := hex_get (x.toNat % 16) (by omega)
      generalize hxa : hx (x.toNat / 16) = ya at *
      generalize hxb : hx (x.toNat % 16) = yb at *
      go_wp2_with fail
      refine Calls.mono (wbyte_any w.heap.size w.heap.size (Lib.byteCells ak) _ wr HI.out (by rw [Lib.byteCells_length]; omega) HB.out.size) ?_
      rintro e w2 ⟨rfl, hi3, b2, _⟩
      have HB2 : Hid (Below w.heap.size w w2) := HB.out.trans b2
      have HI2 : Hid (IsB w.heap.size w.heap.size (Lib.byteCells (ak ++ [ya])) w2) := by
        rw [cells_snoc]
        exact hi3
      clear hi3 b2 hi1 HI HB
      go_wp2_with fail
      refine Calls.mono (wbyte_any w.heap.size w.heap.size (Lib.byteCells (ak ++ [ya])) _ w2 HI2.out (by rw [Lib.byteCells_length, List.length_append]; show _ + 1 + 1 ≤ _; omega) HB2.out.size) ?_
      rintro e w3 ⟨rfl, hi3, b3, _⟩
      have HB3 : Hid (Below w.heap.size w w3) := HB2.out.trans b3
      have HI3 : Hid (IsB w.heap.size w.heap.size (Lib.byteCells an) w3) := by
        show IsB _ _ _ _
        rw [hT, cells_snoc]
        exact hi3
      clear hi3 b3 hi2 HI2 HB2
      go_wp2_with fail
      go_roundw
      case rel => exact ⟨k + 1, by omega, by go_num, by rw [han]; exact HI3.out, HB3.out⟩
      case measure => simp [intOf]; omega
    · have hke : k = s.length := by omega
      have HS : Hid (Calls Tryz.prog 39 #[.pointer (some ⟨w.heap.size, 0, none⟩)] wr fun e w' => e = .returned (.string (Ba (hexP s))) ∧ Below w.heap.size wr w') := by
        have h := HI.out
        rw [hke, HE.out] at h
        exact Tryz.Builder_String_any w.heap.size w.heap.size (hexP s) wr h HB.out.size
      clear hke
      go_wp2_with fail
      refine Calls.mono HS.out ?_
      rintro e w5 ⟨rfl, b5⟩
      have HB5 : Hid (Below w.heap.size w w5) := HB.out.trans b5
      clear b5
      go_wp2_with fail
      go_ret
      exact ⟨rfl, HB5.out⟩
end Go.Proofs.YtmbpjbghhimedaaGreatDoor
