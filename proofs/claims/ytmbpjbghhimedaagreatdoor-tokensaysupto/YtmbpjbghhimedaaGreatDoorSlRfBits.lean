/- Contracts over this translation: the document's own small functions: chr, turn, Rest, Copy of numbers of 32 bits. -/
import Derived.Test.YtmbpjbghhimedaaGreatDoorSlMac
namespace Go.Proofs.YtmbpjbghhimedaaGreatDoor
open Go.RowKit
set_option linter.unusedVariables false
set_option linter.unusedSimpArgs false
set_option maxRecDepth 100000 in
set_option maxHeartbeats 4000000 in
theorem chr_any (c : UInt8) (w : World) : Calls Tryz.prog 43 #[.int .i64 c.toNat] w fun e w' => e = .returned (.string (Ba [c])) ∧ Below w.heap.size w w' := by
  have hc := c.toNat_lt
  have hw : IntKind.u8.wrap (c.toNat : Int) = (c.toNat : Int) := by rw [IntKind.wrap_u8']; omega
  have hcv : (convert 56 9 (.slice (some ⟨w.heap.size, 0, none⟩) 1 1)).run Tryz.prog (w.alloc (.cells #[.int .u8 (c.toNat : Int)] 5)) = .ok (.string (Ba [c])) (w.alloc (.cells #[.int .u8 (c.toNat : Int)] 5)) :=
    conv_row (l := [c]) (heap_alloc_new w _) (fun i hi => by
      have : i = 0 := by simp at hi; omega
      subst this
      rfl)
  have HB : Hid (Below w.heap.size w (w.alloc (.cells #[.int .u8 (c.toNat : Int)] 5))) := (Below.refl _ _).alloc (Nat.le_refl _) _
  generalize c.toNat = n at *
  generalize Ba [c] = sB at *
  have hn : (n : Int) % 256 = n := by omega
  go_enter Tryz.func43, Tryz.ntmps43
  go_wp2_with fail
  go_ret
  exact ⟨rfl, HB.out⟩
theorem turn_int (x n : Nat) (hx : x < lim) (h0 : 0 < n) (h1 : n < 32) : bits .or .u32 ((x : Int) / 2 ^ n) (IntKind.u32.wrap ((x : Int) * 2 ^ (32 - n))) = ((rotP n x : Nat) : Int) := by
  rw [IntKind.wrap_u32']
  have := u32_or_nat (x / 2 ^ n) (x * 2 ^ (32 - n) % 4294967296) (Nat.lt_of_le_of_lt (Nat.div_le_self _ _) hx) (Nat.mod_lt _ (by decide))
  rw [Int.natCast_emod, Int.natCast_mul, Int.natCast_ediv, Int.natCast_pow, Int.natCast_pow, Nat.or_comm] at this
  exact this
set_option maxRecDepth 100000 in
set_option maxHeartbeats 1000000 in
theorem turn_any (x n : Nat) (w : World) (hx : x < lim) (h0 : 0 < n) (h1 : n < 32) :
    Calls Tryz.prog 67 #[.int .u32 x, .int .i64 (n : Int)] w fun e w' => e = .returned (.int .u32 (rotP n x : Nat)) ∧ ∃ m, w' = w.drewN m := by
  have HR : Hid (bits .or .u32 ((x : Int) / 2 ^ n) (IntKind.u32.wrap ((x : Int) * 2 ^ (32 - n))) = ((rotP n x : Nat) : Int)) := turn_int x n hx h0 h1
  obtain ⟨m, hm⟩ : ∃ m, m = 32 - n := ⟨_, rfl⟩
  have hs : IntKind.i64.wrap (32 - (n : Int)) = (m : Int) := by rw [IntKind.wrap_i64]; omega
  rw [← hm] at HR
  have hm32 : m < 32 := by omega
  clear hm
  go_enter Tryz.func67, Tryz.ntmps67
  go_wp2_with fail
  go_quiet (fail)
  go_wp2_with fail
  go_ret
  exact ⟨by rw [HR.out]; rfl, nq, rfl⟩
set_option maxRecDepth 100000 in
set_option maxHeartbeats 1000000 in
theorem rest_any (n : Nat) (w : World) (hn : n ≤ 140737488355328) :
    Calls Tryz.prog 66 #[.int .i64 (-(n : Int) - 9), .int .i64 64] w fun e w' => e = .returned (.int .i64 (noughts n : Nat)) ∧ w' = w := by
  obtain ⟨r, hr⟩ : ∃ r, r = (n + 9) % 64 := ⟨_, rfl⟩
  have hm : (-(n : Int) - 9).tmod 64 = -(r : Int) := by
    rw [show (-(n : Int) - 9) = -((n : Int) + 9) by omega, Int.neg_tmod, Int.tmod_eq_emod_of_nonneg (by omega)]
    omega
  have hno : noughts n = (64 - r) % 64 := by rw [hr]; rfl
  by_cases h0 : r = 0
  · have hz : -(r : Int) = 0 := by omega
    rw [hz] at hm
    have hno2 : noughts n = 0 := by rw [hno, h0]
    rw [hno2]
    go_enter Tryz.func66, Tryz.ntmps66
    go_wp2_with fail
    go_ret
    exact ⟨rfl, rfl⟩
  · have hlt : -(r : Int) < 0 := by omega
    have hno2 : ((noughts n : Nat) : Int) = -(r : Int) + 64 := by rw [hno]; omega
    have hw : IntKind.i64.wrap (-(r : Int) + 64) = -(r : Int) + 64 := by rw [IntKind.wrap_i64]; omega
    have HN2 : Hid (_) := hno2
    clear hno hr hno2
    go_enter Tryz.func66, Tryz.ntmps66
    go_wp2_with fail
    go_ret
    exact ⟨by rw [HN2.out]; rfl, rfl⟩
end Go.Proofs.YtmbpjbghhimedaaGreatDoor
