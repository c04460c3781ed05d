/- Plain functions on numbers of 32 bits, and contracts over this translation: what package seal's small functions answer. -/
import Derived.Test.YtmbpjbghhimedaaGreatDoorSlBase
import Derived.Laws.BitsAllLaws
namespace Go.Proofs.YtmbpjbghhimedaaGreatDoor
open Go.RowKit
set_option linter.unusedVariables false
set_option linter.unusedSimpArgs false
/-- turned -/
def rotP (n x : Nat) : Nat := (x * 2 ^ (32 - n) % 4294967296) ||| (x / 2 ^ n)
def s0P (x : Nat) : Nat := (rotP 7 x ^^^ rotP 18 x) ^^^ (x / 8)
def s1P (x : Nat) : Nat := (rotP 17 x ^^^ rotP 19 x) ^^^ (x / 1024)
def g0P (x : Nat) : Nat := (rotP 2 x ^^^ rotP 13 x) ^^^ rotP 22 x
def g1P (x : Nat) : Nat := (rotP 6 x ^^^ rotP 11 x) ^^^ rotP 25 x
def chP (e f g : Nat) : Nat := (e &&& f) ||| ((4294967295 ^^^ e) &&& g)
def mjP (a b c : Nat) : Nat := ((a &&& b) ||| (a &&& c)) ||| (b &&& c)
abbrev lim : Nat := 4294967296
theorem rot_lt {n x : Nat} (hx : x < lim) : rotP n x < lim :=
  Nat.or_lt_two_pow (n := 32) (Nat.mod_lt _ (by decide)) (Nat.lt_of_le_of_lt (Nat.div_le_self _ _) hx)
theorem xor_lt {a b : Nat} (ha : a < lim) (hb : b < lim) : a ^^^ b < lim := Nat.xor_lt_two_pow (n := 32) ha hb
theorem or_lt {a b : Nat} (ha : a < lim) (hb : b < lim) : a ||| b < lim := Nat.or_lt_two_pow (n := 32) ha hb
theorem and_lt {a b : Nat} (hb : b < lim) : a &&& b < lim := Nat.and_lt_two_pow (n := 32) _ hb
theorem s0_lt {x : Nat} (hx : x < lim) : s0P x < lim := xor_lt (xor_lt (rot_lt hx) (rot_lt hx)) (Nat.lt_of_le_of_lt (Nat.div_le_self _ _) hx)
theorem s1_lt {x : Nat} (hx : x < lim) : s1P x < lim := xor_lt (xor_lt (rot_lt hx) (rot_lt hx)) (Nat.lt_of_le_of_lt (Nat.div_le_self _ _) hx)
theorem g0_lt {x : Nat} (hx : x < lim) : g0P x < lim := xor_lt (xor_lt (rot_lt hx) (rot_lt hx)) (rot_lt hx)
theorem g1_lt {x : Nat} (hx : x < lim) : g1P x < lim := xor_lt (xor_lt (rot_lt hx) (rot_lt hx)) (rot_lt hx)
theorem ch_lt {e f g : Nat} (hf : f < lim) (hg : g < lim) : chP e f g < lim := or_lt (and_lt hf) (and_lt hg)
theorem mj_lt {a b c : Nat} (hb : b < lim) (hc : c < lim) : mjP a b c < lim := or_lt (or_lt (and_lt hb) (and_lt hc)) (and_lt hc)
theorem and31 (n : Nat) (h0 : 0 < n) (h1 : n < 32) : bits .and .u64 (IntKind.u64.wrap (-(n : Int))) 31 = ((32 - n : Nat) : Int) := by
  have e : IntKind.u64.wrap (-(n : Int)) = ((18446744073709551616 - n : Nat) : Int) := by
    rw [IntKind.wrap_u64]
    omega
  rw [e]
  have := u64_and_nat (18446744073709551616 - n) 31 (by omega) (by decide)
  rw [show ((31 : Nat) : Int) = 31 from rfl] at this
  rw [this]
  congr 1
  rw [Nat.and_two_pow_sub_one_eq_mod _ 5]
  omega
theorem rot_int (x n : Nat) (hx : x < lim) (h1 : n < 32) : bits .or .u32 ((x : Int) * 2 ^ (32 - n) % 4294967296) ((x : Int) / 2 ^ (32 - (32 - n))) = ((rotP n x : Nat) : Int) := by
  have := u32_or_nat (x * 2 ^ (32 - n) % 4294967296) (x / 2 ^ n) (Nat.mod_lt _ (by decide)) (Nat.lt_of_le_of_lt (Nat.div_le_self _ _) hx)
  rw [show 32 - (32 - n) = n by omega]
  rw [Int.natCast_emod, Int.natCast_mul, Int.natCast_ediv, Int.natCast_pow, Int.natCast_pow] at this
  exact this
theorem xor_int (a b : Nat) (ha : a < lim) (hb : b < lim) : bits .xor .u32 (a : Int) (b : Int) = ((a ^^^ b : Nat) : Int) := u32_xor_nat a b ha hb
theorem and_int (a b : Nat) (ha : a < lim) (hb : b < lim) : bits .and .u32 (a : Int) (b : Int) = ((a &&& b : Nat) : Int) := u32_and_nat a b ha hb
theorem or_int (a b : Nat) (ha : a < lim) (hb : b < lim) : bits .or .u32 (a : Int) (b : Int) = ((a ||| b : Nat) : Int) := u32_or_nat a b ha hb
set_option maxRecDepth 100000 in
set_option maxHeartbeats 1000000 in
theorem rot_any (x n : Nat) (w : World) (hx : x < lim) (h0 : 0 < n) (h1 : n < 32) :
    Calls Tryz.prog 139 #[.int .u32 x, .int .i64 (-(n : Int))] w fun e w' => e = .returned (.int .u32 (rotP n x : Nat)) ∧ w' = w := by
  have hA := and31 n h0 h1
  have HR : Hid (bits .or .u32 ((x : Int) * 2 ^ (32 - n) % 4294967296) ((x : Int) / 2 ^ (32 - (32 - n))) = ((rotP n x : Nat) : Int)) := rot_int x n hx h1
  obtain ⟨m, hm⟩ : ∃ m, m = 32 - n := ⟨_, rfl⟩
  rw [← hm] at hA
  have hs : IntKind.u64.wrap (32 - (m : Int)) = (n : Int) := by rw [IntKind.wrap_u64]; omega
  go_enter Tryz.func139, Tryz.ntmps139
  go_wp2_with fail
  go_ret
  exact ⟨by rw [HR.out]; rfl, rfl⟩
set_option maxRecDepth 100000 in
set_option maxHeartbeats 1000000 in
theorem turned_any (x n : Nat) (w : World) (hx : x < lim) (h0 : 0 < n) (h1 : n < 32) :
    Calls Tryz.prog 138 #[.int .u32 x, .int .i64 (n : Int)] w fun e w' => e = .returned (.int .u32 (rotP n x : Nat)) ∧ w' = w := by
  have HC : Hid (∀ w, Calls Tryz.prog 139 #[.int .u32 x, .int .i64 (-(n : Int))] w fun e w' => e = .returned (.int .u32 (rotP n x : Nat)) ∧ w' = w) := fun w => rot_any x n w hx h0 h1
  go_enter Tryz.func138, Tryz.ntmps138
  go_wp2_with fail
  refine Calls.mono (HC.out _) ?_
  rintro e w' ⟨rfl, rfl⟩
  go_wp2_with fail
  go_ret
  exact ⟨rfl, rfl⟩
set_option maxRecDepth 100000 in
set_option maxHeartbeats 1000000 in
theorem small0_any (x : Nat) (w : World) (hx : x < lim) : Calls Tryz.prog 136 #[.int .u32 x] w fun e w' => e = .returned (.int .u32 (s0P x : Nat)) ∧ w' = w := by
  have H1 : Hid (∀ w, Calls Tryz.prog 138 #[.int .u32 x, .int .i64 7] w fun e w' => e = .returned (.int .u32 (rotP 7 x : Nat)) ∧ w' = w) := fun w => turned_any x 7 w hx (by decide) (by decide)
  have H2 : Hid (∀ w, Calls Tryz.prog 138 #[.int .u32 x, .int .i64 18] w fun e w' => e = .returned (.int .u32 (rotP 18 x : Nat)) ∧ w' = w) := fun w => turned_any x 18 w hx (by decide) (by decide)
  have x1 := xor_int (rotP 7 x) (rotP 18 x) (rot_lt hx) (rot_lt hx)
  have HX : Hid (bits .xor .u32 ((rotP 7 x ^^^ rotP 18 x : Nat) : Int) ((x : Int) / 8) = ((s0P x : Nat) : Int)) := xor_int (rotP 7 x ^^^ rotP 18 x) (x / 8) (xor_lt (rot_lt hx) (rot_lt hx)) (Nat.lt_of_le_of_lt (Nat.div_le_self _ _) hx)
  generalize rotP 7 x = a at *
  generalize rotP 18 x = b at *
  generalize s0P x = r at *
  generalize a ^^^ b = ab at *
  go_enter Tryz.func136, Tryz.ntmps136
  go_wp2_with fail
  refine Calls.mono (H1.out _) ?_
  rintro e w' ⟨rfl, rfl⟩
  go_wp2_with fail
  refine Calls.mono (H2.out _) ?_
  rintro e w' ⟨rfl, rfl⟩
  go_wp2_with fail
  go_ret
  exact ⟨by rw [HX.out]; rfl, rfl⟩
set_option maxRecDepth 100000 in
set_option maxHeartbeats 1000000 in
theorem small1_any (x : Nat) (w : World) (hx : x < lim) : Calls Tryz.prog 137 #[.int .u32 x] w fun e w' => e = .returned (.int .u32 (s1P x : Nat)) ∧ w' = w := by
  have H1 : Hid (∀ w, Calls Tryz.prog 138 #[.int .u32 x, .int .i64 17] w fun e w' => e = .returned (.int .u32 (rotP 17 x : Nat)) ∧ w' = w) := fun w => turned_any x 17 w hx (by decide) (by decide)
  have H2 : Hid (∀ w, Calls Tryz.prog 138 #[.int .u32 x, .int .i64 19] w fun e w' => e = .returned (.int .u32 (rotP 19 x : Nat)) ∧ w' = w) := fun w => turned_any x 19 w hx (by decide) (by decide)
  have x1 := xor_int (rotP 17 x) (rotP 19 x) (rot_lt hx) (rot_lt hx)
  have HX : Hid (bits .xor .u32 ((rotP 17 x ^^^ rotP 19 x : Nat) : Int) ((x : Int) / 1024) = ((s1P x : Nat) : Int)) := xor_int (rotP 17 x ^^^ rotP 19 x) (x / 1024) (xor_lt (rot_lt hx) (rot_lt hx)) (Nat.lt_of_le_of_lt (Nat.div_le_self _ _) hx)
  generalize rotP 17 x = a at *
  generalize rotP 19 x = b at *
  generalize s1P x = r at *
  generalize a ^^^ b = ab at *
  go_enter Tryz.func137, Tryz.ntmps137
  go_wp2_with fail
  refine Calls.mono (H1.out _) ?_
  rintro e w' ⟨rfl, rfl⟩
  go_wp2_with fail
  refine Calls.mono (H2.out _) ?_
  rintro e w' ⟨rfl, rfl⟩
  go_wp2_with fail
  go_ret
  exact ⟨by rw [HX.out]; rfl, rfl⟩
set_option maxRecDepth 100000 in
set_option maxHeartbeats 1000000 in
theorem great0_any (x : Nat) (w : World) (hx : x < lim) : Calls Tryz.prog 130 #[.int .u32 x] w fun e w' => e = .returned (.int .u32 (g0P x : Nat)) ∧ w' = w := by
  have H1 : Hid (∀ w, Calls Tryz.prog 138 #[.int .u32 x, .int .i64 2] w fun e w' => e = .returned (.int .u32 (rotP 2 x : Nat)) ∧ w' = w) := fun w => turned_any x 2 w hx (by decide) (by decide)
  have H2 : Hid (∀ w, Calls Tryz.prog 138 #[.int .u32 x, .int .i64 13] w fun e w' => e = .returned (.int .u32 (rotP 13 x : Nat)) ∧ w' = w) := fun w => turned_any x 13 w hx (by decide) (by decide)
  have H3 : Hid (∀ w, Calls Tryz.prog 138 #[.int .u32 x, .int .i64 22] w fun e w' => e = .returned (.int .u32 (rotP 22 x : Nat)) ∧ w' = w) := fun w => turned_any x 22 w hx (by decide) (by decide)
  have x1 := xor_int (rotP 2 x) (rotP 13 x) (rot_lt hx) (rot_lt hx)
  have HX : Hid (bits .xor .u32 ((rotP 2 x ^^^ rotP 13 x : Nat) : Int) (rotP 22 x : Nat) = ((g0P x : Nat) : Int)) := xor_int (rotP 2 x ^^^ rotP 13 x) (rotP 22 x) (xor_lt (rot_lt hx) (rot_lt hx)) (rot_lt hx)
  generalize rotP 2 x = a at *
  generalize rotP 13 x = b at *
  generalize rotP 22 x = c at *
  generalize g0P x = r at *
  generalize a ^^^ b = ab at *
  go_enter Tryz.func130, Tryz.ntmps130
  go_wp2_with fail
  refine Calls.mono (H1.out _) ?_
  rintro e w' ⟨rfl, rfl⟩
  go_wp2_with fail
  refine Calls.mono (H2.out _) ?_
  rintro e w' ⟨rfl, rfl⟩
  go_wp2_with fail
  refine Calls.mono (H3.out _) ?_
  rintro e w' ⟨rfl, rfl⟩
  go_wp2_with fail
  go_ret
  exact ⟨by rw [HX.out]; rfl, rfl⟩
set_option maxRecDepth 100000 in
set_option maxHeartbeats 1000000 in
theorem great1_any (x : Nat) (w : World) (hx : x < lim) : Calls Tryz.prog 128 #[.int .u32 x] w fun e w' => e = .returned (.int .u32 (g1P x : Nat)) ∧ w' = w := by
  have H1 : Hid (∀ w, Calls Tryz.prog 138 #[.int .u32 x, .int .i64 6] w fun e w' => e = .returned (.int .u32 (rotP 6 x : Nat)) ∧ w' = w) := fun w => turned_any x 6 w hx (by decide) (by decide)
  have H2 : Hid (∀ w, Calls Tryz.prog 138 #[.int .u32 x, .int .i64 11] w fun e w' => e = .returned (.int .u32 (rotP 11 x : Nat)) ∧ w' = w) := fun w => turned_any x 11 w hx (by decide) (by decide)
  have H3 : Hid (∀ w, Calls Tryz.prog 138 #[.int .u32 x, .int .i64 25] w fun e w' => e = .returned (.int .u32 (rotP 25 x : Nat)) ∧ w' = w) := fun w => turned_any x 25 w hx (by decide) (by decide)
  have x1 := xor_int (rotP 6 x) (rotP 11 x) (rot_lt hx) (rot_lt hx)
  have HX : Hid (bits .xor .u32 ((rotP 6 x ^^^ rotP 11 x : Nat) : Int) (rotP 25 x : Nat) = ((g1P x : Nat) : Int)) := xor_int (rotP 6 x ^^^ rotP 11 x) (rotP 25 x) (xor_lt (rot_lt hx) (rot_lt hx)) (rot_lt hx)
  generalize rotP 6 x = a at *
  generalize rotP 11 x = b at *
  generalize rotP 25 x = c at *
  generalize g1P x = r at *
  generalize a ^^^ b = ab at *
  go_enter Tryz.func128, Tryz.ntmps128
  go_wp2_with fail
  refine Calls.mono (H1.out _) ?_
  rintro e w' ⟨rfl, rfl⟩
  go_wp2_with fail
  refine Calls.mono (H2.out _) ?_
  rintro e w' ⟨rfl, rfl⟩
  go_wp2_with fail
  refine Calls.mono (H3.out _) ?_
  rintro e w' ⟨rfl, rfl⟩
  go_wp2_with fail
  go_ret
  exact ⟨by rw [HX.out]; rfl, rfl⟩
theorem not_lt {e : Nat} (he : e < lim) : 4294967295 ^^^ e < lim := xor_lt (by decide) he
set_option maxRecDepth 100000 in
set_option maxHeartbeats 1000000 in
theorem chosen_any (e f g : Nat) (w : World) (he : e < lim) (hf : f < lim) (hg : g < lim) : Calls Tryz.prog 129 #[.int .u32 e, .int .u32 f, .int .u32 g] w fun r w' => r = .returned (.int .u32 (chP e f g : Nat)) ∧ w' = w := by
  have x1 := and_int e f he hf
  have x2 : bits .xor .u32 IntKind.u32.max (e : Int) = ((4294967295 ^^^ e : Nat) : Int) := xor_int 4294967295 e (by decide) he
  have x3 := and_int (4294967295 ^^^ e) g (not_lt he) hg
  have x4 : bits .or .u32 ((e &&& f : Nat) : Int) (((4294967295 ^^^ e) &&& g : Nat) : Int) = ((chP e f g : Nat) : Int) := or_int (e &&& f) ((4294967295 ^^^ e) &&& g) (and_lt hf) (and_lt hg)
  generalize chP e f g = r at *
  generalize e &&& f = ef at *
  generalize 4294967295 ^^^ e = ne at *
  generalize ne &&& g = ng at *
  go_enter Tryz.func129, Tryz.ntmps129
  go_wp2_with fail
  go_ret
  exact ⟨rfl, rfl⟩
set_option maxRecDepth 100000 in
set_option maxHeartbeats 1000000 in
theorem most_any (a b c : Nat) (w : World) (ha : a < lim) (hb : b < lim) (hc : c < lim) : Calls Tryz.prog 131 #[.int .u32 a, .int .u32 b, .int .u32 c] w fun r w' => r = .returned (.int .u32 (mjP a b c : Nat)) ∧ w' = w := by
  have x1 := and_int a b ha hb
  have x2 := and_int a c ha hc
  have x3 := and_int b c hb hc
  have x4 := or_int (a &&& b) (a &&& c) (and_lt hb) (and_lt hc)
  have x5 : bits .or .u32 (((a &&& b) ||| (a &&& c) : Nat) : Int) ((b &&& c : Nat) : Int) = ((mjP a b c : Nat) : Int) := or_int ((a &&& b) ||| (a &&& c)) (b &&& c) (or_lt (and_lt hb) (and_lt hc)) (and_lt hc)
  generalize mjP a b c = r at *
  generalize a &&& b = ab at *
  generalize a &&& c = ac at *
  generalize b &&& c = bc at *
  generalize ab ||| ac = abc at *
  go_enter Tryz.func131, Tryz.ntmps131
  go_wp2_with fail
  go_ret
  exact ⟨rfl, rfl⟩
end Go.Proofs.YtmbpjbghhimedaaGreatDoor
