/- The well-known ones, reckoned; walks over this translation: SealKnown, SealLong. -/
import Derived.Test.YtkeganpaiaebfaaDoorSlMac
import Derived.Test.YtkeganpaiaebfaaDoorSlHex
import Derived.Lib.Repeat
namespace Go.Proofs.YtkeganpaiaebfaaDoor
open Go.RowKit
set_option linter.unusedVariables false
set_option linter.unusedSimpArgs false
section
set_option maxRecDepth 1000000
theorem known_empty : hexP (sumP []) = [101, 51, 98, 48, 99, 52, 52, 50, 57, 56, 102, 99, 49, 99, 49, 52, 57, 97, 102, 98, 102, 52, 99, 56, 57, 57, 54, 102, 98, 57, 50, 52, 50, 55, 97, 101, 52, 49, 101, 52, 54, 52, 57, 98, 57, 51, 52, 99, 97, 52, 57, 53, 57, 57, 49, 98, 55, 56, 53, 50, 98, 56, 53, 53] := by decide +kernel
theorem known_abc : hexP (sumP [97, 98, 99]) = [98, 97, 55, 56, 49, 54, 98, 102, 56, 102, 48, 49, 99, 102, 101, 97, 52, 49, 52, 49, 52, 48, 100, 101, 53, 100, 97, 101, 50, 50, 50, 51, 98, 48, 48, 51, 54, 49, 97, 51, 57, 54, 49, 55, 55, 97, 57, 99, 98, 52, 49, 48, 102, 102, 54, 49, 102, 50, 48, 48, 49, 53, 97, 100] := by decide +kernel
theorem known_mac : hexP (macP [74, 101, 102, 101] [119, 104, 97, 116, 32, 100, 111, 32, 121, 97, 32, 119, 97, 110, 116, 32, 102, 111, 114, 32, 110, 111, 116, 104, 105, 110, 103, 63]) = [53, 98, 100, 99, 99, 49, 52, 54, 98, 102, 54, 48, 55, 53, 52, 101, 54, 97, 48, 52, 50, 52, 50, 54, 48, 56, 57, 53, 55, 53, 99, 55, 53, 97, 48, 48, 51, 102, 48, 56, 57, 100, 50, 55, 51, 57, 56, 51, 57, 100, 101, 99, 53, 56, 98, 57, 54, 52, 101, 99, 51, 56, 52, 51] := by decide +kernel
end
theorem macP_length (key s : Bs) : (macP key s).length = 32 := by
  unfold macP macK
  split <;> exact sumP_length _
theorem mac_long (key s : Bs) (h : key.length > 64) : macP key s = macP (sumP key) s := by
  rw [macP, if_pos h, macP, if_neg (by rw [sumP_length]; decide)]
theorem over_zeros (key : Bs) (n : Nat) (h : key.length + n = 64) : keyP (key ++ List.replicate n 0) = keyP key := by
  unfold keyP over
  simp only [List.take_zero, List.nil_append, Nat.zero_add, List.length_append, List.length_replicate, List.drop_replicate, h, Nat.sub_self, List.replicate_zero, List.append_nil]
  rw [show 64 - key.length = n by omega]
theorem mac_zeros (key s : Bs) (h : ¬ key.length > 64) : macP (key ++ List.replicate (64 - key.length) 0) s = macP key s := by
  rw [macP, if_neg (by rw [List.length_append, List.length_replicate]; omega), macP, if_neg h, macK, macK, over_zeros key _ (by omega)]
set_option maxRecDepth 100000 in
set_option maxHeartbeats 8000000 in
theorem known_walk (s : Bs) (w : World) (hs : s.length ≤ 1048576) (hc : Cub w) :
    Calls Tryd.prog 4 #[.string (Ba s)] w fun e w' => e = .returned (.bool true) ∧ Below w.heap.size w w' := by
  have hsz : (Ba s).size = s.length := ba_size s
  obtain ⟨x0, hx0⟩ : ∃ x, x = sumP [] := ⟨_, rfl⟩
  obtain ⟨x1, hx1⟩ : ∃ x, x = sumP [97, 98, 99] := ⟨_, rfl⟩
  obtain ⟨x2, hx2⟩ : ∃ x, x = macP [74, 101, 102, 101] [119, 104, 97, 116, 32, 100, 111, 32, 121, 97, 32, 119, 97, 110, 116, 32, 102, 111, 114, 32, 110, 111, 116, 104, 105, 110, 103, 63] := ⟨_, rfl⟩
  obtain ⟨x3, hx3⟩ : ∃ x, x = sumP s := ⟨_, rfl⟩
  obtain ⟨x4, hx4⟩ : ∃ x, x = macP s s := ⟨_, rfl⟩
  have l0 : x0.length ≤ 1048576 := by rw [hx0, sumP_length]; decide
  have l1 : x1.length ≤ 1048576 := by rw [hx1, sumP_length]; decide
  have l2 : x2.length ≤ 1048576 := by rw [hx2, macP_length]; decide
  have l3 : (Ba x3).size = 32 := by rw [ba_size, hx3, sumP_length]
  have l4 : (Ba x4).size = 32 := by rw [ba_size, hx4, macP_length]
  have l5 : (Ba (hexP s)).size = 2 * s.length := by rw [ba_size, hexP_length]
  have H0 : Hid (∀ w2, Below w.heap.size w w2 → Calls Tryd.prog 9 #[.string ⟨#[]⟩] w2 fun e w' => e = .returned (.string (Ba x0)) ∧ Below w2.heap.size w2 w') := fun w2 hb => by rw [hx0]; exact sum_any [] w2 (by unfold maxLen; decide) (hc.below hb)
  have G0 : Hid (∀ w2, Below w.heap.size w w2 → Calls Tryd.prog 13 #[.string (Ba x0)] w2 fun e w' => e = .returned (.string ⟨#[101, 51, 98, 48, 99, 52, 52, 50, 57, 56, 102, 99, 49, 99, 49, 52, 57, 97, 102, 98, 102, 52, 99, 56, 57, 57, 54, 102, 98, 57, 50, 52, 50, 55, 97, 101, 52, 49, 101, 52, 54, 52, 57, 98, 57, 51, 52, 99, 97, 52, 57, 53, 57, 57, 49, 98, 55, 56, 53, 50, 98, 56, 53, 53]⟩) ∧ Below w2.heap.size w2 w') := fun w2 hb => by
    have h := hex_any x0 w2 l0
    rw [hx0, known_empty] at h
    rw [hx0]
    exact h
  have H1 : Hid (∀ w2, Below w.heap.size w w2 → Calls Tryd.prog 9 #[.string ⟨#[97, 98, 99]⟩] w2 fun e w' => e = .returned (.string (Ba x1)) ∧ Below w2.heap.size w2 w') := fun w2 hb => by rw [hx1]; exact sum_any [97, 98, 99] w2 (by unfold maxLen; decide) (hc.below hb)
  have G1 : Hid (∀ w2, Below w.heap.size w w2 → Calls Tryd.prog 13 #[.string (Ba x1)] w2 fun e w' => e = .returned (.string ⟨#[98, 97, 55, 56, 49, 54, 98, 102, 56, 102, 48, 49, 99, 102, 101, 97, 52, 49, 52, 49, 52, 48, 100, 101, 53, 100, 97, 101, 50, 50, 50, 51, 98, 48, 48, 51, 54, 49, 97, 51, 57, 54, 49, 55, 55, 97, 57, 99, 98, 52, 49, 48, 102, 102, 54, 49, 102, 50, 48, 48, 49, 53, 97, 100]⟩) ∧ Below w2.heap.size w2 w') := fun w2 hb => by
    have h := hex_any x1 w2 l1
    rw [hx1, known_abc] at h
    rw [hx1]
    exact h
  have H2 : Hid (∀ w2, Below w.heap.size w w2 → Calls Tryd.prog 11 #[.string ⟨#[74, 101, 102, 101]⟩, .string ⟨#[119, 104, 97, 116, 32, 100, 111, 32, 121, 97, 32, 119, 97, 110, 116, 32, 102, 111, 114, 32, 110, 111, 116, 104, 105, 110, 103, 63]⟩] w2 fun e w' => e = .returned (.string (Ba x2)) ∧ Below w2.heap.size w2 w') := fun w2 hb => by rw [hx2]; exact mac_any [74, 101, 102, 101] [119, 104, 97, 116, 32, 100, 111, 32, 121, 97, 32, 119, 97, 110, 116, 32, 102, 111, 114, 32, 110, 111, 116, 104, 105, 110, 103, 63] w2 (by unfold maxLen; decide) (by unfold maxLen; decide) (hc.below hb)
  have G2 : Hid (∀ w2, Below w.heap.size w w2 → Calls Tryd.prog 13 #[.string (Ba x2)] w2 fun e w' => e = .returned (.string ⟨#[53, 98, 100, 99, 99, 49, 52, 54, 98, 102, 54, 48, 55, 53, 52, 101, 54, 97, 48, 52, 50, 52, 50, 54, 48, 56, 57, 53, 55, 53, 99, 55, 53, 97, 48, 48, 51, 102, 48, 56, 57, 100, 50, 55, 51, 57, 56, 51, 57, 100, 101, 99, 53, 56, 98, 57, 54, 52, 101, 99, 51, 56, 52, 51]⟩) ∧ Below w2.heap.size w2 w') := fun w2 hb => by
    have h := hex_any x2 w2 l2
    rw [hx2, known_mac] at h
    rw [hx2]
    exact h
  have H3 : Hid (∀ w2, Below w.heap.size w w2 → Calls Tryd.prog 9 #[.string (Ba s)] w2 fun e w' => e = .returned (.string (Ba x3)) ∧ Below w2.heap.size w2 w') := fun w2 hb => by rw [hx3]; exact sum_any s w2 (by unfold maxLen; omega) (hc.below hb)
  have H4 : Hid (∀ w2, Below w.heap.size w w2 → Calls Tryd.prog 11 #[.string (Ba s), .string (Ba s)] w2 fun e w' => e = .returned (.string (Ba x4)) ∧ Below w2.heap.size w2 w') := fun w2 hb => by rw [hx4]; exact mac_any s s w2 (by unfold maxLen; omega) (by unfold maxLen; omega) (hc.below hb)
  have H5 : Hid (∀ w2, Below w.heap.size w w2 → Calls Tryd.prog 13 #[.string (Ba s)] w2 fun e w' => e = .returned (.string (Ba (hexP s))) ∧ Below w2.heap.size w2 w') := fun w2 hb => hex_any s w2 hs
  have HB0 : Hid (Below w.heap.size w w) := Below.refl _ _
  have hm : IntKind.i64.wrap (2 * (s.length : Int)) = 2 * (s.length : Int) := by rw [IntKind.wrap_i64]; omega
  clear hc l0 l1 l2 hx0 hx1 hx2 hx3 hx4
  generalize Ba (hexP s) = y5 at *
  generalize Ba x3 = y3 at *
  generalize Ba x4 = y4 at *
  generalize Ba x0 = y0 at *
  generalize Ba x1 = y1 at *
  generalize Ba x2 = y2 at *
  generalize Ba s = sB at *
  go_enter Tryd.func4, Tryd.ntmps4
  go_wp2_with fail
  refine Calls.mono (H0.out _ HB0.out) ?_
  rintro e w1 ⟨rfl, b1⟩
  have HB1 : Hid (Below w.heap.size w w1) := HB0.out.trans (b1.mono HB0.out.size)
  clear b1
  go_wp2_with fail
  refine Calls.mono (G0.out _ HB1.out) ?_
  rintro e w2 ⟨rfl, b2⟩
  have HB2 : Hid (Below w.heap.size w w2) := HB1.out.trans (b2.mono HB1.out.size)
  clear b2
  go_wp2_with fail
  refine Calls.mono (H1.out _ HB2.out) ?_
  rintro e w3 ⟨rfl, b3⟩
  have HB3 : Hid (Below w.heap.size w w3) := HB2.out.trans (b3.mono HB2.out.size)
  clear b3
  go_wp2_with fail
  refine Calls.mono (G1.out _ HB3.out) ?_
  rintro e w4 ⟨rfl, b4⟩
  have HB4 : Hid (Below w.heap.size w w4) := HB3.out.trans (b4.mono HB3.out.size)
  clear b4
  go_wp2_with fail
  refine Calls.mono (H2.out _ HB4.out) ?_
  rintro e w5 ⟨rfl, b5⟩
  have HB5 : Hid (Below w.heap.size w w5) := HB4.out.trans (b5.mono HB4.out.size)
  clear b5
  go_wp2_with fail
  refine Calls.mono (G2.out _ HB5.out) ?_
  rintro e w6 ⟨rfl, b6⟩
  have HB6 : Hid (Below w.heap.size w w6) := HB5.out.trans (b6.mono HB5.out.size)
  clear b6
  go_wp2_with fail
  refine Calls.mono (H3.out _ HB6.out) ?_
  rintro e w7 ⟨rfl, b7⟩
  have HB7 : Hid (Below w.heap.size w w7) := HB6.out.trans (b7.mono HB6.out.size)
  clear b7
  go_wp2_with fail
  refine Calls.mono (H4.out _ HB7.out) ?_
  rintro e w8 ⟨rfl, b8⟩
  have HB8 : Hid (Below w.heap.size w w8) := HB7.out.trans (b8.mono HB7.out.size)
  clear b8
  go_wp2_with fail
  refine Calls.mono (H5.out _ HB8.out) ?_
  rintro e w9 ⟨rfl, b9⟩
  have HB9 : Hid (Below w.heap.size w w9) := HB8.out.trans (b9.mono HB8.out.size)
  clear b9
  go_wp2_with fail
  go_ret
  exact ⟨by simp, HB9.out⟩
set_option maxRecDepth 100000 in
set_option maxHeartbeats 8000000 in
theorem long_walk (key s : Bs) (w : World) (hk : key.length ≤ 140737488355328) (hs : s.length ≤ 140737488355328) (hc : Cub w) :
    Calls Tryd.prog 6 #[.string (Ba key), .string (Ba s)] w fun e w' => e = .returned (.bool true) ∧ Below w.heap.size w w' := by
  have hks : (Ba key).size = key.length := ba_size key
  obtain ⟨x1, hx1⟩ : ∃ x, x = sumP [97, 98, 99] := ⟨_, rfl⟩
  have l1 : x1.length ≤ 1048576 := by rw [hx1, sumP_length]; decide
  obtain ⟨m, hm⟩ : ∃ m, m = macP key s := ⟨_, rfl⟩
  have H1 : Hid (∀ w2, Below w.heap.size w w2 → Calls Tryd.prog 9 #[.string ⟨#[97, 98, 99]⟩] w2 fun e w' => e = .returned (.string (Ba x1)) ∧ Below w2.heap.size w2 w') := fun w2 hb => by rw [hx1]; exact sum_any [97, 98, 99] w2 (by unfold maxLen; decide) (hc.below hb)
  have G1 : Hid (∀ w2, Below w.heap.size w w2 → Calls Tryd.prog 13 #[.string (Ba x1)] w2 fun e w' => e = .returned (.string ⟨#[98, 97, 55, 56, 49, 54, 98, 102, 56, 102, 48, 49, 99, 102, 101, 97, 52, 49, 52, 49, 52, 48, 100, 101, 53, 100, 97, 101, 50, 50, 50, 51, 98, 48, 48, 51, 54, 49, 97, 51, 57, 54, 49, 55, 55, 97, 57, 99, 98, 52, 49, 48, 102, 102, 54, 49, 102, 50, 48, 48, 49, 53, 97, 100]⟩) ∧ Below w2.heap.size w2 w') := fun w2 hb => by
    have h := hex_any x1 w2 l1
    rw [hx1, known_abc] at h
    rw [hx1]
    exact h
  have HM : Hid (∀ w2, Below w.heap.size w w2 → Calls Tryd.prog 11 #[.string (Ba key), .string (Ba s)] w2 fun e w' => e = .returned (.string (Ba m)) ∧ Below w2.heap.size w2 w') := fun w2 hb => by rw [hm]; exact mac_any key s w2 (by unfold maxLen; omega) (by unfold maxLen; omega) (hc.below hb)
  have HB0 : Hid (Below w.heap.size w w) := Below.refl _ _
  by_cases hbig : key.length > 64
  · obtain ⟨k2, hk2⟩ : ∃ k2, k2 = sumP key := ⟨_, rfl⟩
    have hk2l : k2.length = 32 := by rw [hk2, sumP_length]
    have hbI : (64 : Int) < (key.length : Int) := by omega
    have HS : Hid (∀ w2, Below w.heap.size w w2 → Calls Tryd.prog 9 #[.string (Ba key)] w2 fun e w' => e = .returned (.string (Ba k2)) ∧ Below w2.heap.size w2 w') := fun w2 hb => by rw [hk2]; exact sum_any key w2 (by unfold maxLen; omega) (hc.below hb)
    have HN : Hid (∀ w2, Below w.heap.size w w2 → Calls Tryd.prog 11 #[.string (Ba k2), .string (Ba s)] w2 fun e w' => e = .returned (.string (Ba m)) ∧ Below w2.heap.size w2 w') := fun w2 hb => by rw [hm, mac_long key s hbig, ← hk2]; exact mac_any k2 s w2 (by unfold maxLen; omega) (by unfold maxLen; omega) (hc.below hb)
    clear hc l1 hx1 hk2 hm hk2l
    generalize Ba x1 = y1 at *
    generalize Ba m = mB at *
    generalize Ba k2 = kB at *
    generalize Ba s = sB at *
    go_enter Tryd.func6, Tryd.ntmps6
    go_wp2_with fail
    refine Calls.mono (H1.out _ HB0.out) ?_
    rintro e w1 ⟨rfl, b1⟩
    have HB1 : Hid (Below w.heap.size w w1) := HB0.out.trans (b1.mono HB0.out.size)
    clear b1
    go_wp2_with fail
    refine Calls.mono (G1.out _ HB1.out) ?_
    rintro e w2 ⟨rfl, b2⟩
    have HB2 : Hid (Below w.heap.size w w2) := HB1.out.trans (b2.mono HB1.out.size)
    clear b2
    go_wp2_with fail
    refine Calls.mono (HM.out _ HB2.out) ?_
    rintro e w3 ⟨rfl, b3⟩
    have HB3 : Hid (Below w.heap.size w w3) := HB2.out.trans (b3.mono HB2.out.size)
    clear b3
    go_wp2_with fail
    refine Calls.mono (HS.out _ HB3.out) ?_
    rintro e w4 ⟨rfl, b4⟩
    have HB4 : Hid (Below w.heap.size w w4) := HB3.out.trans (b4.mono HB3.out.size)
    clear b4
    go_wp2_with fail
    refine Calls.mono (HN.out _ HB4.out) ?_
    rintro e w5 ⟨rfl, b5⟩
    have HB5 : Hid (Below w.heap.size w w5) := HB4.out.trans (b5.mono HB4.out.size)
    clear b5
    go_wp2_with fail
    go_ret
    exact ⟨by simp, HB5.out⟩
  · have hbI : ¬ ((64 : Int) < (key.length : Int)) := by omega
    obtain ⟨n, hn⟩ : ∃ n, n = 64 - key.length := ⟨_, rfl⟩
    have hnI : IntKind.i64.wrap (64 - (key.length : Int)) = (n : Int) := by rw [IntKind.wrap_i64]; omega
    have HR : Hid (∀ w2, Below w.heap.size w w2 → Calls Tryd.prog 19 #[.string ⟨#[0]⟩, .int .i64 n] w2 fun e w' => e = .returned (.string (Ba (List.replicate n 0))) ∧ Below w2.heap.size w2 w') := fun w2 hb => by
      have h := Tryd.strings_Repeat ⟨#[0]⟩ n w2 (by omega) (by show 1 * n ≤ _; omega)
      rw [show (⟨#[0]⟩ : ByteArray).data.toList = [0] from rfl, rep_zero] at h
      exact h
    have HN : Hid (∀ w2, Below w.heap.size w w2 → Calls Tryd.prog 11 #[.string (Ba key ++ Ba (List.replicate n 0)), .string (Ba s)] w2 fun e w' => e = .returned (.string (Ba m)) ∧ Below w2.heap.size w2 w') := fun w2 hb => by rw [hm, ← mac_zeros key s hbig, ← hn, ba_append]; exact mac_any _ s w2 (by rw [List.length_append, List.length_replicate]; unfold maxLen; omega) (by unfold maxLen; omega) (hc.below hb)
    have hzs : (Ba (List.replicate n (0 : UInt8))).size = n := by rw [ba_size, List.length_replicate]
    have hn64 : n ≤ 64 := by omega
    clear hc l1 hx1 hm hn
    generalize Ba x1 = y1 at *
    generalize Ba m = mB at *
    generalize Ba s = sB at *
    generalize Ba (List.replicate n (0 : UInt8)) = zB at *
    go_enter Tryd.func6, Tryd.ntmps6
    go_wp2_with fail
    refine Calls.mono (H1.out _ HB0.out) ?_
    rintro e w1 ⟨rfl, b1⟩
    have HB1 : Hid (Below w.heap.size w w1) := HB0.out.trans (b1.mono HB0.out.size)
    clear b1
    go_wp2_with fail
    refine Calls.mono (G1.out _ HB1.out) ?_
    rintro e w2 ⟨rfl, b2⟩
    have HB2 : Hid (Below w.heap.size w w2) := HB1.out.trans (b2.mono HB1.out.size)
    clear b2
    go_wp2_with fail
    refine Calls.mono (HM.out _ HB2.out) ?_
    rintro e w3 ⟨rfl, b3⟩
    have HB3 : Hid (Below w.heap.size w w3) := HB2.out.trans (b3.mono HB2.out.size)
    clear b3
    go_wp2_with fail
    refine Calls.mono (HR.out _ HB3.out) ?_
    rintro e w4 ⟨rfl, b4⟩
    have HB4 : Hid (Below w.heap.size w w4) := HB3.out.trans (b4.mono HB3.out.size)
    clear b4
    go_wp2_with fail
    refine Calls.mono (HN.out _ HB4.out) ?_
    rintro e w5 ⟨rfl, b5⟩
    have HB5 : Hid (Below w.heap.size w w5) := HB4.out.trans (b5.mono HB4.out.size)
    clear b5
    go_wp2_with fail
    go_ret
    exact ⟨by simp, HB5.out⟩
end Go.Proofs.YtkeganpaiaebfaaDoor
