/- Walk over this translation: what is told by signs is read so, and back. -/
import Derived.Test.YtkeganpaiaebfaaSlUnhex
namespace Go.Proofs.Ytkeganpaiaebfaa
open Go.RowKit
set_option linter.unusedVariables false
set_option linter.unusedSimpArgs false
theorem byte_hx (c : UInt8) : byteP (hx (c.toNat / 16)) (hx (c.toNat % 16)) = c := by
  have hc : c.toNat < 256 := c.toNat_lt
  have h1 := dgt_hx ⟨c.toNat / 16, by omega⟩
  have h2 := dgt_hx ⟨c.toNat % 16, by omega⟩
  simp only at h1 h2
  unfold byteP
  rw [h1, h2]
  apply UInt8.toNat_inj.1
  rw [Nat.toUInt8_eq, UInt8.toNat_ofNat']
  omega
theorem unhex_hex : ∀ s : Bs, unhexP (hexP s) = some s
  | [] => rfl
  | c :: s => by
    have ih := unhex_hex s
    have hc : c.toNat < 256 := c.toNat_lt
    have h1 := dgt_hx ⟨c.toNat / 16, by omega⟩
    have h2 := dgt_hx ⟨c.toNat % 16, by omega⟩
    simp only at h1 h2
    show unhexP (hx (c.toNat / 16) :: hx (c.toNat % 16) :: hexP s) = _
    rw [unhexP, if_neg (by omega), ih, byte_hx]
    rfl
theorem hex_byte (a b : UInt8) (ha : 0 ≤ dgt a) (hb : 0 ≤ dgt b) : [hx ((byteP a b).toNat / 16), hx ((byteP a b).toNat % 16)] = [a, b] := by
  have h1 := dgt_range a
  have h2 := dgt_range b
  have hv := byte_val a b ha hb
  rw [show (byteP a b).toNat / 16 = (dgt a).toNat by omega, show (byteP a b).toNat % 16 = (dgt b).toNat by omega, h1.2.2 ha, h2.2.2 hb]
theorem hex_unhex : ∀ (t b : Bs), unhexP t = some b → hexP b = t
  | [], b, h => by
    simp only [unhexP, Option.some.injEq] at h
    subst h
    rfl
  | [_], b, h => by simp [unhexP] at h
  | x :: y :: r, b, h => by
    rw [unhexP] at h
    split at h
    · simp at h
    · rename_i hn
      obtain ⟨q, hq, rfl⟩ := Option.map_eq_some_iff.1 h
      have ih := hex_unhex r q hq
      show [hx ((byteP x y).toNat / 16), hx ((byteP x y).toNat % 16)] ++ hexP q = _
      rw [hex_byte x y (by omega) (by omega), ih]
      rfl
theorem unhex_len : ∀ (t b : Bs), unhexP t = some b → b.length ≤ t.length := fun t b h => by
  have := hex_unhex t b h
  have h2 := hexP_length b
  rw [this] at h2
  omega
set_option maxRecDepth 100000 in
set_option maxHeartbeats 4000000 in
theorem back_walk (s t : Bs) (w : World) (hs : s.length ≤ 1048576) (ht : t.length ≤ 1048576) :
    Calls Try.prog 3 #[.string (Ba s), .string (Ba t)] w fun e w' => e = .returned (.bool true) ∧ Below w.heap.size w w' := by
  have H1 : Hid (∀ w : World, Calls Try.prog 5 #[.string (Ba s)] w fun e w' => e = .returned (.string (Ba (hexP s))) ∧ Below w.heap.size w w') := fun w => hex_any s w hs
  have H2 : Hid (∀ w : World, Calls Try.prog 4 #[.string (Ba (hexP s))] w fun e w' => e = .returned (.tuple #[.string (Ba s), .int .i64 0]) ∧ Below w.heap.size w w') := fun w => by
    have h := unhex_any (hexP s) w (by rw [hexP_length]; omega)
    rw [unhexA_some (unhex_hex s)] at h
    exact h
  have H4 : Hid (∀ w : World, Calls Try.prog 4 #[.string ⟨#[65, 48]⟩] w fun e w' => e = .returned (.tuple #[.string (Ba []), .int .i64 16]) ∧ Below w.heap.size w w') := fun w => by
    have h := unhex_any [65, 48] w (by decide)
    rw [unhexA_none (by decide +kernel)] at h
    exact h
  cases hu : unhexP t with
  | none =>
    have H3 : Hid (∀ w : World, Calls Try.prog 4 #[.string (Ba t)] w fun e w' => e = .returned (.tuple #[.string (Ba []), .int .i64 16]) ∧ Below w.heap.size w w') := fun w => by
      have h := unhex_any t w (by omega)
      rw [unhexA_none hu] at h
      exact h
    generalize Ba s = sB at *
    generalize Ba t = tB at *
    generalize Ba (hexP s) = xB at *
    go_enter Try.func3, Try.ntmps3
    go_wp2_with fail
    refine Calls.mono (H1.out _) ?_
    rintro e w1 ⟨rfl, b1⟩
    have HB1 : Hid (Below w.heap.size w w1) := b1
    clear b1
    go_wp2_with fail
    refine Calls.mono (H2.out _) ?_
    rintro e w2 ⟨rfl, b2⟩
    have HB2 : Hid (Below w.heap.size w w2) := HB1.out.trans (b2.mono HB1.out.size)
    clear b2
    go_wp2_with fail
    refine Calls.mono (H3.out _) ?_
    rintro e w3 ⟨rfl, b3⟩
    have HB3 : Hid (Below w.heap.size w w3) := HB2.out.trans (b3.mono HB2.out.size)
    clear b3
    go_wp2_with fail
    refine Calls.mono (H4.out _) ?_
    rintro e w4 ⟨rfl, b4⟩
    have HB4 : Hid (Below w.heap.size w w4) := HB3.out.trans (b4.mono HB3.out.size)
    clear b4
    go_wp2_with fail
    go_ret
    exact ⟨by simp, HB4.out⟩
  | some b =>
    have hxb := hex_unhex t b hu
    have H3 : Hid (∀ w : World, Calls Try.prog 4 #[.string (Ba t)] w fun e w' => e = .returned (.tuple #[.string (Ba b), .int .i64 0]) ∧ Below w.heap.size w w') := fun w => by
      have h := unhex_any t w (by omega)
      rw [unhexA_some hu] at h
      exact h
    have H5 : Hid (∀ w : World, Calls Try.prog 5 #[.string (Ba b)] w fun e w' => e = .returned (.string (Ba t)) ∧ Below w.heap.size w w') := fun w => by
      have h := hex_any b w (by have := unhex_len t b hu; omega)
      rw [hxb] at h
      exact h
    clear hxb hu
    generalize Ba s = sB at *
    generalize Ba t = tB at *
    generalize Ba b = bB at *
    generalize Ba (hexP s) = xB at *
    go_enter Try.func3, Try.ntmps3
    go_wp2_with fail
    refine Calls.mono (H1.out _) ?_
    rintro e w1 ⟨rfl, b1⟩
    have HB1 : Hid (Below w.heap.size w w1) := b1
    clear b1
    go_wp2_with fail
    refine Calls.mono (H2.out _) ?_
    rintro e w2 ⟨rfl, b2⟩
    have HB2 : Hid (Below w.heap.size w w2) := HB1.out.trans (b2.mono HB1.out.size)
    clear b2
    go_wp2_with fail
    refine Calls.mono (H3.out _) ?_
    rintro e w3 ⟨rfl, b3⟩
    have HB3 : Hid (Below w.heap.size w w3) := HB2.out.trans (b3.mono HB2.out.size)
    clear b3
    go_wp2_with fail
    refine Calls.mono (H5.out _) ?_
    rintro e w5 ⟨rfl, b5⟩
    have HB5 : Hid (Below w.heap.size w w5) := HB3.out.trans (b5.mono HB3.out.size)
    clear b5
    go_wp2_with fail
    refine Calls.mono (H4.out _) ?_
    rintro e w4 ⟨rfl, b4⟩
    have HB4 : Hid (Below w.heap.size w w4) := HB5.out.trans (b4.mono HB5.out.size)
    clear b4
    go_wp2_with fail
    go_ret
    exact ⟨by simp, HB4.out⟩
end Go.Proofs.Ytkeganpaiaebfaa
