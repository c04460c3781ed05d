/- Contracts over this translation: the document's chr and Digits. -/
import Derived.Test.YtgaopmdpcjcooaaGreatDoorQRsBase
import Derived.Lib.ItoaNum
import Derived.Laws.BytesArg
import Derived.IntWalk
import Derived.WalkSpells
namespace Go.Proofs.YtgaopmdpcjcooaaGreatDoor
open Go.RowKit
set_option linter.unusedVariables false
set_option linter.unusedSimpArgs false
theorem strOf_bytes (l : Bs) : strOfNums (l.map fun c => (c.toNat : Int)) = ⟨l.toArray⟩ := by
  have : ((l.map fun c => (c.toNat : Int)).map fun n => UInt8.ofNat n.toNat) = l := by
    rw [List.map_map]
    conv => rhs; rw [← List.map_id l]
    apply List.map_congr_left
    intro c _
    simp
  unfold strOfNums
  rw [this]
set_option maxRecDepth 100000 in
set_option maxHeartbeats 400000 in
theorem chr_any (c : UInt8) (w : World) :
    Calls Tryz.prog 91 #[.int .i64 c.toNat] w fun e w' => e = .returned (.string ⟨#[c]⟩) ∧ Below w.heap.size w w' := by
  have hm : ((c.toNat : Int) % 256) = (c.toNat : Int) := Int.emod_eq_of_lt (by omega) (by have := c.toNat_lt; omega)
  have hconv : (convert 80 9 (.slice (some ⟨w.heap.size, 0, none⟩) 1 1)).run Tryz.prog (w.alloc (.cells #[.int .u8 ((c.toNat : Int) % 256)] 5)) = .ok (.string ⟨#[c]⟩) (w.alloc (.cells #[.int .u8 ((c.toNat : Int) % 256)] 5)) := by
    have h := run_convert_bytes_arg (P := Tryz.prog) (w.alloc (.cells #[.int .u8 ((c.toNat : Int) % 256)] 5)) 80 5 Tryz.underlying80 Tryz.underlying5 w.heap.size 0 1 1 [(c.toNat : Int)] rfl (by
      intro i hi
      have e : i = 0 := by omega
      subst e
      rw [cell_of_row _ _ _ _ _ _ (heap_alloc_new w _), hm]
      rfl) 9 Tryz.underlying9
    have e : strOfNums ([c].map fun c => (c.toNat : Int)) = ⟨[c].toArray⟩ := strOf_bytes [c]
    have e2 : strOfNums [(c.toNat : Int)] = ⟨#[c]⟩ := e
    rw [e2] at h
    exact h
  clear hm
  go_enter Tryz.func91, Tryz.ntmps91
  go_wp2_with fail
  go_ret
  exact ⟨rfl, (Below.refl _ _).alloc (Nat.le_refl _) _⟩
theorem chr_at (c : UInt8) (w : World) (x : Int) (h : x = (c.toNat : Int)) :
    Calls Tryz.prog 91 #[.int .i64 x] w fun e w' => e = .returned (.string ⟨#[c]⟩) ∧ Below w.heap.size w w' := by
  subst h
  exact chr_any c w
theorem str_snoc (l : Bs) (c : UInt8) : (⟨l.toArray⟩ : ByteArray) ++ ⟨#[c]⟩ = ⟨(l ++ [c]).toArray⟩ := by
  apply ByteArray.ext
  simp [ByteArray.data_append]
theorem nDig_le (u : Nat) (h : u < 18446744073709551616) : (Lib.decDigits u).length ≤ 40 := by
  rw [Lib.decDigits_length]
  rcases Nat.lt_or_ge (Lib.nDigits u) 21 with h' | h'
  · omega
  · have h1 := Lib.lt_pow_nDigits (u / 10)
    exfalso
    have key : ∀ k v : Nat, k + 1 ≤ Lib.nDigits v → k = 0 ∨ 10 ^ k ≤ v := by
      intro k
      induction k with
      | zero => intro v _; exact Or.inl rfl
      | succ k ih =>
        intro v hv
        right
        by_cases hs : v < 10
        · rw [Lib.nDigits_small hs] at hv; omega
        · rw [Lib.nDigits_big hs] at hv
          rcases ih (v / 10) (by omega) with h0 | h0
          · subst h0; omega
          · have : 10 ^ (k + 1) = 10 ^ k * 10 := Nat.pow_succ 10 k
            omega
    rcases key 20 u (by omega) with h0 | h0
    · omega
    · omega
set_option maxRecDepth 100000 in
set_option maxHeartbeats 1000000 in
theorem rfdigits_any : ∀ (u : Nat), u < 18446744073709551616 → ∀ (w : World), Calls Tryz.prog 72 #[.int .u64 u] w fun e w' => e = .returned (.string ⟨(Lib.decDigits u).toArray⟩) ∧ Below w.heap.size w w' := by
  intro u
  induction u using Nat.strongRecOn with
  | _ u ih =>
    intro hu w
    by_cases hs : u < 10
    · have hI : (u : Int) < 10 := by omega
      obtain ⟨c, hcc⟩ : ∃ c, c = UInt8.ofNat (48 + u) := ⟨_, rfl⟩
      have HD : Hid (Lib.decDigits u = [c]) := by show _ = _; rw [hcc]; exact Lib.decDigits_one hs
      have HC : Hid ((48 + (u : Int)) = (c.toNat : Int)) := by
        show _ = _
        rw [hcc, UInt8.toNat_ofNat']
        omega
      clear hcc ih
      go_enter Tryz.func72, Tryz.ntmps72
      go_wp2_with fail
      refine Calls.mono (chr_at c w _ HC.out) ?_
      rintro e w1 ⟨rfl, b1⟩
      have HB : Hid (Below w.heap.size w w1) := b1
      clear b1
      go_wp2_with fail
      go_ret
      exact ⟨by rw [HD.out]; rfl, HB.out⟩
    · have hI : ¬ (u : Int) < 10 := by omega
      obtain ⟨c, hcc⟩ : ∃ c, c = UInt8.ofNat (48 + u % 10) := ⟨_, rfl⟩
      have HD : Hid (Lib.decDigits u = Lib.decDigits (u / 10) ++ [c]) := by
        show Lib.decDigits u = _
        rw [hcc, Lib.decDigits, dif_neg hs]
      have HC : Hid ((48 + ((u : Int) % 10)) = (c.toNat : Int)) := by
        show _ = _
        rw [hcc, UInt8.toNat_ofNat']
        omega
      have hq1 : Op.intDiv .quo .u64 (u : Int) 10 = pure (.int .u64 ((u / 10 : Nat) : Int)) := by
        have h9 := Go.IntWalk.u64_quo (u : Int) 10 (by omega)
        simp only [Op.intDiv]
        rw [if_neg (by decide), h9]
        rfl
      have hq2 : Op.intDiv .rem .u64 (u : Int) 10 = pure (.int .u64 ((u : Int) % 10)) := by
        simp only [Op.intDiv]
        rw [if_neg (by decide), Int.tmod_eq_emod_of_nonneg (by omega)]
      have HIh : Hid (∀ (w : World), Calls Tryz.prog 72 #[.int .u64 ((u : Int) / 10)] w fun e w' => e = .returned (.string ⟨(Lib.decDigits (u / 10)).toArray⟩) ∧ Below w.heap.size w w') := by
        intro w
        have h9 := ih (u / 10) (by omega) (by omega) w
        have e9 : ((u / 10 : Nat) : Int) = (u : Int) / 10 := by omega
        rw [e9] at h9
        exact h9
      have hq3 : Op.intDiv .quo .u64 (u : Int) 10 = pure (.int .u64 ((u : Int) / 10)) := by
        rw [hq1]
        have e9 : ((u / 10 : Nat) : Int) = (u : Int) / 10 := by omega
        rw [e9]
      have hl := nDig_le (u / 10) (by omega)
      clear ih hcc hq1
      go_enter Tryz.func72, Tryz.ntmps72
      go_wp2_with fail
      refine (HIh.out w).mono ?_
      rintro e w1 ⟨rfl, b1⟩
      have HB1 : Hid (Below w.heap.size w w1) := b1
      have HZl : Hid ((⟨(Lib.decDigits (u / 10)).toArray⟩ : ByteArray).size ≤ 40) := by show _ ≤ _; simpa [ByteArray.size] using hl
      have HS : Hid ((⟨(Lib.decDigits (u / 10)).toArray⟩ : ByteArray) ++ ⟨#[c]⟩ = ⟨(Lib.decDigits u).toArray⟩) := by
        show _ = _
        rw [HD.out, str_snoc]
      clear b1 hl
      generalize (⟨(Lib.decDigits (u / 10)).toArray⟩ : ByteArray) = x at *
      go_wp2_with fail
      refine Calls.mono (chr_at c w1 _ HC.out) ?_
      rintro e w2 ⟨rfl, b2⟩
      have HB2 : Hid (Below w.heap.size w w2) := HB1.out.trans (b2.mono HB1.out.size)
      have hz := HZl.out
      have q1 : ¬ 9223372036854775807 < x.size + 1 := by omega
      clear b2
      go_wp2_with fail
      go_ret
      exact ⟨by rw [← HS.out]; rfl, HB2.out⟩
set_option maxRecDepth 100000 in
set_option maxHeartbeats 1000000 in
theorem rfDigits_any (i : Int) (h1 : -9223372036854775808 ≤ i) (h2 : i ≤ 9223372036854775807) (w : World) : Calls Tryz.prog 43 #[.int .i64 i] w fun e w' => e = .returned (.string ⟨(Lib.itoa i).toArray⟩) ∧ Below w.heap.size w w' := by
  by_cases hn : i < 0
  · have HD : Hid (Lib.itoa i = 45 :: Lib.decDigits i.natAbs) := by show Lib.itoa i = _; rw [Lib.itoa, if_pos hn]
    have hl := nDig_le i.natAbs (by omega)
    have HW : Hid (IntKind.u64.wrap (-IntKind.u64.wrap i) = (i.natAbs : Int)) := by
      show _ = _
      first
        | (rw [IntKind.wrap_u64, IntKind.wrap_u64]; omega)
        | (simp only [IntKind.wrap]; simp; omega)
    go_enter Tryz.func43, Tryz.ntmps43
    go_wp2_with fail
    rw [HW.out]
    refine (rfdigits_any i.natAbs (by omega) w).mono ?_
    rintro e w1 ⟨rfl, b1⟩
    have HB1 : Hid (Below w.heap.size w w1) := b1
    have HZl : Hid ((⟨(Lib.decDigits i.natAbs).toArray⟩ : ByteArray).size ≤ 40) := by show _ ≤ _; simpa [ByteArray.size] using hl
    have HS : Hid ((⟨#[45]⟩ : ByteArray) ++ ⟨(Lib.decDigits i.natAbs).toArray⟩ = ⟨(Lib.itoa i).toArray⟩) := by
      show _ = _
      rw [HD.out]
      apply ByteArray.ext
      simp [ByteArray.data_append]
    clear b1 hl
    generalize (⟨(Lib.decDigits i.natAbs).toArray⟩ : ByteArray) = x at *
    have hz := HZl.out
    have q1 : ¬ 9223372036854775807 < 1 + x.size := by omega
    go_wp2_with fail
    go_ret
    exact ⟨by rw [← HS.out]; rfl, HB1.out⟩
  · have HD : Hid (Lib.itoa i = Lib.decDigits i.toNat) := by show Lib.itoa i = _; rw [Lib.itoa, if_neg hn]
    have HI : Hid ((i.toNat : Int) = i) := by show _ = _; omega
    have h9 := rfdigits_any i.toNat (by omega) w
    rw [HI.out] at h9
    have H9 : Hid (Calls Tryz.prog 72 #[.int .u64 i] w fun e w' => e = .returned (.string ⟨(Lib.decDigits i.toNat).toArray⟩) ∧ Below w.heap.size w w') := h9
    clear h9
    go_enter Tryz.func43, Tryz.ntmps43
    go_wp2_with fail
    refine Calls.mono H9.out ?_
    rintro e w1 ⟨rfl, b1⟩
    have HB1 : Hid (Below w.heap.size w w1) := b1
    rw [← HD.out]
    obtain ⟨x, hx⟩ : ∃ x, x = (⟨(Lib.itoa i).toArray⟩ : ByteArray) := ⟨_, rfl⟩
    rw [← hx]
    have HXx : Hid (x = (⟨(Lib.itoa i).toArray⟩ : ByteArray)) := hx
    clear b1 hx
    go_wp2_with fail
    go_ret
    exact ⟨by rw [← HXx.out]; rfl, HB1.out⟩
end Go.Proofs.YtgaopmdpcjcooaaGreatDoor
