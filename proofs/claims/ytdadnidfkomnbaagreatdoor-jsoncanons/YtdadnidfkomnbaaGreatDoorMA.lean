/- Several texts in one: RfRead, RfDigits, RepPlain, PtrWords, PtrSteps, RfQuote, RfTell, RfCanon, DocErr, Laid, CanonsWalk. -/
import Derived.Test.YtdadnidfkomnbaaGreatDoorRfVal
import Derived.Test.YtdadnidfkomnbaaGreatDoorTop
import Derived.Test.YtdadnidfkomnbaaGreatDoorRfText
import Derived.Test.YtdadnidfkomnbaaGreatDoorRfRows
import Derived.IntWalk
import Derived.Test.YtdadnidfkomnbaaGreatDoorDoc
import Derived.Lib.Replace
import Derived.Lib.SplitLaws
import Derived.Test.YtdadnidfkomnbaaGreatDoorRestPlain
import Derived.Test.YtdadnidfkomnbaaGreatDoorShelf
import Derived.WalkKit
import Derived.WalkSpells
import Derived.BigQuiet
import Derived.Test.YtdadnidfkomnbaaGreatDoorOwnPlain
import Derived.Test.YtdadnidfkomnbaaGreatDoorTellAny
import Derived.Test.YtdadnidfkomnbaaGreatDoorDocGood
import Derived.Lib.LaidTab
import Derived.MakeChecks
/- Contract over this translation of the reference's Read: what a text has, or what is wrong with it. -/
namespace Go.Proofs.YtdadnidfkomnbaaGreatDoor
open Go.RowKit
set_option linter.unusedVariables false
set_option linter.unusedSimpArgs false
def readN (n : Nat) (s : Bs) : Except Nat (J n) :=
  if 2000 < s.length then .error eLarge
  else match value n 0 s with
    | .error e => .error e
    | .ok (j, _, r) => if skip r = [] then .ok j else .error eSyntax
theorem readN_ten (s : Bs) : readN 10 s = read s := by
  unfold readN read
  split
  · rfl
  · cases value 10 0 s <;> rfl
def RReadPost (n : Nat) (r : Except Nat (J n)) (w : World) (e : Ending) (w' : World) : Prop :=
  Below w.heap.size w w' ∧ ((∃ er : Nat, r = .error er ∧ er ≠ 0 ∧ er < 100 ∧ e = .returned (.tuple #[rfV ⟨0, false, 0, []⟩ (.slice none 0 0) (.slice none 0 0), .int .i64 er])) ∨
    ∃ (j : J n) (v : Value), r = .ok j ∧ e = .returned (.tuple #[v, .int .i64 0]) ∧ RSt (fun c => c < w.heap.size) w' n j v)
theorem skip_nil {t : ByteArray} {q : Nat} (hq : q ≤ t.size) : skip (rest t q) = [] ↔ lookOf (rest t (skipAt t q)) = -1 := by
  rw [← rest_skip t q hq]
  cases rest t (skipAt t q) with
  | nil => simp [lookOf]
  | cons c r =>
    simp only [lookOf]
    constructor
    · intro h; cases h
    · intro h; omega
theorem look_ge (r : Bs) (h : lookOf r ≠ -1) : 0 ≤ lookOf r := by
  cases r with
  | nil => exact absurd rfl h
  | cons c r => simp only [lookOf]; omega
set_option maxRecDepth 100000 in
set_option maxHeartbeats 4000000 in
theorem rfread_any (n : Nat) (hn : n = 10) (t : ByteArray) (w : World) : Calls Tryz.prog 11 #[.string t] w (RReadPost n (readN n t.data.toList) w) := by
  have HN : Hid (n = 10) := hn
  clear hn
  obtain ⟨w0, hw0⟩ : ∃ w0, w0 = w.alloc (.cells #[.int .i64 0, .bool false, .int .i64 0, .string ⟨#[]⟩, .slice none 0 0, .slice none 0 0] 29) := ⟨_, rfl⟩
  have HW0 : Hid (w0 = w.alloc (.cells #[.int .i64 0, .bool false, .int .i64 0, .string ⟨#[]⟩, .slice none 0 0, .slice none 0 0] 29)) := hw0
  have HB0 : Hid (Below w.heap.size w w0) := by show Below _ _ _; rw [hw0]; exact (Below.refl _ _).alloc (Nat.le_refl _) _
  have HZ0 : Hid (Box w0 w.heap.size ⟨0, false, 0, []⟩ (.slice none 0 0) (.slice none 0 0)) := by show Box _ _ _ _ _; rw [hw0]; exact box_new w ⟨0, false, 0, []⟩ _ _
  have hs0 : w0.heap.size = w.heap.size + 1 := by rw [hw0]; simp
  have hlen : t.data.toList.length = t.size := by simp
  clear hw0
  by_cases hbig : (2000 : Int) < (t.size : Int)
  · have HX : Hid (readN n t.data.toList = .error 2) := by
      show readN _ _ = _
      unfold readN
      rw [if_pos (by rw [data_len]; omega)]
    clear hlen
    go_enter Tryz.func11, Tryz.ntmps11
    go_wp2_with fail
    rw [← HW0.out]
    exact bodyPost_ret (v := .tuple #[rfV ⟨0, false, 0, []⟩ (.slice none 0 0) (.slice none 0 0), .int .i64 2]) (by simp [results, Tryz.results11, go_sem, rfV, HZ0.out.c0, HZ0.out.c1, HZ0.out.c2, HZ0.out.c3, HZ0.out.c4, HZ0.out.c5]) rfl ⟨HB0.out, Or.inl ⟨2, HX.out, by decide, by decide, rfl⟩⟩
  have ht : t.size ≤ 2000 := by omega
  have HRd : Hid (readN n t.data.toList = match value n 0 (rest t 0) with
    | .error e => .error e
    | .ok (j, _, r) => if skip r = [] then .ok j else .error eSyntax) := by
    show readN _ _ = _
    unfold readN
    rw [if_neg (by rw [data_len]; omega), rest_zero]
  obtain ⟨w1, hw1⟩ : ∃ w1, w1 = w0.alloc (.cells #[.string t, .int .i64 0, .int .i64 0] 57) := ⟨_, rfl⟩
  have HW1 : Hid (w1 = (w.alloc (.cells #[.int .i64 0, .bool false, .int .i64 0, .string ⟨#[]⟩, .slice none 0 0, .slice none 0 0] 29)).alloc (.cells #[.string t, .int .i64 0, .int .i64 0] 57)) := by show w1 = _; rw [hw1, HW0.out]
  have HR1 : Hid (Rf (w.heap.size + 1) t 0 0 w1) := by
    show Rf _ _ _ _ _
    have := heap_alloc_new w0 (.cells #[.string t, .int .i64 0, .int .i64 0] 57)
    rw [hw1, ← hs0]
    exact this
  have HZ1 : Hid (Box w1 w.heap.size ⟨0, false, 0, []⟩ (.slice none 0 0) (.slice none 0 0)) := by show Box _ _ _ _ _; rw [hw1]; exact HZ0.out.alloc _
  have HB1 : Hid (Below w.heap.size w w1) := by show Below _ _ _; rw [hw1]; exact HB0.out.alloc (by omega) _
  have hs1 : w1.heap.size = w.heap.size + 2 := by rw [hw1]; simp; omega
  clear hw1 hlen HW0 HB0 HZ0 hs0
  go_enter Tryz.func11, Tryz.ntmps11
  go_wp2_with fail
  rw [← HW1.out]
  refine (rfvalue_any n (w.heap.size + 1) t 0 0 0 w1 HR1.out (Nat.zero_le _) ht (by omega) (by have := HN.out; omega) (by omega)).mono ?_
  rintro e w2 ⟨g2, h2⟩
  have HZ2 : Hid (Box w2 w.heap.size ⟨0, false, 0, []⟩ (.slice none 0 0) (.slice none 0 0)) := HZ1.out.grown g2 (fun e => by have := Option.some.inj e; omega)
  have HB2 : Hid (Below w.heap.size w w2) := HB1.out.grown g2 (by omega) (fun k e => by cases e; omega)
  have hs2 : w.heap.size + 2 ≤ w2.heap.size := by have := g2.size; omega
  clear g2
  rcases h2 with ⟨er, hh, hv, her, her2, rfl⟩ | ⟨j, k2, q, v, hv, hpq, hq, hkk, hk2, rfl, hR2, hst⟩
  · have HX : Hid (readN n t.data.toList = .error er) := by
      show readN _ _ = _
      rw [HRd.out, hv]
    have hbe : ((er : Int) != 0) = true := by rw [bne_iff_ne]; omega
    have hbe2 : ((er : Int) == 0) = false := by rw [beq_eq_false_iff_ne]; omega
    clear hv
    unfold rfV
    have HZ3 : Hid (∀ o, Box (w2.alloc o) w.heap.size ⟨0, false, 0, []⟩ (.slice none 0 0) (.slice none 0 0)) := fun o => HZ2.out.alloc o
    have f0 := fun o => (HZ3.out o).free 0
    have f1 := fun o => (HZ3.out o).free 1
    have f2 := fun o => (HZ3.out o).free 2
    have f3 := fun o => (HZ3.out o).free 3
    have f4 := fun o => (HZ3.out o).free 4
    have f5 := fun o => (HZ3.out o).free 5
    have z0 := fun o => (HZ3.out o).c0
    have z1 := fun o => (HZ3.out o).c1
    have z2 := fun o => (HZ3.out o).c2
    have z3 := fun o => (HZ3.out o).c3
    have z4 := fun o => (HZ3.out o).c4
    have z5 := fun o => (HZ3.out o).c5
    go_wp2_with fail
    have HZ : Hid (Box (w2.alloc (.cells #[.int .i64 hh.k, .bool hh.b, .int .i64 hh.i, .string ⟨hh.s.toArray⟩, .slice none 0 0, .slice none 0 0] 29)) w.heap.size ⟨0, false, 0, []⟩ (.slice none 0 0) (.slice none 0 0)) := HZ3.out _
    have HB3 : Hid (Below w.heap.size w (w2.alloc (.cells #[.int .i64 hh.k, .bool hh.b, .int .i64 hh.i, .string ⟨hh.s.toArray⟩, .slice none 0 0, .slice none 0 0] 29))) := HB2.out.alloc (by omega) _
    have hs3 : w.heap.size ≤ (w2.alloc (.cells #[.int .i64 hh.k, .bool hh.b, .int .i64 hh.i, .string ⟨hh.s.toArray⟩, .slice none 0 0, .slice none 0 0] 29)).heap.size := by simp; omega
    generalize w2.alloc (.cells #[.int .i64 hh.k, .bool hh.b, .int .i64 hh.i, .string ⟨hh.s.toArray⟩, .slice none 0 0, .slice none 0 0] 29) = w3 at *
    have e6 : Box (put6 w3 (w.heap.size) (.int .i64 0) (.bool false) (.int .i64 0) (.string ⟨#[]⟩) (.slice none 0 0) (.slice none 0 0)) (w.heap.size) ⟨0, false, 0, []⟩ (.slice none 0 0) (.slice none 0 0) := put6_box HZ.out ⟨0, false, 0, []⟩ (.slice none 0 0) (.slice none 0 0)
    have g6 := put6_grown w3 (w.heap.size) (.int .i64 0) (.bool false) (.int .i64 0) (.string ⟨#[]⟩) (.slice none 0 0) (.slice none 0 0)
    change bodyPost _ _ _ _ _ (put6 w3 (w.heap.size) _ _ _ _ _ _)
    generalize put6 w3 (w.heap.size) (.int .i64 0) (.bool false) (.int .i64 0) (.string ⟨#[]⟩) (.slice none 0 0) (.slice none 0 0) = W at *
    exact bodyPost_ret (v := .tuple #[rfV ⟨0, false, 0, []⟩ (.slice none 0 0) (.slice none 0 0), .int .i64 er]) (by simp [results, Tryz.results11, go_sem, rfV, e6.c0, e6.c1, e6.c2, e6.c3, e6.c4, e6.c5]) rfl ⟨HB3.out.grown g6 hs3 (fun k e => by cases e; exact Nat.le_refl _), Or.inl ⟨er, HX.out, her, her2, rfl⟩⟩
  obtain ⟨h0, nm1, l1, rfl⟩ : ∃ h nm l, v = rfV h nm l := ⟨_, rst_form hst⟩
  obtain ⟨⟨p1, n1, c1, rfl⟩, p2, n2, c2, rfl⟩ := rst_sl hst
  have HV3 : Hid (Box (w2.alloc (.cells #[.int .i64 h0.k, .bool h0.b, .int .i64 h0.i, .string ⟨h0.s.toArray⟩, .slice p1 n1 c1, .slice p2 n2 c2] 29)) w2.heap.size h0 (.slice p1 n1 c1) (.slice p2 n2 c2)) := box_new w2 _ _ _
  have HSt3 : Hid (RSt (fun c => c < w.heap.size + 2) (w2.alloc (.cells #[.int .i64 h0.k, .bool h0.b, .int .i64 h0.i, .string ⟨h0.s.toArray⟩, .slice p1 n1 c1, .slice p2 n2 c2] 29)) n j (rfV h0 (.slice p1 n1 c1) (.slice p2 n2 c2))) := (hst.wide (fun c e => Or.inl (by omega))).alloc _
  have HR3 : Hid (Rf (w.heap.size + 1) t q k2 (w2.alloc (.cells #[.int .i64 h0.k, .bool h0.b, .int .i64 h0.i, .string ⟨h0.s.toArray⟩, .slice p1 n1 c1, .slice p2 n2 c2] 29))) := hR2.alloc _
  have HZ3 : Hid (Box (w2.alloc (.cells #[.int .i64 h0.k, .bool h0.b, .int .i64 h0.i, .string ⟨h0.s.toArray⟩, .slice p1 n1 c1, .slice p2 n2 c2] 29)) w.heap.size ⟨0, false, 0, []⟩ (.slice none 0 0) (.slice none 0 0)) := HZ2.out.alloc _
  have HB3 : Hid (Below w.heap.size w (w2.alloc (.cells #[.int .i64 h0.k, .bool h0.b, .int .i64 h0.i, .string ⟨h0.s.toArray⟩, .slice p1 n1 c1, .slice p2 n2 c2] 29))) := HB2.out.alloc (by omega) _
  have hs3 : w.heap.size + 2 ≤ (w2.alloc (.cells #[.int .i64 h0.k, .bool h0.b, .int .i64 h0.i, .string ⟨h0.s.toArray⟩, .slice p1 n1 c1, .slice p2 n2 c2] 29)).heap.size := by simp; omega
  have HVal : Hid (value n 0 (rest t 0) = .ok (j, k2, rest t q)) := hv
  have hw2 : w.heap.size + 2 ≤ w2.heap.size := hs2
  clear hst hR2 hv hs2
  unfold rfV
  obtain ⟨v2, hv2⟩ : ∃ v2, v2 = w2.heap.size := ⟨_, rfl⟩
  rw [← hv2] at HV3 hw2
  go_wp2_with fail
  rw [← hv2]
  clear hv2
  generalize w2.alloc (.cells #[.int .i64 h0.k, .bool h0.b, .int .i64 h0.i, .string ⟨h0.s.toArray⟩, .slice p1 n1 c1, .slice p2 n2 c2] 29) = w3 at *
  refine (look_any (w.heap.size + 1) t q k2 w3 HR3.out hq ht).mono ?_
  rintro e w4 ⟨rfl, g4, r4⟩
  have HV4 : Hid (Box w4 v2 h0 (.slice p1 n1 c1) (.slice p2 n2 c2)) := HV3.out.grown g4 (fun e => by have := Option.some.inj e; omega)
  have HSt4 : Hid (RSt (fun c => c < w.heap.size + 2) w4 n j (rfV h0 (.slice p1 n1 c1) (.slice p2 n2 c2))) := HSt3.out.grown g4 (fun k e => by cases e; omega)
  have HZ4 : Hid (Box w4 w.heap.size ⟨0, false, 0, []⟩ (.slice none 0 0) (.slice none 0 0)) := HZ3.out.grown g4 (fun e => by have := Option.some.inj e; omega)
  have HB4 : Hid (Below w.heap.size w w4) := HB3.out.grown g4 (by omega) (fun k e => by cases e; omega)
  have hs4 : w.heap.size ≤ w4.heap.size := by have := g4.size; omega
  clear g4 r4
  by_cases hl : lookOf (rest t (skipAt t q)) = -1
  · have HX : Hid (readN n t.data.toList = .ok j) := by
      show readN _ _ = _
      rw [HRd.out, HVal.out]
      simp only []
      rw [if_pos ((skip_nil hq).2 hl)]
    rw [hl]
    clear hl
    have v0 := HV4.out.c0
    have v1 := HV4.out.c1
    have v2 := HV4.out.c2
    have v3 := HV4.out.c3
    have v4 := HV4.out.c4
    have v5 := HV4.out.c5
    have f0 := HZ4.out.free 0
    have f1 := HZ4.out.free 1
    have f2 := HZ4.out.free 2
    have f3 := HZ4.out.free 3
    have f4 := HZ4.out.free 4
    have f5 := HZ4.out.free 5
    have z0 := HZ4.out.c0
    have z1 := HZ4.out.c1
    have z2 := HZ4.out.c2
    have z3 := HZ4.out.c3
    have z4 := HZ4.out.c4
    have z5 := HZ4.out.c5
    go_wp2_with fail
    have e6 : Box (put6 w4 (w.heap.size) (.int .i64 (h0).k) (.bool (h0).b) (.int .i64 (h0).i) (.string ⟨(h0).s.toArray⟩) (.slice p1 n1 c1) (.slice p2 n2 c2)) (w.heap.size) (h0) (.slice p1 n1 c1) (.slice p2 n2 c2) := put6_box HZ4.out (h0) (.slice p1 n1 c1) (.slice p2 n2 c2)
    have g6 := put6_grown w4 (w.heap.size) (.int .i64 (h0).k) (.bool (h0).b) (.int .i64 (h0).i) (.string ⟨(h0).s.toArray⟩) (.slice p1 n1 c1) (.slice p2 n2 c2)
    change bodyPost _ _ _ _ _ (put6 w4 (w.heap.size) _ _ _ _ _ _)
    generalize put6 w4 (w.heap.size) (.int .i64 (h0).k) (.bool (h0).b) (.int .i64 (h0).i) (.string ⟨(h0).s.toArray⟩) (.slice p1 n1 c1) (.slice p2 n2 c2) = W at *
    exact bodyPost_ret (v := .tuple #[rfV (h0) (.slice p1 n1 c1) (.slice p2 n2 c2), .int .i64 0]) (by simp [results, Tryz.results11, go_sem, rfV, e6.c0, e6.c1, e6.c2, e6.c3, e6.c4, e6.c5]) rfl ⟨HB4.out.grown g6 hs4 (fun k e => by cases e; exact Nat.le_refl _), Or.inr ⟨j, _, HX.out, rfl, (HSt4.out.grown g6 (fun k e => by cases e; omega)).wide (fun c e => Or.inl (by omega))⟩⟩
  · have HX : Hid (readN n t.data.toList = .error 3) := by
      show readN _ _ = _
      rw [HRd.out, HVal.out]
      simp only []
      rw [if_neg (fun e => hl ((skip_nil hq).1 e))]
    have hg := look_ge _ hl
    clear hl
    generalize lookOf (rest t (skipAt t q)) = lk at *
    have f0 := HZ4.out.free 0
    have f1 := HZ4.out.free 1
    have f2 := HZ4.out.free 2
    have f3 := HZ4.out.free 3
    have f4 := HZ4.out.free 4
    have f5 := HZ4.out.free 5
    have z0 := HZ4.out.c0
    have z1 := HZ4.out.c1
    have z2 := HZ4.out.c2
    have z3 := HZ4.out.c3
    have z4 := HZ4.out.c4
    have z5 := HZ4.out.c5
    go_wp2_with fail
    have e6 : Box (put6 w4 (w.heap.size) (.int .i64 0) (.bool false) (.int .i64 0) (.string ⟨#[]⟩) (.slice none 0 0) (.slice none 0 0)) (w.heap.size) ⟨0, false, 0, []⟩ (.slice none 0 0) (.slice none 0 0) := put6_box HZ4.out ⟨0, false, 0, []⟩ (.slice none 0 0) (.slice none 0 0)
    have g6 := put6_grown w4 (w.heap.size) (.int .i64 0) (.bool false) (.int .i64 0) (.string ⟨#[]⟩) (.slice none 0 0) (.slice none 0 0)
    change bodyPost _ _ _ _ _ (put6 w4 (w.heap.size) _ _ _ _ _ _)
    generalize put6 w4 (w.heap.size) (.int .i64 0) (.bool false) (.int .i64 0) (.string ⟨#[]⟩) (.slice none 0 0) (.slice none 0 0) = W at *
    exact bodyPost_ret (v := .tuple #[rfV ⟨0, false, 0, []⟩ (.slice none 0 0) (.slice none 0 0), .int .i64 3]) (by simp [results, Tryz.results11, go_sem, rfV, e6.c0, e6.c1, e6.c2, e6.c3, e6.c4, e6.c5]) rfl ⟨HB4.out.grown g6 hs4 (fun k e => by cases e; exact Nat.le_refl _), Or.inl ⟨3, HX.out, by decide, by decide, rfl⟩⟩
end Go.Proofs.YtdadnidfkomnbaaGreatDoor
/- Contract over this translation of the reference's Digits. -/
namespace Go.Proofs.YtdadnidfkomnbaaGreatDoor
open Go.RowKit
set_option linter.unusedVariables false
set_option linter.unusedSimpArgs false
theorem nDig_le (u : Nat) (h : u < 18446744073709551616) : (Lib.decDigits u).length ≤ 40 := by
  rw [Lib.decDigits_length]
  rcases Nat.lt_or_ge (Lib.nDigits u) 21 with h' | h'
  · omega
  · have h1 := Lib.lt_pow_nDigits (u / 10)
    exfalso
    have key : ∀ k v : Nat, k + 1 ≤ Lib.nDigits v → k = 0 ∨ 10 ^ k ≤ v := by
      intro k
      induction k with
      | zero => intro v _; exact Or.inl rfl
      | succ k ih =>
        intro v hv
        right
        by_cases hs : v < 10
        · rw [Lib.nDigits_small hs] at hv; omega
        · rw [Lib.nDigits_big hs] at hv
          rcases ih (v / 10) (by omega) with h0 | h0
          · subst h0; omega
          · have : 10 ^ (k + 1) = 10 ^ k * 10 := Nat.pow_succ 10 k
            omega
    rcases key 20 u (by omega) with h0 | h0
    · omega
    · omega
set_option maxRecDepth 100000 in
set_option maxHeartbeats 1000000 in
theorem rfdigits_any : ∀ (u : Nat), u < 18446744073709551616 → ∀ (w : World), Calls Tryz.prog 94 #[.int .u64 u] w fun e w' => e = .returned (.string ⟨(Lib.decDigits u).toArray⟩) ∧ Below w.heap.size w w' := by
  intro u
  induction u using Nat.strongRecOn with
  | _ u ih =>
    intro hu w
    by_cases hs : u < 10
    · have hI : (u : Int) < 10 := by omega
      obtain ⟨c, hcc⟩ : ∃ c, c = UInt8.ofNat (48 + u) := ⟨_, rfl⟩
      have HD : Hid (Lib.decDigits u = [c]) := by show _ = _; rw [hcc]; exact Lib.decDigits_one hs
      have HC : Hid ((48 + (u : Int)) = (c.toNat : Int)) := by
        show _ = _
        rw [hcc, UInt8.toNat_ofNat']
        omega
      clear hcc ih
      go_enter Tryz.func94, Tryz.ntmps94
      go_wp2_with fail
      refine Calls.mono (chr_at c w _ HC.out) ?_
      rintro e w1 ⟨rfl, b1⟩
      have HB : Hid (Below w.heap.size w w1) := b1
      clear b1
      go_wp2_with fail
      go_ret
      exact ⟨by rw [HD.out]; rfl, HB.out⟩
    · have hI : ¬ (u : Int) < 10 := by omega
      obtain ⟨c, hcc⟩ : ∃ c, c = UInt8.ofNat (48 + u % 10) := ⟨_, rfl⟩
      have HD : Hid (Lib.decDigits u = Lib.decDigits (u / 10) ++ [c]) := by
        show Lib.decDigits u = _
        rw [hcc, Lib.decDigits, dif_neg hs]
      have HC : Hid ((48 + ((u : Int) % 10)) = (c.toNat : Int)) := by
        show _ = _
        rw [hcc, UInt8.toNat_ofNat']
        omega
      have hq1 : Op.intDiv .quo .u64 (u : Int) 10 = pure (.int .u64 ((u / 10 : Nat) : Int)) := by
        have h9 := Go.IntWalk.u64_quo (u : Int) 10 (by omega)
        simp only [Op.intDiv]
        rw [if_neg (by decide), h9]
        rfl
      have hq2 : Op.intDiv .rem .u64 (u : Int) 10 = pure (.int .u64 ((u : Int) % 10)) := by
        simp only [Op.intDiv]
        rw [if_neg (by decide), Int.tmod_eq_emod_of_nonneg (by omega)]
      have HIh : Hid (∀ (w : World), Calls Tryz.prog 94 #[.int .u64 ((u : Int) / 10)] w fun e w' => e = .returned (.string ⟨(Lib.decDigits (u / 10)).toArray⟩) ∧ Below w.heap.size w w') := by
        intro w
        have h9 := ih (u / 10) (by omega) (by omega) w
        have e9 : ((u / 10 : Nat) : Int) = (u : Int) / 10 := by omega
        rw [e9] at h9
        exact h9
      have hq3 : Op.intDiv .quo .u64 (u : Int) 10 = pure (.int .u64 ((u : Int) / 10)) := by
        rw [hq1]
        have e9 : ((u / 10 : Nat) : Int) = (u : Int) / 10 := by omega
        rw [e9]
      have hl := nDig_le (u / 10) (by omega)
      clear ih hcc hq1
      go_enter Tryz.func94, Tryz.ntmps94
      go_wp2_with fail
      refine (HIh.out w).mono ?_
      rintro e w1 ⟨rfl, b1⟩
      have HB1 : Hid (Below w.heap.size w w1) := b1
      have HZl : Hid ((⟨(Lib.decDigits (u / 10)).toArray⟩ : ByteArray).size ≤ 40) := by show _ ≤ _; simpa [ByteArray.size] using hl
      have HS : Hid ((⟨(Lib.decDigits (u / 10)).toArray⟩ : ByteArray) ++ ⟨#[c]⟩ = ⟨(Lib.decDigits u).toArray⟩) := by
        show _ = _
        rw [HD.out, str_snoc]
      clear b1 hl
      generalize (⟨(Lib.decDigits (u / 10)).toArray⟩ : ByteArray) = x at *
      go_wp2_with fail
      refine Calls.mono (chr_at c w1 _ HC.out) ?_
      rintro e w2 ⟨rfl, b2⟩
      have HB2 : Hid (Below w.heap.size w w2) := HB1.out.trans (b2.mono HB1.out.size)
      have hz := HZl.out
      have q1 : ¬ 9223372036854775807 < x.size + 1 := by omega
      clear b2
      go_wp2_with fail
      go_ret
      exact ⟨by rw [← HS.out]; rfl, HB2.out⟩
set_option maxRecDepth 100000 in
set_option maxHeartbeats 1000000 in
theorem rfDigits_any (i : Int) (h1 : -9223372036854775808 ≤ i) (h2 : i ≤ 9223372036854775807) (w : World) : Calls Tryz.prog 55 #[.int .i64 i] w fun e w' => e = .returned (.string ⟨(Lib.itoa i).toArray⟩) ∧ Below w.heap.size w w' := by
  by_cases hn : i < 0
  · have HD : Hid (Lib.itoa i = 45 :: Lib.decDigits i.natAbs) := by show Lib.itoa i = _; rw [Lib.itoa, if_pos hn]
    have hl := nDig_le i.natAbs (by omega)
    have HW : Hid (IntKind.u64.wrap (-IntKind.u64.wrap i) = (i.natAbs : Int)) := by
      show _ = _
      first
        | (rw [IntKind.wrap_u64, IntKind.wrap_u64]; omega)
        | (simp only [IntKind.wrap]; simp; omega)
    go_enter Tryz.func55, Tryz.ntmps55
    go_wp2_with fail
    rw [HW.out]
    refine (rfdigits_any i.natAbs (by omega) w).mono ?_
    rintro e w1 ⟨rfl, b1⟩
    have HB1 : Hid (Below w.heap.size w w1) := b1
    have HZl : Hid ((⟨(Lib.decDigits i.natAbs).toArray⟩ : ByteArray).size ≤ 40) := by show _ ≤ _; simpa [ByteArray.size] using hl
    have HS : Hid ((⟨#[45]⟩ : ByteArray) ++ ⟨(Lib.decDigits i.natAbs).toArray⟩ = ⟨(Lib.itoa i).toArray⟩) := by
      show _ = _
      rw [HD.out]
      apply ByteArray.ext
      simp [ByteArray.data_append]
    clear b1 hl
    generalize (⟨(Lib.decDigits i.natAbs).toArray⟩ : ByteArray) = x at *
    have hz := HZl.out
    have q1 : ¬ 9223372036854775807 < 1 + x.size := by omega
    go_wp2_with fail
    go_ret
    exact ⟨by rw [← HS.out]; rfl, HB1.out⟩
  · have HD : Hid (Lib.itoa i = Lib.decDigits i.toNat) := by show Lib.itoa i = _; rw [Lib.itoa, if_neg hn]
    have HI : Hid ((i.toNat : Int) = i) := by show _ = _; omega
    have h9 := rfdigits_any i.toNat (by omega) w
    rw [HI.out] at h9
    have H9 : Hid (Calls Tryz.prog 94 #[.int .u64 i] w fun e w' => e = .returned (.string ⟨(Lib.decDigits i.toNat).toArray⟩) ∧ Below w.heap.size w w') := h9
    clear h9
    go_enter Tryz.func55, Tryz.ntmps55
    go_wp2_with fail
    refine Calls.mono H9.out ?_
    rintro e w1 ⟨rfl, b1⟩
    have HB1 : Hid (Below w.heap.size w w1) := b1
    rw [← HD.out]
    obtain ⟨x, hx⟩ : ∃ x, x = (⟨(Lib.itoa i).toArray⟩ : ByteArray) := ⟨_, rfl⟩
    rw [← hx]
    have HXx : Hid (x = (⟨(Lib.itoa i).toArray⟩ : ByteArray)) := hx
    clear b1 hx
    go_wp2_with fail
    go_ret
    exact ⟨by rw [← HXx.out]; rfl, HB1.out⟩
end Go.Proofs.YtdadnidfkomnbaaGreatDoor
/- Plain facts: texts in which all of one text is replaced by another, and texts cut at a sign, sign by sign. -/
namespace Go.Proofs.YtdadnidfkomnbaaGreatDoor
set_option linter.unusedVariables false
set_option linter.unusedSimpArgs false
theorem index_cons (b : UInt8) (l sub : Bs) (h : sub.isPrefixOf (b :: l) = false) : Lib.index (b :: l) sub = if Lib.index l sub == -1 then -1 else Lib.index l sub + 1 := by
  rw [Lib.index, h]
  simp
theorem index_pre (s sub : Bs) (h : sub.isPrefixOf s = true) (hs : s ≠ []) : Lib.index s sub = ((0 : Nat) : Int) := by
  cases s with
  | nil => exact absurd rfl hs
  | cons b l =>
    rw [Lib.index, h]
    simp
theorem index_nil (sub : Bs) (h : sub ≠ []) : Lib.index [] sub = -1 := by
  cases sub with
  | nil => exact absurd rfl h
  | cons c r => simp [Lib.index]
def rep (old new s : Bs) : Bs := Lib.replaceK old new (Lib.count s old) s
theorem replaceAll_rep (s old new : Bs) (h : old ≠ new) : Lib.replaceAll s old new = rep old new s := by
  unfold Lib.replaceAll Lib.replace rep
  rw [if_neg (by simpa using h)]
  unfold Lib.replaceNum
  rw [if_pos (Or.inl (by decide))]
theorem rep_nil (old new : Bs) (h : old ≠ []) : rep old new [] = [] := by
  unfold rep
  rw [Lib.count_miss (index_nil old h)]
  rfl
theorem rep_hit (old new s : Bs) (h : old ≠ []) (hp : old.isPrefixOf s = true) : rep old new s = new ++ rep old new (s.drop old.length) := by
  have hs : s ≠ [] := by
    rintro rfl
    cases old with
    | nil => exact h rfl
    | cons c r => simp at hp
  have hi := index_pre s old hp hs
  unfold rep
  rw [Lib.count_hit (by simpa using h) hi, Nat.zero_add, Nat.add_comm, Lib.replaceK_hit _ _ _ _ 0 hi]
  simp
theorem rep_miss (old new : Bs) (b : UInt8) (l : Bs) (h : old ≠ []) (hp : old.isPrefixOf (b :: l) = false) : rep old new (b :: l) = b :: rep old new l := by
  have hx := index_cons b l old hp
  unfold rep
  by_cases hm : Lib.index l old = -1
  · rw [Lib.count_miss hm, Lib.count_miss (by rw [hx, if_pos (beq_iff_eq.2 hm)])]
    rfl
  · have hge := Lib.index_ge l old
    obtain ⟨j, hj⟩ : ∃ j : Nat, Lib.index l old = j := ⟨(Lib.index l old).toNat, by omega⟩
    have hx' : Lib.index (b :: l) old = ((j + 1 : Nat) : Int) := by rw [hx, if_neg (fun e => hm (beq_iff_eq.1 e)), hj]; omega
    have e1 : (b :: l).drop (j + 1 + old.length) = l.drop (j + old.length) := by
      rw [show j + 1 + old.length = (j + old.length) + 1 from by omega]
      rfl
    rw [Lib.count_hit (by simpa using h) hj, Lib.count_hit (by simpa using h) hx', e1, Nat.add_comm 1, Lib.replaceK_hit _ _ _ _ (j + 1) hx', Lib.replaceK_hit _ _ _ _ j hj, e1]
    simp
/-- one sign -/
theorem rep_one (c : UInt8) (new : Bs) : ∀ s : Bs, rep [c] new s = s.flatMap fun b => if b = c then new else [b]
  | [] => rep_nil _ _ (by simp)
  | b :: l => by
    by_cases h : b = c
    · subst h
      rw [rep_hit [b] new (b :: l) (by simp) (by simp), List.flatMap_cons, if_pos rfl]
      simp only [List.length_singleton, List.drop_succ_cons, List.drop_zero]
      rw [rep_one b new l]
    · rw [rep_miss [c] new b l (by simp) (by simp [List.isPrefixOf, Ne.symm h]), List.flatMap_cons, if_neg h, rep_one c new l]
      rfl
/-- a text, cut at each sign c -/
def parts (c : UInt8) : Bs → List Bs
  | [] => [[]]
  | b :: l => if b = c then [] :: parts c l else match parts c l with
    | [] => [[b]]
    | x :: r => (b :: x) :: r
theorem parts_ne (c : UInt8) : ∀ s : Bs, parts c s ≠ []
  | [] => by simp [parts]
  | b :: l => by
    rw [parts]
    split
    · simp
    · split <;> simp
theorem parts_len (c : UInt8) : ∀ s : Bs, (parts c s).length = s.count c + 1
  | [] => rfl
  | b :: l => by
    have ih := parts_len c l
    have hn := parts_ne c l
    rw [parts]
    split
    · rename_i h
      subst h
      rw [List.length_cons, ih, List.count_cons_self]
    · rename_i h
      rw [List.count_cons_of_ne h]
      cases hp : parts c l with
      | nil => exact absurd hp hn
      | cons x r =>
        rw [hp] at ih
        simpa using ih
theorem part_le_len (c : UInt8) : ∀ (s x : Bs), x ∈ parts c s → x.length ≤ s.length
  | [], x, h => by
    simp [parts] at h
    subst h
    exact Nat.le_refl _
  | b :: l, x, h => by
    have ih := part_le_len c l
    have hn := parts_ne c l
    rw [parts] at h
    split at h
    · rcases List.mem_cons.1 h with rfl | h
      · simp
      · have := ih x h
        simp only [List.length_cons]
        omega
    · cases hp : parts c l with
      | nil => exact absurd hp hn
      | cons y ys =>
        rw [hp] at h ih
        simp only [] at h
        rcases List.mem_cons.1 h with rfl | h
        · have := ih y (by simp)
          simp only [List.length_cons]
          omega
        · have := ih x (by simp [h])
          simp only [List.length_cons]
          omega
theorem split_parts (c : UInt8) : ∀ s : Bs, Lib.splitK [c] 0 (Lib.count s [c]) s = parts c s
  | [] => by
    rw [Lib.count_miss (index_nil [c] (by simp))]
    rfl
  | b :: l => by
    have ih := split_parts c l
    by_cases h : b = c
    · subst h
      have hi := index_pre (b :: l) [b] (by simp) (by simp)
      rw [Lib.count_cons_eq, Nat.add_comm, parts, if_pos rfl, ← ih]
      have hm : ¬ (Lib.index (b :: l) [b] == -1) = true := fun e => by have := beq_iff_eq.1 e; omega
      rw [Lib.splitK, if_neg hm, hi]
      simp
    · have hp : ([c] : Bs).isPrefixOf (b :: l) = false := by simp [List.isPrefixOf, Ne.symm h]
      have hx := index_cons b l [c] hp
      rw [Lib.count_cons_ne b c l h, parts, if_neg h, ← ih]
      by_cases hm : Lib.index l [c] = -1
      · rw [Lib.count_miss hm]
        rfl
      · have hge := Lib.index_ge l [c]
        obtain ⟨j, hj⟩ : ∃ j : Nat, Lib.index l [c] = j := ⟨(Lib.index l [c]).toNat, by omega⟩
        have hx' : Lib.index (b :: l) [c] = ((j + 1 : Nat) : Int) := by rw [hx, if_neg (fun e => hm (beq_iff_eq.1 e)), hj]; omega
        rw [Lib.count_hit (by simp) hj, Nat.add_comm 1]
        have m1 : ¬ (Lib.index (b :: l) [c] == -1) = true := fun e => by have := beq_iff_eq.1 e; omega
        have m2 : ¬ (Lib.index l [c] == -1) = true := fun e => by have := beq_iff_eq.1 e; omega
        rw [Lib.splitK, Lib.splitK, if_neg m1, if_neg m2, hj, hx']
        simp
/-! Pointers. -/
def esc (c : UInt8) : Bs := if c = 126 then [126, 48] else if c = 47 then [126, 49] else [c]
/-- a step as it is written -/
def written (s : Bs) : Bs := s.flatMap esc
/-- no sign stands for nothing -/
def noStray : Bs → Bool
  | [] => true
  | c :: r => if c = 126 then (match r with
    | [] => false
    | d :: r' => (d == 48 || d == 49) && noStray r')
    else noStray r
/-- a step as it is meant -/
def meantB : Bs → Bs
  | [] => []
  | c :: r => if c = 126 then (match r with
    | [] => [c]
    | d :: r' => (if d = 49 then 47 else 126) :: meantB r')
    else c :: meantB r
theorem noStray_tilde (d : UInt8) (r : Bs) : noStray (126 :: d :: r) = ((d == 48 || d == 49) && noStray r) := by rw [noStray]; simp
theorem noStray_other (c : UInt8) (r : Bs) (h : c ≠ 126) : noStray (c :: r) = noStray r := by cases r <;> simp [noStray, h]
theorem meantB_other (c : UInt8) (r : Bs) (h : c ≠ 126) : meantB (c :: r) = c :: meantB r := by cases r <;> simp [meantB, h]
theorem meantB_tilde (d : UInt8) (r : Bs) : meantB (126 :: d :: r) = (if d = 49 then 47 else 126) :: meantB r := by rw [meantB]; simp
/-- what the two replacements make of a step -/
theorem rep_meant : ∀ (k : Nat) (s : Bs), s.length ≤ k → noStray s = true → rep [126, 48] [126] (rep [126, 49] [47] s) = meantB s
  | k, [], _, _ => by rw [rep_nil _ _ (by simp), rep_nil _ _ (by simp)]; rfl
  | 0, c :: r, hk, _ => by simp at hk
  | k + 1, c :: r, hk, h => by
    by_cases hc : c = 126
    · subst hc
      cases r with
      | nil => simp [noStray] at h
      | cons d r =>
        rw [noStray_tilde] at h
        have h2 : noStray r = true := by simp at h; exact h.2
        have ih := rep_meant k r (by simp at hk; omega) h2
        rw [meantB_tilde, ← ih]
        by_cases hd : d = 49
        · subst hd
          rw [rep_hit [126, 49] [47] (126 :: 49 :: r) (by simp) (by simp)]
          simp only [List.length_cons, List.length_nil, List.drop_succ_cons, List.drop_zero, List.singleton_append]
          rw [rep_miss [126, 48] [126] 47 _ (by simp) (by simp [List.isPrefixOf]), if_pos trivial]
        · have hd0 : d = 48 := by simp [hd] at h; exact h.1
          subst hd0
          rw [rep_miss [126, 49] [47] 126 (48 :: r) (by simp) (by simp [List.isPrefixOf]), rep_miss [126, 49] [47] 48 r (by simp) (by simp [List.isPrefixOf])]
          rw [rep_hit [126, 48] [126] (126 :: 48 :: rep [126, 49] [47] r) (by simp) (by simp)]
          simp
    · rw [noStray_other c r hc] at h
      have ih := rep_meant k r (by simp at hk; omega) h
      rw [meantB_other c r hc, ← ih, rep_miss [126, 49] [47] c r (by simp) (by simp [List.isPrefixOf, Ne.symm hc]), rep_miss [126, 48] [126] c _ (by simp) (by simp [List.isPrefixOf, Ne.symm hc])]
theorem rep_written (s : Bs) : rep [47] [126, 49] (rep [126] [126, 48] s) = written s := by
  rw [rep_one, rep_one]
  unfold written
  rw [List.flatMap_assoc]
  congr 1
  funext b
  unfold esc
  by_cases h : b = 126
  · subst h; decide
  · by_cases h2 : b = 47
    · subst h2; decide
    · simp [h, h2]
/-- one for one -/
theorem written_fine : ∀ s : Bs, noStray (written s) = true ∧ meantB (written s) = s ∧ 47 ∉ written s
  | [] => ⟨rfl, rfl, by simp [written]⟩
  | c :: r => by
    obtain ⟨h1, h2, h3⟩ := written_fine r
    have e : written (c :: r) = esc c ++ written r := rfl
    rw [e]
    unfold esc
    by_cases hc : c = 126
    · subst hc
      rw [if_pos rfl]
      simp only [List.cons_append, List.nil_append]
      rw [noStray_tilde, meantB_tilde]
      refine ⟨by simp [h1], by simp [h2], by simp [h3]⟩
    · by_cases h47 : c = 47
      · subst h47
        rw [if_neg (by decide), if_pos rfl]
        simp only [List.cons_append, List.nil_append]
        rw [noStray_tilde, meantB_tilde]
        refine ⟨by simp [h1], by simp [h2], by simp [h3]⟩
      · rw [if_neg hc, if_neg h47]
        simp only [List.cons_append, List.nil_append]
        rw [noStray_other c _ hc, meantB_other c _ hc]
        exact ⟨h1, by rw [h2], by simp [h3, Ne.symm h47]⟩
theorem meant_back : ∀ (k : Nat) (s : Bs), s.length ≤ k → noStray s = true → 47 ∉ s → written (meantB s) = s
  | _, [], _, _, _ => rfl
  | 0, c :: r, hk, _, _ => by simp at hk
  | k + 1, c :: r, hk, h, hn => by
    by_cases hc : c = 126
    · subst hc
      cases r with
      | nil => simp [noStray] at h
      | cons d r =>
        rw [noStray_tilde] at h
        have h2 : noStray r = true := by simp at h; exact h.2
        have ih := meant_back k r (by simp at hk; omega) h2 (by simp at hn; exact hn.2)
        rw [meantB_tilde]
        have e : ∀ x, written (x :: meantB r) = esc x ++ written (meantB r) := fun x => rfl
        rw [e, ih]
        by_cases hd : d = 49
        · subst hd; rfl
        · have hd0 : d = 48 := by simp [hd] at h; exact h.1
          subst hd0; rfl
    · rw [noStray_other c r hc] at h
      have ih := meant_back k r (by simp at hk; omega) h (by simp at hn; exact hn.2)
      rw [meantB_other c r hc]
      have e : written (c :: meantB r) = esc c ++ written (meantB r) := rfl
      rw [e, ih]
      unfold esc
      rw [if_neg hc, if_neg (by simp at hn; exact Ne.symm hn.1)]
      rfl
abbrev eForm : Nat := 16
abbrev eNone : Nat := 7
abbrev eArg : Nat := 1
/-- what a pointer's steps are, or what is wrong with it -/
def stepsE (p : Bs) : Except Nat (List Bs) :=
  if p = [] then .ok []
  else if hd p ≠ 47 ∨ noStray p = false then .error eForm
  else if 10 < p.count 47 then .error eLarge
  else .ok ((parts 47 p.tail).map meantB)
def joinB : List Bs → Bs
  | [] => []
  | s :: r => 47 :: (written s ++ joinB r)
def joinE (l : List Bs) : Except Nat Bs := if 10 < l.length then .error eLarge else .ok (joinB l)
theorem parts_stray : ∀ (k : Nat) (s : Bs), s.length ≤ k → noStray s = true → ∀ x ∈ parts 47 s, noStray x = true ∧ 47 ∉ x
  | _, [], _, _, x, hx => by
    simp [parts] at hx
    subst hx
    exact ⟨rfl, by simp⟩
  | 0, c :: r, hk, _, _, _ => by simp at hk
  | k + 1, c :: r, hk, h, x, hx => by
    by_cases h47 : c = 47
    · subst h47
      rw [parts, if_pos rfl] at hx
      rw [noStray_other 47 r (by decide)] at h
      rcases List.mem_cons.1 hx with rfl | hx
      · exact ⟨rfl, by simp⟩
      · exact parts_stray k r (by simp at hk; omega) h x hx
    · by_cases hc : c = 126
      · subst hc
        cases r with
        | nil => simp [noStray] at h
        | cons d r =>
          rw [noStray_tilde] at h
          have h2 : noStray r = true := by simp at h; exact h.2
          have hd : d = 48 ∨ d = 49 := by simp at h; exact h.1
          have hd47 : d ≠ 47 := by rcases hd with rfl | rfl <;> decide
          have hn := parts_ne 47 r
          have ih := parts_stray k r (by simp at hk; omega) h2
          rw [parts, if_neg (by decide), parts, if_neg hd47] at hx
          cases hp : parts 47 r with
          | nil => exact absurd hp hn
          | cons y ys =>
            rw [hp] at hx ih
            simp only [] at hx
            rcases List.mem_cons.1 hx with rfl | hx
            · have hy := ih y (by simp)
              rw [noStray_tilde]
              refine ⟨by rcases hd with rfl | rfl <;> simp [hy.1], ?_⟩
              intro hm
              rcases List.mem_cons.1 hm with e | hm
              · exact absurd e (by decide)
              · rcases List.mem_cons.1 hm with e | hm
                · exact hd47 e.symm
                · exact hy.2 hm
            · exact ih x (by simp [hx])
      · rw [noStray_other c r hc] at h
        have hn := parts_ne 47 r
        have ih := parts_stray k r (by simp at hk; omega) h
        rw [parts, if_neg h47] at hx
        cases hp : parts 47 r with
        | nil => exact absurd hp hn
        | cons y ys =>
          rw [hp] at hx ih
          simp only [] at hx
          rcases List.mem_cons.1 hx with rfl | hx
          · have hy := ih y (by simp)
            rw [noStray_other c y hc]
            refine ⟨hy.1, ?_⟩
            intro hm
            rcases List.mem_cons.1 hm with e | hm
            · exact h47 e.symm
            · exact hy.2 hm
          · exact ih x (by simp [hx])
/-- the parts, with the sign ahead of each, are the text -/
def slashes : List Bs → Bs
  | [] => []
  | x :: r => 47 :: (x ++ slashes r)
theorem slashes_parts : ∀ s : Bs, slashes (parts 47 s) = 47 :: s
  | [] => rfl
  | c :: r => by
    have ih := slashes_parts r
    have hn := parts_ne 47 r
    rw [parts]
    split
    · rename_i h
      subst h
      show 47 :: ([] ++ slashes (parts 47 r)) = _
      rw [ih]
      rfl
    · cases hp : parts 47 r with
      | nil => exact absurd hp hn
      | cons y ys =>
        rw [hp] at ih
        have e : 47 :: (y ++ slashes ys) = 47 :: r := ih
        have e2 : y ++ slashes ys = r := by simpa using e
        show 47 :: (c :: y ++ slashes ys) = _
        rw [List.cons_append, e2]
theorem parts_none : ∀ x : Bs, 47 ∉ x → parts 47 x = [x]
  | [], _ => rfl
  | c :: x, h => by
    rw [parts, if_neg (by simp at h; exact Ne.symm h.1), parts_none x (by simp at h; exact h.2)]
theorem parts_cut : ∀ (x : Bs) (s : Bs), 47 ∉ x → parts 47 (x ++ 47 :: s) = x :: parts 47 s
  | [], s, _ => by
    show parts 47 (47 :: s) = _
    rw [parts, if_pos rfl]
  | c :: x, s, h => by
    show parts 47 (c :: (x ++ 47 :: s)) = _
    rw [parts, if_neg (by simp at h; exact Ne.symm h.1), parts_cut x s (by simp at h; exact h.2)]
theorem parts_slashes : ∀ (x : Bs) (l : List Bs), (∀ y ∈ x :: l, 47 ∉ y) → parts 47 (x ++ slashes l) = x :: l
  | x, [], h => by
    show parts 47 (x ++ []) = _
    rw [List.append_nil]
    exact parts_none x (h x (by simp))
  | x, y :: l, h => by
    show parts 47 (x ++ 47 :: (y ++ slashes l)) = _
    rw [parts_cut x _ (h x (by simp)), parts_slashes y l (fun z hz => h z (by simp at hz ⊢; exact Or.inr hz))]
theorem joinB_slashes (l : List Bs) : joinB l = slashes (l.map written) := by
  induction l with
  | nil => rfl
  | cons s r ih => simp [joinB, slashes, ih]
theorem noStray_app : ∀ (k : Nat) (x y : Bs), x.length ≤ k → noStray x = true → noStray (x ++ y) = noStray y
  | _, [], y, _, _ => rfl
  | 0, c :: r, y, hk, _ => by simp at hk
  | k + 1, c :: r, y, hk, h => by
    by_cases hc : c = 126
    · subst hc
      cases r with
      | nil => simp [noStray] at h
      | cons d r =>
        rw [noStray_tilde] at h
        have h2 : noStray r = true := by simp at h; exact h.2
        have h1 : (d == 48 || d == 49) = true := by simp at h ⊢; exact h.1
        show noStray (126 :: d :: (r ++ y)) = _
        rw [noStray_tilde, h1, Bool.true_and, noStray_app k r y (by simp at hk; omega) h2]
    · rw [noStray_other c r hc] at h
      show noStray (c :: (r ++ y)) = _
      rw [noStray_other c _ hc, noStray_app k r y (by simp at hk; omega) h]
theorem joinB_fine (l : List Bs) : noStray (joinB l) = true := by
  induction l with
  | nil => rfl
  | cons s r ih =>
    show noStray (47 :: (written s ++ joinB r)) = true
    rw [noStray_other 47 _ (by decide), noStray_app _ _ _ (Nat.le_refl _) (written_fine s).1, ih]
theorem joinB_count (l : List Bs) : (joinB l).count 47 = l.length := by
  induction l with
  | nil => rfl
  | cons s r ih =>
    show (47 :: (written s ++ joinB r)).count 47 = _
    rw [List.count_cons_self, List.count_append, ih, List.count_eq_zero.2 (written_fine s).2.2]
    simp
/-- steps, written and read again -/
theorem steps_join (l : List Bs) (h : l.length ≤ 10) : stepsE (joinB l) = .ok l := by
  cases l with
  | nil => rfl
  | cons s r =>
    have e : joinB (s :: r) = 47 :: (written s ++ joinB r) := rfl
    have hc := joinB_count (s :: r)
    have hf := joinB_fine (s :: r)
    unfold stepsE
    rw [if_neg (by rw [e]; simp), if_neg (by rw [hf, e]; simp [hd]), if_neg (by rw [hc]; omega)]
    have e2 : (joinB (s :: r)).tail = written s ++ slashes (r.map written) := by rw [e, ← joinB_slashes]; rfl
    rw [e2, parts_slashes (written s) (r.map written) (fun y hy => by
      rcases List.mem_cons.1 hy with rfl | hy
      · exact (written_fine s).2.2
      · obtain ⟨z, _, rfl⟩ := List.mem_map.1 hy
        exact (written_fine z).2.2)]
    have e3 : (r.map written).map meantB = r := by
      rw [List.map_map]
      exact (List.map_congr_left (g := id) (fun x _ => (written_fine x).2.1)).trans (List.map_id _)
    rw [List.map_cons, (written_fine s).2.1, e3]
/-- a pointer's steps, written, are the pointer -/
theorem join_steps {p : Bs} {l : List Bs} (h : stepsE p = .ok l) : joinB l = p ∧ l.length ≤ 10 := by
  unfold stepsE at h
  split at h
  · rename_i hp
    cases h
    exact ⟨hp.symm, by simp⟩
  · rename_i hp
    split at h
    · cases h
    · rename_i hq
      split at h
      · cases h
      · rename_i hr
        cases h
        cases p with
        | nil => exact absurd rfl hp
        | cons c p =>
          have hc : c = 47 := by
            have : ¬ hd (c :: p) ≠ 47 := fun e => hq (Or.inl e)
            simpa [hd] using this
          subst hc
          have hs : noStray p = true := by
            have : ¬ noStray (47 :: p) = false := fun e => hq (Or.inr e)
            rw [noStray_other 47 p (by decide)] at this
            simpa using this
          refine ⟨?_, ?_⟩
          · have e : (parts 47 p).map (written ∘ meantB) = parts 47 p := (List.map_congr_left (g := id) (fun x hx => by
              have := parts_stray _ p (Nat.le_refl _) hs x hx
              exact meant_back _ x (Nat.le_refl _) this.1 this.2)).trans (List.map_id _)
            rw [joinB_slashes, List.map_map, List.tail_cons, e]
            exact slashes_parts p
          · rw [List.length_map, List.tail_cons, parts_len]
            rw [List.count_cons_self] at hr
            omega
theorem steps_inj {p q : Bs} {l : List Bs} (h : stepsE p = .ok l) (g : stepsE q = .ok l) : p = q := by
  rw [← (join_steps h).1, ← (join_steps g).1]
theorem esc_pos (c : UInt8) : 1 ≤ (esc c).length := by
  unfold esc
  split
  · simp
  · split <;> simp
theorem written_ge : ∀ s : Bs, s.length ≤ (written s).length
  | [] => Nat.le_refl _
  | c :: s => by
    have := written_ge s
    have e : written (c :: s) = esc c ++ written s := rfl
    have h := esc_pos c
    rw [e, List.length_append, List.length_cons]
    omega
theorem sum_le_join (l : List Bs) : (l.map List.length).sum ≤ (joinB l).length := by
  induction l with
  | nil => simp
  | cons x l ih =>
    have := written_ge x
    simp only [joinB, List.length_cons, List.length_append, List.map_cons, List.sum_cons]
    omega
theorem steps_sum {p : Bs} {l : List Bs} (h : stepsE p = .ok l) : (l.map List.length).sum ≤ p.length := by
  have h1 := sum_le_join l
  rw [(join_steps h).1] at h1
  exact h1
theorem len_le_sum (l : List Bs) (k : Nat) (h : k < l.length) : l[k].length ≤ (l.map List.length).sum := by
  induction l generalizing k with
  | nil => simp at h
  | cons x l ih =>
    cases k with
    | zero => simp
    | succ k =>
      have := ih k (by simpa using h)
      simp only [List.getElem_cons_succ, List.map_cons, List.sum_cons]
      omega
end Go.Proofs.YtdadnidfkomnbaaGreatDoor
/- Contracts over this translation: signs that stand for nothing; steps as they are meant and written. -/
namespace Go.Proofs.YtdadnidfkomnbaaGreatDoor
open Go.RowKit
set_option linter.unusedVariables false
set_option linter.unusedSimpArgs false
theorem hasPrefix_eq (l p : Bs) : Lib.hasPrefix l p = p.isPrefixOf l := rfl
theorem ext_rest (t : ByteArray) (p : Nat) : (t.extract p t.size).data.toList = rest t p := by
  unfold rest
  simp
  rw [List.take_of_length_le (by simp)]
theorem pre_one (t : ByteArray) (p : Nat) (c : UInt8) : Lib.hasPrefix (t.extract p t.size).data.toList [c] = (match (rest t p) with | [] => false | b :: _ => c == b) := by
  rw [hasPrefix_eq, ext_rest]
  cases rest t p with
  | nil => rfl
  | cons b r => simp [List.isPrefixOf]
theorem stray_skip {t : ByteArray} {k : Nat} (h : k < t.size) (hc : t[k] ≠ 126) : noStray (rest t k) = noStray (rest t (k + 1)) := by
  rw [rest_cons h, noStray_other _ _ hc]
theorem stray_two {t : ByteArray} {k : Nat} (h : k < t.size) (hc : t[k] = 126) (h1 : k + 1 < t.size) (hd' : t[k + 1] = 48 ∨ t[k + 1] = 49) : noStray (rest t k) = noStray (rest t (k + 1)) := by
  rw [rest_cons h, rest_cons h1, hc, noStray_tilde, noStray_other t[k + 1] _ (by rcases hd' with e | e <;> rw [e] <;> decide)]
  rcases hd' with e | e <;> rw [e] <;> rfl
theorem stray_bad {t : ByteArray} {k : Nat} (h : k < t.size) (hc : t[k] = 126) (hd' : ∀ h1 : k + 1 < t.size, t[k + 1] ≠ 48 ∧ t[k + 1] ≠ 49) : noStray (rest t k) = false := by
  rw [rest_cons h, hc]
  by_cases h1 : k + 1 < t.size
  · rw [rest_cons h1, noStray_tilde]
    have := hd' h1
    simp [this.1, this.2]
  · rw [rest_nil (by omega)]
    simp [noStray]
set_option maxRecDepth 100000 in
set_option maxHeartbeats 1000000 in
theorem stray_any (t : ByteArray) (w : World) (ht : t.size ≤ 8000000) :
    Calls Tryz.prog 99 #[.string t] w fun e w' => e = .returned (.bool (!noStray t.data.toList)) ∧ Below w.heap.size w w' := by
  go_enter Tryz.func99, Tryz.ntmps99
  go_wp2_with fail
  go_loopw [3] (fun i wr => ∃ k : Nat, k ≤ t.size ∧ i = .int .i64 k ∧ noStray t.data.toList = noStray (rest t k) ∧ Below w.heap.size w wr) (fun i _ => t.size - (intOf i).toNat)
  case atStart => exact ⟨0, Nat.zero_le _, rfl, by rw [rest, List.drop_zero], Below.refl _ _⟩
  case round =>
    obtain ⟨k, hk, rfl, hst, hbel⟩ := hrel
    have HB : Hid (Below w.heap.size w wr) := hbel
    have HS : Hid (noStray t.data.toList = noStray (rest t k)) := hst
    clear hbel hst
    by_cases hlt : k < t.size
    · by_cases hc : t[k] = 126
      · have HC : Hid (t[k] = 126) := hc
        have hcb : ((t[k].toNat : Int) == 126) = true := by rw [hc]; rfl
        have hle : (k : Int) + 1 ≤ (t.size : Int) := by omega
        clear hc
        by_cases h48 : ∃ h1 : k + 1 < t.size, t[k + 1] = 48
        · obtain ⟨h1, h48⟩ := h48
          have HP : Hid (Lib.hasPrefix (t.extract (k + 1) t.size).data.toList [48] = true) := by
            show _ = true
            rw [pre_one, rest_cons h1, h48]
            rfl
          have HE : Hid (noStray (rest t k) = noStray (rest t (k + 1))) := stray_two hlt HC.out h1 (Or.inl h48)
          clear h48
          go_wp2_with fail
          refine (Tryz.strings_HasPrefix _ _ _).mono ?_
          rintro e w1 ⟨rfl, rfl⟩
          rw [show (⟨#[48]⟩ : ByteArray).data.toList = [48] from rfl, HP.out]
          go_wp2_with fail
          go_roundw
          case rel => exact ⟨k + 1, by omega, by go_num, by rw [HS.out, HE.out], HB.out⟩
          case measure => simp [intOf]; omega
        · have HP : Hid (Lib.hasPrefix (t.extract (k + 1) t.size).data.toList [48] = false) := by
            show _ = false
            rw [pre_one]
            by_cases h1 : k + 1 < t.size
            · rw [rest_cons h1]
              simp
              exact fun e => h48 ⟨h1, e.symm⟩
            · rw [rest_nil (by omega)]
          by_cases h49 : ∃ h1 : k + 1 < t.size, t[k + 1] = 49
          · obtain ⟨h1, h49⟩ := h49
            have HP2 : Hid (Lib.hasPrefix (t.extract (k + 1) t.size).data.toList [49] = true) := by
              show _ = true
              rw [pre_one, rest_cons h1, h49]
              rfl
            have HE : Hid (noStray (rest t k) = noStray (rest t (k + 1))) := stray_two hlt HC.out h1 (Or.inr h49)
            clear h49 h48
            go_wp2_with fail
            refine (Tryz.strings_HasPrefix _ _ _).mono ?_
            rintro e w1 ⟨rfl, rfl⟩
            rw [show (⟨#[48]⟩ : ByteArray).data.toList = [48] from rfl, HP.out]
            go_wp2_with fail
            refine (Tryz.strings_HasPrefix _ _ _).mono ?_
            rintro e w1 ⟨rfl, rfl⟩
            rw [show (⟨#[49]⟩ : ByteArray).data.toList = [49] from rfl, HP2.out]
            go_wp2_with fail
            go_roundw
            case rel => exact ⟨k + 1, by omega, by go_num, by rw [HS.out, HE.out], HB.out⟩
            case measure => simp [intOf]; omega
          · have HP2 : Hid (Lib.hasPrefix (t.extract (k + 1) t.size).data.toList [49] = false) := by
              show _ = false
              rw [pre_one]
              by_cases h1 : k + 1 < t.size
              · rw [rest_cons h1]
                simp
                exact fun e => h49 ⟨h1, e.symm⟩
              · rw [rest_nil (by omega)]
            have HE : Hid (noStray (rest t k) = false) := stray_bad hlt HC.out (fun h1 => ⟨fun e => h48 ⟨h1, e⟩, fun e => h49 ⟨h1, e⟩⟩)
            clear h49 h48
            go_wp2_with fail
            refine (Tryz.strings_HasPrefix _ _ _).mono ?_
            rintro e w1 ⟨rfl, rfl⟩
            rw [show (⟨#[48]⟩ : ByteArray).data.toList = [48] from rfl, HP.out]
            go_wp2_with fail
            refine (Tryz.strings_HasPrefix _ _ _).mono ?_
            rintro e w1 ⟨rfl, rfl⟩
            rw [show (⟨#[49]⟩ : ByteArray).data.toList = [49] from rfl, HP2.out]
            go_wp2_with fail
            go_ret
            exact ⟨by rw [HS.out, HE.out]; rfl, HB.out⟩
      · have HE : Hid (noStray (rest t k) = noStray (rest t (k + 1))) := stray_skip hlt hc
        have hcb : ((t[k].toNat : Int) == 126) = false := by
          rw [beq_eq_false_iff_ne]
          intro e
          exact hc (UInt8.toNat_inj.1 (by show t[k].toNat = 126; omega))
        clear hc
        go_wp2_with fail
        go_roundw
        case rel => exact ⟨k + 1, by omega, by go_num, by rw [HS.out, HE.out], HB.out⟩
        case measure => simp [intOf]; omega
    · have HE : Hid (noStray (rest t k) = true) := by
        show noStray (rest t k) = true
        rw [rest_nil (by omega)]
        rfl
      go_wp2_with fail
      go_ret
      exact ⟨by rw [HS.out, HE.out]; rfl, HB.out⟩
end Go.Proofs.YtdadnidfkomnbaaGreatDoor
/- Contracts over this translation of ptr.Steps and ptr.Join. -/
namespace Go.Proofs.YtdadnidfkomnbaaGreatDoor
open Go.RowKit
set_option linter.unusedVariables false
set_option linter.unusedSimpArgs false
theorem rep_le (old new : Bs) (h0 : old ≠ []) (h : new.length ≤ old.length) : ∀ (k : Nat) (s : Bs), s.length ≤ k → (rep old new s).length ≤ s.length
  | _, [], _ => by rw [rep_nil _ _ h0]; exact Nat.le_refl _
  | 0, c :: r, hk => by simp at hk
  | k + 1, c :: r, hk => by
    cases hp : old.isPrefixOf (c :: r) with
    | true =>
      rw [rep_hit _ _ _ h0 hp, List.length_append]
      have hl := (List.isPrefixOf_iff_prefix.1 hp).length_le
      have ho : 1 ≤ old.length := by
        cases old with
        | nil => exact absurd rfl h0
        | cons _ _ => simp
      have ih := rep_le old new h0 h k ((c :: r).drop old.length) (by rw [List.length_drop]; omega)
      rw [List.length_drop] at ih
      omega
    | false =>
      rw [rep_miss _ _ _ _ h0 hp, List.length_cons]
      have ih := rep_le old new h0 h k r (by simp at hk; omega)
      simp only [List.length_cons]
      omega
theorem esc_two (c : UInt8) : (esc c).length ≤ 2 := by
  unfold esc
  split
  · simp
  · split <;> simp
theorem written_len : ∀ s : Bs, (written s).length ≤ 2 * s.length
  | [] => by simp [written]
  | c :: s => by
    have := written_len s
    have h := esc_two c
    have e : written (c :: s) = esc c ++ written s := rfl
    rw [e, List.length_append, List.length_cons]
    omega
theorem rep_one_len (c : UInt8) (new : Bs) (hn : new.length ≤ 2) : ∀ s : Bs, (rep [c] new s).length ≤ 2 * s.length := by
  intro s
  rw [rep_one]
  induction s with
  | nil => simp
  | cons b s ih =>
    rw [List.flatMap_cons, List.length_append, List.length_cons]
    have : (if b = c then new else [b]).length ≤ 2 := by split <;> simp [hn]
    omega
theorem meantB_len : ∀ (k : Nat) (s : Bs), s.length ≤ k → (meantB s).length ≤ s.length
  | _, [], _ => Nat.le_refl _
  | 0, c :: r, hk => by simp at hk
  | k + 1, c :: r, hk => by
    by_cases hc : c = 126
    · subst hc
      cases r with
      | nil => simp [meantB]
      | cons d r =>
        rw [meantB_tilde]
        have := meantB_len k r (by simp at hk; omega)
        simp only [List.length_cons]
        omega
    · rw [meantB_other c r hc]
      have := meantB_len k r (by simp at hk; omega)
      simp only [List.length_cons]
      omega
theorem room_rep (s old new : ByteArray) (h1 : 1 ≤ old.size) (hn : new.size ≤ 2) (hs : s.size ≤ 100000000) : s.size + Lib.countB s old * new.size ≤ 140737488355328 := by
  have h := Lib.countB_le old h1 _ s (Nat.le_refl _)
  have := Nat.mul_le_mul h hn
  omega
theorem size_of (l : Bs) : (⟨l.toArray⟩ : ByteArray).size = l.length := by simp [ByteArray.size]
set_option maxRecDepth 100000 in
set_option maxHeartbeats 1000000 in
theorem clone_any (s : ByteArray) (w : World) (hs : s.size ≤ 100000000) :
    Calls Tryz.prog 128 #[.string s] w fun e w' => e = .returned (.string s) ∧ Below w.heap.size w w' := by
  go_enter Tryz.func128, Tryz.ntmps128
  go_wp2_with fail
  refine (Tryz.stringslite_Clone s _ (by omega)).mono ?_
  rintro e w1 ⟨rfl, b1⟩
  have HB : Hid (Below w.heap.size w w1) := b1
  clear b1
  go_wp2_with fail
  go_ret
  exact ⟨rfl, HB.out⟩
/-- the library's own variable stands, and is no block of ours -/
def Room (w : World) : Prop := 0 < w.heap.size ∧ ∃ m, w.cell? ⟨0, 0, none⟩ = some (.int .i64 m)
theorem Room.below {w w' : World} (h : Room w) (hb : Below w.heap.size w w') : Room w' := by
  obtain ⟨h0, m, hm⟩ := h
  exact ⟨by have := hb.size; omega, m, by rw [hb.cell (p := ⟨0, 0, none⟩) h0]; exact hm⟩
theorem Room.of {w : World} {m : Int} (h : w.cell? ⟨0, 0, none⟩ = some (.int .i64 m)) : Room w := by
  refine ⟨?_, m, h⟩
  rcases Nat.eq_zero_or_pos w.heap.size with h0 | h0
  · simp [World.cell?, h0] at h
  · exact h0
theorem ba_self (a : ByteArray) : (⟨a.data.toList.toArray⟩ : ByteArray) = a := by cases a; simp
set_option maxRecDepth 100000 in
set_option maxHeartbeats 1000000 in
theorem meant_any (s : ByteArray) (w : World) (hs : s.size ≤ 8000000) (hR : Room w) (hst : noStray s.data.toList = true) :
    Calls Tryz.prog 102 #[.string s] w fun e w' => e = .returned (.string ⟨(meantB s.data.toList).toArray⟩) ∧ Below w.heap.size w w' := by
  have hl1 : (rep [126, 49] [47] s.data.toList).length ≤ s.size := by
    have := rep_le [126, 49] [47] (by simp) (by simp) _ s.data.toList (Nat.le_refl _)
    simpa using this
  have hl2 : (rep [126, 48] [126] (rep [126, 49] [47] s.data.toList)).length ≤ s.size := by
    have := rep_le [126, 48] [126] (by simp) (by simp) _ (rep [126, 49] [47] s.data.toList) (Nat.le_refl _)
    omega
  have HE : Hid (rep [126, 48] [126] (rep [126, 49] [47] s.data.toList) = meantB s.data.toList) := rep_meant _ _ (Nat.le_refl _) hst
  have hz1 : (⟨(rep [126, 49] [47] s.data.toList).toArray⟩ : ByteArray).size ≤ 8000000 := by rw [size_of]; omega
  have hz2 : (⟨(rep [126, 48] [126] (rep [126, 49] [47] s.data.toList)).toArray⟩ : ByteArray).size ≤ 8000000 := by rw [size_of]; omega
  have HRm : Hid (Room w) := hR
  obtain ⟨h0, m, hm⟩ := hR
  clear hst hl1 hl2
  go_enter Tryz.func102, Tryz.ntmps102
  go_wp2_with fail
  refine (Tryz.strings_ReplaceAll s ⟨#[126, 49]⟩ ⟨#[47]⟩ m _ (by omega) hm (by decide) (room_rep _ _ _ (by decide) (by decide) (by omega))).mono ?_
  rintro e w1 ⟨rfl, b1⟩
  have HB1 : Hid (Below w.heap.size w w1) := b1
  obtain ⟨h01, m1, hm1⟩ := HRm.out.below b1
  rw [show Lib.replaceAll s.data.toList (⟨#[126, 49]⟩ : ByteArray).data.toList (⟨#[47]⟩ : ByteArray).data.toList = rep [126, 49] [47] s.data.toList from replaceAll_rep _ _ _ (by simp)]
  clear b1
  have HD : Hid ((⟨(rep [126, 49] [47] s.data.toList).toArray⟩ : ByteArray).data.toList = rep [126, 49] [47] s.data.toList) := by
    show _ = _
    simp
  generalize hx : (⟨(rep [126, 49] [47] s.data.toList).toArray⟩ : ByteArray) = x at *
  generalize rep [126, 49] [47] s.data.toList = y at *
  go_wp2_with fail
  refine (Tryz.strings_ReplaceAll x ⟨#[126, 48]⟩ ⟨#[126]⟩ m1 _ (by omega) hm1 (by decide) (room_rep _ _ _ (by decide) (by decide) (by omega))).mono ?_
  rintro e w2 ⟨rfl, b2⟩
  rw [show Lib.replaceAll x.data.toList (⟨#[126, 48]⟩ : ByteArray).data.toList (⟨#[126]⟩ : ByteArray).data.toList = rep [126, 48] [126] y from by rw [HD.out]; exact replaceAll_rep _ _ _ (by simp)]
  have HB2 : Hid (Below w.heap.size w w2) := HB1.out.trans (b2.mono HB1.out.size)
  clear b2
  have HZ : Hid ((⟨(rep [126, 48] [126] y).toArray⟩ : ByteArray) = ⟨(meantB s.data.toList).toArray⟩) := by show _ = _; rw [HE.out]
  generalize (⟨(rep [126, 48] [126] y).toArray⟩ : ByteArray) = z at *
  go_wp2_with fail
  refine (clone_any z _ (by omega)).mono ?_
  rintro e w3 ⟨rfl, b3⟩
  have HB3 : Hid (Below w.heap.size w w3) := HB2.out.trans (b3.mono HB2.out.size)
  clear b3
  go_wp2_with fail
  go_ret
  exact ⟨by rw [← HZ.out]; rfl, HB3.out⟩
end Go.Proofs.YtdadnidfkomnbaaGreatDoor
/- Contract over this translation of the reference's quoted. -/
namespace Go.Proofs.YtdadnidfkomnbaaGreatDoor
open Go.RowKit
set_option linter.unusedVariables false
set_option linter.unusedSimpArgs false
theorem rep4_quote (s : Bs) : 34 :: (rep [9] [92, 116] (rep [10] [92, 110] (rep [34] [92, 34] (rep [92] [92, 92] s))) ++ [34]) = quote s := by
  unfold quote
  rw [rep_one, rep_one, rep_one, rep_one]
  have h : ∀ s : Bs, (((s.flatMap fun b => if b = 92 then [92, 92] else [b]).flatMap fun b => if b = 34 then [92, 34] else [b]).flatMap fun b => if b = 10 then [92, 110] else [b]).flatMap (fun b => if b = 9 then [92, 116] else [b]) = s.flatMap quoteB := by
    intro s
    induction s with
    | nil => rfl
    | cons c s ih =>
      simp only [List.flatMap_cons, List.flatMap_append]
      rw [ih]
      congr 1
      unfold quoteB
      by_cases h92 : c = 92
      · subst h92; rfl
      by_cases h34 : c = 34
      · subst h34; rfl
      by_cases h10 : c = 10
      · subst h10; rfl
      by_cases h9 : c = 9
      · subst h9; rfl
      simp [h92, h34, h10, h9]
  rw [h]
theorem quote_len (s : Bs) : (quote s).length ≤ 16 * s.length + 2 := by
  unfold quote
  have h : ∀ s : Bs, (s.flatMap quoteB).length ≤ 16 * s.length := by
    intro s
    induction s with
    | nil => simp
    | cons c s ih =>
      rw [List.flatMap_cons, List.length_append, List.length_cons]
      have : (quoteB c).length ≤ 2 := by unfold quoteB; split <;> (try split) <;> (try split) <;> simp
      omega
  have := h s
  rw [List.length_cons, List.length_append]
  simp only [List.length_cons, List.length_nil]
  omega
set_option maxRecDepth 100000 in
set_option maxHeartbeats 2000000 in
theorem rfquoted_any (s : ByteArray) (w : World) (hs : s.size ≤ 100000) (hR : Room w) :
    Calls Tryz.prog 37 #[.string s] w fun e w' => e = .returned (.string ⟨(quote s.data.toList).toArray⟩) ∧ Below w.heap.size w w' := by
  have HQ : Hid (34 :: (rep [9] [92, 116] (rep [10] [92, 110] (rep [34] [92, 34] (rep [92] [92, 92] s.data.toList))) ++ [34]) = quote s.data.toList) := rep4_quote _
  have HB0 : Hid (Below w.heap.size w w) := Below.refl _ _
  have HRm0 : Hid (Room w) := hR
  have HD0 : Hid (s.data.toList = s.data.toList) := rfl
  obtain ⟨h0, m0, hm0⟩ := hR
  go_enter Tryz.func37, Tryz.ntmps37
  go_wp2_with fail
  refine (Tryz.strings_ReplaceAll s ⟨#[92]⟩ ⟨#[92, 92]⟩ m0 _ (by omega) hm0 (by decide) (room_rep _ _ _ (by decide) (by decide) (by omega))).mono ?_
  rintro e w1 ⟨rfl, b1⟩
  have HB1 : Hid (Below w.heap.size w w1) := HB0.out.trans (b1.mono HB0.out.size)
  have HRm1 : Hid (Room w1) := HRm0.out.below b1
  obtain ⟨h01, m1, hm1⟩ := HRm1.out
  rw [show Lib.replaceAll s.data.toList (⟨#[92]⟩ : ByteArray).data.toList (⟨#[92, 92]⟩ : ByteArray).data.toList = rep [92] [92, 92] s.data.toList from by exact replaceAll_rep _ _ _ (by simp)]
  have hl1 : (rep [92] [92, 92] s.data.toList).length ≤ 2 * s.size := by
    have h9 := rep_one_len 92 [92, 92] (by simp) s.data.toList
    have h8 : (s.data.toList).length = s.size := by simp
    omega
  have hz1 : (⟨(rep [92] [92, 92] s.data.toList).toArray⟩ : ByteArray).size ≤ 200000 := by rw [size_of]; omega
  have HD1 : Hid ((⟨(rep [92] [92, 92] s.data.toList).toArray⟩ : ByteArray).data.toList = rep [92] [92, 92] s.data.toList) := by
    show _ = _
    simp
  clear b1 hl1 hm0
  generalize hx1 : (⟨(rep [92] [92, 92] s.data.toList).toArray⟩ : ByteArray) = x1 at *
  generalize rep [92] [92, 92] s.data.toList = y1 at *
  clear hx1
  go_wp2_with fail
  refine (Tryz.strings_ReplaceAll x1 ⟨#[34]⟩ ⟨#[92, 34]⟩ m1 _ (by omega) hm1 (by decide) (room_rep _ _ _ (by decide) (by decide) (by omega))).mono ?_
  rintro e w2 ⟨rfl, b2⟩
  have HB2 : Hid (Below w.heap.size w w2) := HB1.out.trans (b2.mono HB1.out.size)
  have HRm2 : Hid (Room w2) := HRm1.out.below b2
  obtain ⟨h02, m2, hm2⟩ := HRm2.out
  rw [show Lib.replaceAll x1.data.toList (⟨#[34]⟩ : ByteArray).data.toList (⟨#[92, 34]⟩ : ByteArray).data.toList = rep [34] [92, 34] y1 from by rw [HD1.out]; exact replaceAll_rep _ _ _ (by simp)]
  have hl2 : (rep [34] [92, 34] y1).length ≤ 2 * x1.size := by
    have h9 := rep_one_len 34 [92, 34] (by simp) y1
    have h8 : (y1).length = x1.size := by rw [← HD1.out]; simp
    omega
  have hz2 : (⟨(rep [34] [92, 34] y1).toArray⟩ : ByteArray).size ≤ 400000 := by rw [size_of]; omega
  have HD2 : Hid ((⟨(rep [34] [92, 34] y1).toArray⟩ : ByteArray).data.toList = rep [34] [92, 34] y1) := by
    show _ = _
    simp
  clear b2 hl2 hm1
  generalize hx2 : (⟨(rep [34] [92, 34] y1).toArray⟩ : ByteArray) = x2 at *
  generalize rep [34] [92, 34] y1 = y2 at *
  clear hx2
  go_wp2_with fail
  refine (Tryz.strings_ReplaceAll x2 ⟨#[10]⟩ ⟨#[92, 110]⟩ m2 _ (by omega) hm2 (by decide) (room_rep _ _ _ (by decide) (by decide) (by omega))).mono ?_
  rintro e w3 ⟨rfl, b3⟩
  have HB3 : Hid (Below w.heap.size w w3) := HB2.out.trans (b3.mono HB2.out.size)
  have HRm3 : Hid (Room w3) := HRm2.out.below b3
  obtain ⟨h03, m3, hm3⟩ := HRm3.out
  rw [show Lib.replaceAll x2.data.toList (⟨#[10]⟩ : ByteArray).data.toList (⟨#[92, 110]⟩ : ByteArray).data.toList = rep [10] [92, 110] y2 from by rw [HD2.out]; exact replaceAll_rep _ _ _ (by simp)]
  have hl3 : (rep [10] [92, 110] y2).length ≤ 2 * x2.size := by
    have h9 := rep_one_len 10 [92, 110] (by simp) y2
    have h8 : (y2).length = x2.size := by rw [← HD2.out]; simp
    omega
  have hz3 : (⟨(rep [10] [92, 110] y2).toArray⟩ : ByteArray).size ≤ 800000 := by rw [size_of]; omega
  have HD3 : Hid ((⟨(rep [10] [92, 110] y2).toArray⟩ : ByteArray).data.toList = rep [10] [92, 110] y2) := by
    show _ = _
    simp
  clear b3 hl3 hm2
  generalize hx3 : (⟨(rep [10] [92, 110] y2).toArray⟩ : ByteArray) = x3 at *
  generalize rep [10] [92, 110] y2 = y3 at *
  clear hx3
  go_wp2_with fail
  refine (Tryz.strings_ReplaceAll x3 ⟨#[9]⟩ ⟨#[92, 116]⟩ m3 _ (by omega) hm3 (by decide) (room_rep _ _ _ (by decide) (by decide) (by omega))).mono ?_
  rintro e w4 ⟨rfl, b4⟩
  have HB4 : Hid (Below w.heap.size w w4) := HB3.out.trans (b4.mono HB3.out.size)
  have HRm4 : Hid (Room w4) := HRm3.out.below b4
  obtain ⟨h04, m4, hm4⟩ := HRm4.out
  rw [show Lib.replaceAll x3.data.toList (⟨#[9]⟩ : ByteArray).data.toList (⟨#[92, 116]⟩ : ByteArray).data.toList = rep [9] [92, 116] y3 from by rw [HD3.out]; exact replaceAll_rep _ _ _ (by simp)]
  have hl4 : (rep [9] [92, 116] y3).length ≤ 2 * x3.size := by
    have h9 := rep_one_len 9 [92, 116] (by simp) y3
    have h8 : (y3).length = x3.size := by rw [← HD3.out]; simp
    omega
  have hz4 : (⟨(rep [9] [92, 116] y3).toArray⟩ : ByteArray).size ≤ 1600000 := by rw [size_of]; omega
  have HD4 : Hid ((⟨(rep [9] [92, 116] y3).toArray⟩ : ByteArray).data.toList = rep [9] [92, 116] y3) := by
    show _ = _
    simp
  clear b4 hl4 hm3
  generalize hx4 : (⟨(rep [9] [92, 116] y3).toArray⟩ : ByteArray) = x4 at *
  generalize rep [9] [92, 116] y3 = y4 at *
  clear hx4
  have q1 : ¬ 9223372036854775807 < 1 + x4.size := by omega
  have q2 : ¬ 9223372036854775807 < 1 + x4.size + 1 := by omega
  have HZ : Hid ((⟨#[34]⟩ : ByteArray) ++ x4 ++ ⟨#[34]⟩ = ⟨(quote s.data.toList).toArray⟩) := by
    show _ = _
    rw [← HQ.out, ← HD4.out]
    apply ByteArray.ext
    simp [ByteArray.data_append]
  go_wp2_with fail
  go_ret
  exact ⟨by rw [← HZ.out]; rfl, HB4.out⟩
end Go.Proofs.YtdadnidfkomnbaaGreatDoor
/- Contract over this translation of the reference's Text: how its values are told. -/
namespace Go.Proofs.YtdadnidfkomnbaaGreatDoor
open Go.RowKit
set_option linter.unusedVariables false
set_option linter.unusedSimpArgs false
def RTextOK (n : Nat) : Prop := ∀ (av : Nat → Prop) (j : J n) (v : Value) (w : World), RSt av w n j v → Fit n j → (tell n j).length ≤ 100000 → Room w →
  Calls Tryz.prog 30 #[v] w fun e w' => e = .returned (.string ⟨(tell n j).toArray⟩) ∧ Below w.heap.size w w'
set_option maxRecDepth 100000 in
set_option maxHeartbeats 2000000 in
theorem rftext_null (w : World) (pa pb : Option Addr) (na ca nb cb : Nat) : Calls Tryz.prog 30 #[rfV ⟨1, false, 0, []⟩ (.slice pa na ca) (.slice pb nb cb)] w fun e w' => e = .returned (.string ⟨(tellLeaf (none)).toArray⟩) ∧ Below w.heap.size w w' := by
  unfold rfV
  go_enter Tryz.func30, Tryz.ntmps30
  go_wp2_with fail
  go_ret
  exact ⟨rfl, (Below.refl _ _).alloc (Nat.le_refl _) _⟩
set_option maxRecDepth 100000 in
set_option maxHeartbeats 2000000 in
theorem rftext_true (w : World) (pa pb : Option Addr) (na ca nb cb : Nat) : Calls Tryz.prog 30 #[rfV ⟨2, true, 0, []⟩ (.slice pa na ca) (.slice pb nb cb)] w fun e w' => e = .returned (.string ⟨(tellLeaf (some (Sum.inl true))).toArray⟩) ∧ Below w.heap.size w w' := by
  unfold rfV
  go_enter Tryz.func30, Tryz.ntmps30
  go_wp2_with fail
  go_ret
  exact ⟨rfl, (Below.refl _ _).alloc (Nat.le_refl _) _⟩
set_option maxRecDepth 100000 in
set_option maxHeartbeats 2000000 in
theorem rftext_false (w : World) (pa pb : Option Addr) (na ca nb cb : Nat) : Calls Tryz.prog 30 #[rfV ⟨2, false, 0, []⟩ (.slice pa na ca) (.slice pb nb cb)] w fun e w' => e = .returned (.string ⟨(tellLeaf (some (Sum.inl false))).toArray⟩) ∧ Below w.heap.size w w' := by
  unfold rfV
  go_enter Tryz.func30, Tryz.ntmps30
  go_wp2_with fail
  go_ret
  exact ⟨rfl, (Below.refl _ _).alloc (Nat.le_refl _) _⟩
set_option maxRecDepth 100000 in
set_option maxHeartbeats 2000000 in
theorem rftext_num (w : World) (pa pb : Option Addr) (na ca nb cb : Nat) (i : Int) (h1 : -9223372036854775808 ≤ i) (h2 : i ≤ 9223372036854775807) : Calls Tryz.prog 30 #[rfV ⟨3, false, i, []⟩ (.slice pa na ca) (.slice pb nb cb)] w fun e w' => e = .returned (.string ⟨(tellLeaf (some (Sum.inr (Sum.inl i)))).toArray⟩) ∧ Below w.heap.size w w' := by
  unfold rfV
  go_enter Tryz.func30, Tryz.ntmps30
  go_wp2_with fail
  refine (rfDigits_any i h1 h2 _).mono ?_
  rintro e w1 ⟨rfl, b1⟩
  have HB1 : Hid (Below w.heap.size w w1) := ((Below.refl _ _).alloc (Nat.le_refl _) _).trans (b1.mono (by simp))
  obtain ⟨x, hx⟩ : ∃ x, x = (⟨(Lib.itoa i).toArray⟩ : ByteArray) := ⟨_, rfl⟩
  rw [← hx]
  have HXx : Hid (x = (⟨(Lib.itoa i).toArray⟩ : ByteArray)) := hx
  clear b1 hx
  go_wp2_with fail
  go_ret
  exact ⟨by rw [tellLeaf, ← HXx.out]; rfl, HB1.out⟩
set_option maxRecDepth 100000 in
set_option maxHeartbeats 2000000 in
theorem rftext_str (w : World) (pa pb : Option Addr) (na ca nb cb : Nat) (s : Bs) (hs : s.length ≤ 100000) (hR : Room w) : Calls Tryz.prog 30 #[rfV ⟨4, false, 0, s⟩ (.slice pa na ca) (.slice pb nb cb)] w fun e w' => e = .returned (.string ⟨(tellLeaf (some (Sum.inr (Sum.inr s)))).toArray⟩) ∧ Below w.heap.size w w' := by
  unfold rfV
  have hz : (⟨s.toArray⟩ : ByteArray).size ≤ 100000 := by rw [size_of]; exact hs
  have HD : Hid ((⟨s.toArray⟩ : ByteArray).data.toList = s) := by show _ = _; simp
  have HRm : Hid (∀ o, Room (w.alloc o)) := fun o => hR.below ((Below.refl _ _).alloc (Nat.le_refl _) _)
  clear hR
  generalize (⟨s.toArray⟩ : ByteArray) = sb at *
  go_enter Tryz.func30, Tryz.ntmps30
  go_wp2_with fail
  refine (rfquoted_any sb _ hz (HRm.out _)).mono ?_
  rintro e w1 ⟨rfl, b1⟩
  have HB1 : Hid (Below w.heap.size w w1) := ((Below.refl _ _).alloc (Nat.le_refl _) _).trans (b1.mono (by simp))
  rw [HD.out]
  obtain ⟨x, hx⟩ : ∃ x, x = (⟨(quote s).toArray⟩ : ByteArray) := ⟨_, rfl⟩
  rw [← hx]
  have HXx : Hid (x = (⟨(quote s).toArray⟩ : ByteArray)) := hx
  clear b1 hx
  go_wp2_with fail
  go_ret
  exact ⟨by rw [tellLeaf, ← HXx.out]; rfl, HB1.out⟩
theorem quoteB_pos' (c : UInt8) : 1 ≤ (quoteB c).length := by unfold quoteB; split <;> (try split) <;> (try split) <;> simp
theorem flatQ_ge : ∀ s : Bs, s.length ≤ (s.flatMap quoteB).length
  | [] => Nat.le_refl _
  | c :: s => by
    have := flatQ_ge s
    have := quoteB_pos' c
    rw [List.flatMap_cons, List.length_append, List.length_cons]
    omega
theorem quote_ge2 (s : Bs) : s.length ≤ (quote s).length := by
  have h := flatQ_ge s
  show _ ≤ (34 :: (s.flatMap quoteB ++ [34])).length
  rw [List.length_cons, List.length_append]
  omega
def TLoop (w : World) (ts : List Bs) (m K : Nat) (nm l : Value) (o i : Value) (wr : World) : Prop :=
  ∃ k : Nat, k ≤ m ∧ i = .int .i64 k ∧ o = .string ⟨(upTo ts k).toArray⟩ ∧ Below w.heap.size w wr ∧ Box wr w.heap.size ⟨K, false, 0, []⟩ nm l
theorem commas_in : ∀ (ts : List Bs) (t : Bs), t ∈ ts → t.length ≤ (commas ts).length
  | [], _, h => by cases h
  | [x], t, h => by simp at h; subst h; exact Nat.le_refl _
  | x :: y :: r, t, h => by
    simp only [commas, List.length_append, List.length_cons]
    rcases List.mem_cons.1 h with rfl | h
    · omega
    · have := commas_in (y :: r) t h
      omega
theorem three (a b : Bs) (x y : UInt8) : (⟨#[x]⟩ : ByteArray) ++ ⟨a.toArray⟩ ++ ⟨#[y]⟩ = ⟨(x :: (a ++ [y])).toArray⟩ := by
  apply ByteArray.ext
  simp [ByteArray.data_append]
theorem cat_two (a b : Bs) : (⟨a.toArray⟩ : ByteArray) ++ ⟨b.toArray⟩ = ⟨(a ++ b).toArray⟩ := by
  apply ByteArray.ext
  simp [ByteArray.data_append]
set_option maxRecDepth 100000 in
set_option maxHeartbeats 4000000 in
theorem rftext_list (n : Nat) (pa : Option Addr) (na ca : Nat) (ih : RTextOK n) (av : Nat → Prop) (xs : List (J n)) (vn vl : Value) (w : World) (hL : RVals av w n (xs) vl) (hF : ∀ f ∈ xs, Fit n f) (hlen : (tell (n + 1) (Sum.inr (Sum.inl xs))).length ≤ 100000) (hR : Room w) :
    Calls Tryz.prog 30 #[rfV ⟨5, false, 0, []⟩ (.slice pa na ca) vl] w fun e w' => e = .returned (.string ⟨(tell (n + 1) (Sum.inr (Sum.inl xs))).toArray⟩) ∧ Below w.heap.size w w' := by
  obtain ⟨pl, cl, rfl, hl1, hl2, hl3⟩ := hL.form
  have HL3 : Hid (∀ (i : Nat) (f : J n), xs[i]? = some f → ∃ g nm' l', pl = some ⟨g, 0, none⟩ ∧ g < w.heap.size ∧ Six w g (i * 6) (headJ n f) nm' l' ∧ RSt av w n f (rfV (headJ n f) nm' l')) := fun i f h => hl3 i f (h)
  unfold maxLen at hl2
  obtain ⟨ts, hts⟩ : ∃ ts, ts = xs.map (tell n) := ⟨_, rfl⟩
  have HTl : Hid (tell (n + 1) (Sum.inr (Sum.inl xs)) = 91 :: (commas ts ++ [93])) := by show tell _ _ = _; rw [hts]; rfl
  have hcl : (commas ts).length ≤ 100000 := by
    have h9 := hlen
    rw [HTl.out, List.length_cons, List.length_append] at h9
    omega
  have htl : ts.length = xs.length := by rw [hts, List.length_map]
  have HTs : Hid (∀ (i : Nat) (f : J n), xs[i]? = some f → ts[i]? = some (tell n f)) := fun i f h => by rw [hts, List.getElem?_map, h]; rfl
  have HIn : Hid (∀ (i : Nat) (t : Bs), ts[i]? = some t → t.length ≤ (commas ts).length) := fun i t h => commas_in ts t (List.mem_of_getElem? h)
  have HF : Hid (∀ f ∈ xs, Fit n f) := hF
  have HIh : Hid (RTextOK n) := ih
  have HRm : Hid (Room w) := hR
  have HUl : Hid (∀ k, (upTo ts k).length ≤ (commas ts).length) := fun k => upTo_len ts k
  unfold rfV
  obtain ⟨w0, hw0⟩ : ∃ w0, w0 = w.alloc (.cells #[.int .i64 5, .bool false, .int .i64 0, .string ⟨#[]⟩, .slice pa na ca, .slice pl xs.length cl] 29) := ⟨_, rfl⟩
  have HW0 : Hid (w0 = w.alloc (.cells #[.int .i64 5, .bool false, .int .i64 0, .string ⟨#[]⟩, .slice pa na ca, .slice pl xs.length cl] 29)) := hw0
  have HV0 : Hid (Box w0 w.heap.size ⟨5, false, 0, []⟩ (.slice pa na ca) (.slice pl xs.length cl)) := by show Box _ _ _ _ _; rw [hw0]; exact box_new w ⟨5, false, 0, []⟩ _ _
  have HB0 : Hid (Below w.heap.size w w0) := by show Below _ _ _; rw [hw0]; exact (Below.refl _ _).alloc (Nat.le_refl _) _
  clear hw0 hts hlen hF ih hR hL hl3
  go_enter Tryz.func30, Tryz.ntmps30
  go_wp2
  rw [← HW0.out]
  go_loopw [3, 28] (fun o i wr => TLoop w ts xs.length 5 (.slice pa na ca) (.slice pl xs.length cl) o i wr) (fun _ i _ => xs.length - (intOf i).toNat)
  case atStart => exact ⟨0, Nat.zero_le _, rfl, by rw [upTo_zero], HB0.out, HV0.out⟩
  case round =>
    obtain ⟨k, hk, rfl, rfl, hB, hV⟩ := hrel
    have HB : Hid (Below w.heap.size w wr) := hB
    have HV : Hid (Box wr w.heap.size ⟨5, false, 0, []⟩ (.slice pa na ca) (.slice pl xs.length cl)) := hV
    have v0 := hV.c0
    have v4 := hV.c4
    have v5 := hV.c5
    obtain ⟨xo, hxo⟩ : ∃ xo, xo = (⟨(upTo ts k).toArray⟩ : ByteArray) := ⟨_, rfl⟩
    have hxz : xo.size ≤ 100000 := by rw [hxo, size_of]; have := HUl.out k; omega
    have HXo : Hid (xo = (⟨(upTo ts k).toArray⟩ : ByteArray)) := hxo
    rw [← hxo]
    clear hB hV hxo HV0 HB0 HW0
    by_cases hlt : k < xs.length
    · obtain ⟨f, hfk⟩ : ∃ f, xs[k]? = some f := ⟨xs[k], List.getElem?_eq_getElem hlt⟩
      have HK : Hid (xs[k]? = some f) := hfk
      obtain ⟨g', nm', l', rfl, hg', h6, hst⟩ := HL3.out k f hfk
      obtain ⟨⟨p1, k1, c1, rfl⟩, p2, k2, c2, rfl⟩ := rst_sl hst
      obtain ⟨x0, x1, x2, x3, x4, x5⟩ := h6.keep (HB.out.block g' hg')
      have HSt : Hid (∀ w1, Below w.heap.size w w1 → RSt av w1 n f (rfV (headJ n f) (.slice p1 k1 c1) (.slice p2 k2 c2))) := fun w1 b => hst.below b
      have hT1 := HTs.out k f hfk
      have hT2 := HIn.out k _ hT1
      have hkt : k < ts.length := by omega
      have hgk : ts[k] = tell n f := by rw [List.getElem?_eq_getElem hkt] at hT1; exact Option.some.inj hT1
      have htz : (tell n f).length ≤ 100000 := by omega
      have HStep : Hid ((k = 0 → upTo ts (k + 1) = ts[k]) ∧ (0 < k → upTo ts (k + 1) = upTo ts k ++ 44 :: ts[k])) := ⟨fun h0 => by subst h0; exact upTo_one ts hkt, fun h0 => upTo_step ts k hkt h0⟩
      have HGk : Hid (ts[k] = tell n f) := hgk
      have HTz : Hid ((⟨(tell n f).toArray⟩ : ByteArray).size ≤ 100000) := by show _ ≤ _; rw [size_of]; exact htz
      have HCall : Hid (∀ w1, Below w.heap.size w w1 → Calls Tryz.prog 30 #[rfV (headJ n f) (.slice p1 k1 c1) (.slice p2 k2 c2)] w1 fun e w' => e = .returned (.string ⟨(tell n f).toArray⟩) ∧ Below w1.heap.size w1 w') := fun w1 b => HIh.out av f _ w1 (HSt.out w1 b) (HF.out f (List.mem_of_getElem? HK.out)) htz (HRm.out.below b)
      have hkI : (k : Int) < (xs.length : Int) := by omega
      have v0' : ∀ o, (wr.alloc o).cell? ⟨w.heap.size, 0, none⟩ = some (.int .i64 5) := fun o => cell_alloc_old v0
      have v4' : ∀ o, (wr.alloc o).cell? ⟨w.heap.size, 4, none⟩ = some (.slice pa na ca) := fun o => cell_alloc_old v4
      clear hst h6 hfk hT1 hT2 hgk htz
      by_cases hk0 : k = 0
      · have hkb : ¬ (0 : Int) < (k : Int) := by omega
        have HXn : Hid (xo = ⟨#[]⟩) := by show xo = _; rw [HXo.out, hk0, upTo_zero]
        have HU : Hid (upTo ts (k + 1) = ts[k]) := HStep.out.1 hk0
        have qa : ¬ 9223372036854775807 < xo.size + 1 := by omega
        clear hk0
        go_wp2_with fail
        have HB2 : Hid (Below w.heap.size w (wr.alloc (.cells #[.int .i64 (headJ n f).k, .bool (headJ n f).b, .int .i64 (headJ n f).i, .string ⟨(headJ n f).s.toArray⟩, .slice p1 k1 c1, .slice p2 k2 c2] 29))) := HB.out.alloc HB.out.size _
        have HV2 : Hid (Box (wr.alloc (.cells #[.int .i64 (headJ n f).k, .bool (headJ n f).b, .int .i64 (headJ n f).i, .string ⟨(headJ n f).s.toArray⟩, .slice p1 k1 c1, .slice p2 k2 c2] 29)) w.heap.size ⟨5, false, 0, []⟩ (.slice pa na ca) (.slice (some ⟨g', 0, none⟩) xs.length cl)) := HV.out.alloc _
        have HE2 : Hid (Box (wr.alloc (.cells #[.int .i64 (headJ n f).k, .bool (headJ n f).b, .int .i64 (headJ n f).i, .string ⟨(headJ n f).s.toArray⟩, .slice p1 k1 c1, .slice p2 k2 c2] 29)) wr.heap.size (headJ n f) (.slice p1 k1 c1) (.slice p2 k2 c2)) := box_new wr _ _ _
        have HTx0 : Hid (∃ tx, tx = (⟨(tell n f).toArray⟩ : ByteArray)) := ⟨_, rfl⟩
        have hc := HCall.out _ HB2.out
        unfold rfV at hc
        refine Calls.mono hc ?_
        rintro e w3 ⟨rfl, b3⟩
        have HB3 : Hid (Below w.heap.size w w3) := HB2.out.trans (b3.mono HB2.out.size)
        have HV3 : Hid (Box w3 w.heap.size ⟨5, false, 0, []⟩ (.slice pa na ca) (.slice (some ⟨g', 0, none⟩) xs.length cl)) := HV2.out.below b3
        obtain ⟨tx, htx⟩ : ∃ tx, tx = (⟨(tell n f).toArray⟩ : ByteArray) := ⟨_, rfl⟩
        have htz2 := HTz.out
        rw [← htx] at htz2
        rw [← htx]
        have HOut : Hid (xo ++ tx = ⟨(upTo ts (k + 1)).toArray⟩) := by
          show _ = _
          rw [HU.out, HGk.out, HXn.out, htx]
          apply ByteArray.ext
          simp [ByteArray.data_append]
        have qe0 : ¬ 9223372036854775807 < xo.size + tx.size := by omega
        have qe1 : ¬ 9223372036854775807 < xo.size + 1 + tx.size := by omega
        clear b3 hc htx
        go_wp2_with fail
        go_roundw
        case rel =>
          have hrelN : TLoop w ts xs.length 5 (.slice pa na ca) (.slice (some ⟨g', 0, none⟩) xs.length cl) (.string (xo ++ tx)) (.int .i64 ((k : Int) + 1)) w3 := ⟨k + 1, by omega, by go_num, by rw [HOut.out], HB3.out, HV3.out⟩
          first | exact hrelN | ((repeat apply Exists.intro); refine ⟨hrelN, ?_⟩; first | rfl | exact ⟨rfl, rfl⟩ | exact ⟨rfl, rfl, rfl⟩ | exact ⟨rfl, rfl, rfl, rfl⟩ | exact ⟨rfl, rfl, rfl, rfl, rfl⟩)
        case measure => (simp [intOf]; omega)
      · have hkb : (0 : Int) < (k : Int) := by omega
        have HU : Hid (upTo ts (k + 1) = upTo ts k ++ 44 :: ts[k]) := HStep.out.2 (by omega)
        have qa : ¬ 9223372036854775807 < xo.size + 1 := by omega
        clear hk0
        go_wp2_with fail
        have HB2 : Hid (Below w.heap.size w (wr.alloc (.cells #[.int .i64 (headJ n f).k, .bool (headJ n f).b, .int .i64 (headJ n f).i, .string ⟨(headJ n f).s.toArray⟩, .slice p1 k1 c1, .slice p2 k2 c2] 29))) := HB.out.alloc HB.out.size _
        have HV2 : Hid (Box (wr.alloc (.cells #[.int .i64 (headJ n f).k, .bool (headJ n f).b, .int .i64 (headJ n f).i, .string ⟨(headJ n f).s.toArray⟩, .slice p1 k1 c1, .slice p2 k2 c2] 29)) w.heap.size ⟨5, false, 0, []⟩ (.slice pa na ca) (.slice (some ⟨g', 0, none⟩) xs.length cl)) := HV.out.alloc _
        have HE2 : Hid (Box (wr.alloc (.cells #[.int .i64 (headJ n f).k, .bool (headJ n f).b, .int .i64 (headJ n f).i, .string ⟨(headJ n f).s.toArray⟩, .slice p1 k1 c1, .slice p2 k2 c2] 29)) wr.heap.size (headJ n f) (.slice p1 k1 c1) (.slice p2 k2 c2)) := box_new wr _ _ _
        have HTx0 : Hid (∃ tx, tx = (⟨(tell n f).toArray⟩ : ByteArray)) := ⟨_, rfl⟩
        have hc := HCall.out _ HB2.out
        unfold rfV at hc
        refine Calls.mono hc ?_
        rintro e w3 ⟨rfl, b3⟩
        have HB3 : Hid (Below w.heap.size w w3) := HB2.out.trans (b3.mono HB2.out.size)
        have HV3 : Hid (Box w3 w.heap.size ⟨5, false, 0, []⟩ (.slice pa na ca) (.slice (some ⟨g', 0, none⟩) xs.length cl)) := HV2.out.below b3
        obtain ⟨tx, htx⟩ : ∃ tx, tx = (⟨(tell n f).toArray⟩ : ByteArray) := ⟨_, rfl⟩
        have htz2 := HTz.out
        rw [← htx] at htz2
        rw [← htx]
        have HOut : Hid (xo ++ ⟨#[44]⟩ ++ tx = ⟨(upTo ts (k + 1)).toArray⟩) := by
          show _ = _
          rw [HU.out, HGk.out, HXo.out, htx]
          apply ByteArray.ext
          simp [ByteArray.data_append]
        have qe0 : ¬ 9223372036854775807 < xo.size + tx.size := by omega
        have qe1 : ¬ 9223372036854775807 < xo.size + 1 + tx.size := by omega
        clear b3 hc htx
        go_wp2_with fail
        go_roundw
        case rel =>
          have hrelN : TLoop w ts xs.length 5 (.slice pa na ca) (.slice (some ⟨g', 0, none⟩) xs.length cl) (.string (xo ++ ⟨#[44]⟩ ++ tx)) (.int .i64 ((k : Int) + 1)) w3 := ⟨k + 1, by omega, by go_num, by rw [HOut.out], HB3.out, HV3.out⟩
          first | exact hrelN | ((repeat apply Exists.intro); refine ⟨hrelN, ?_⟩; first | rfl | exact ⟨rfl, rfl⟩ | exact ⟨rfl, rfl, rfl⟩ | exact ⟨rfl, rfl, rfl, rfl⟩ | exact ⟨rfl, rfl, rfl, rfl, rfl⟩)
        case measure => (simp [intOf]; omega)
    · have HXa : Hid (xo = ⟨(commas ts).toArray⟩) := by show xo = _; rw [HXo.out, upTo_all ts k (by omega)]
      have HZ : Hid ((⟨#[91]⟩ : ByteArray) ++ xo ++ ⟨#[93]⟩ = ⟨(tell (n + 1) (Sum.inr (Sum.inl xs))).toArray⟩) := by
        show _ = _
        rw [HTl.out, HXa.out, three (commas ts) []]
      have qa : ¬ 9223372036854775807 < 1 + xo.size := by omega
      have qb : ¬ 9223372036854775807 < 1 + xo.size + 1 := by omega
      go_wp2_with fail
      go_ret
      exact ⟨by rw [← HZ.out]; rfl, HB.out⟩
set_option maxRecDepth 100000 in
set_option maxHeartbeats 4000000 in
theorem rftext_obj (n : Nat) (pa : Option Addr) (na ca : Nat) (ih : RTextOK n) (av : Nat → Prop) (fs : List (Bs × J n)) (vn vl : Value) (w : World) (hN : RStrs av w (fs.map fun f => f.1) vn) (hL : RVals av w n (fs.map fun f => f.2) vl) (hF : ∀ f ∈ fs, Fit n f.2) (hlen : (tell (n + 1) (Sum.inr (Sum.inr fs))).length ≤ 100000) (hR : Room w) :
    Calls Tryz.prog 30 #[rfV ⟨6, false, 0, []⟩ vn vl] w fun e w' => e = .returned (.string ⟨(tell (n + 1) (Sum.inr (Sum.inr fs))).toArray⟩) ∧ Below w.heap.size w w' := by
  obtain ⟨pn, cn, rfl, hn1, hn2, hn3⟩ := hN.form
  rw [List.length_map] at hn1
  rw [List.length_map]
  have HN3 : Hid (∀ (i : Nat) (f : Bs × J n), fs[i]? = some f → ∃ g, pn = some ⟨g, 0, none⟩ ∧ g < w.heap.size ∧ w.cell? ⟨g, i, none⟩ = some (.string ⟨f.1.toArray⟩)) := fun i f h => hn3 i f.1 (by rw [List.getElem?_map, h]; rfl)
  unfold maxLen at hn2
  clear hn3 hN
  obtain ⟨pl, cl, rfl, hl1, hl2, hl3⟩ := hL.form
  rw [List.length_map] at hl1
  rw [List.length_map]
  have HL3 : Hid (∀ (i : Nat) (f : Bs × J n), fs[i]? = some f → ∃ g nm' l', pl = some ⟨g, 0, none⟩ ∧ g < w.heap.size ∧ Six w g (i * 6) (headJ n f.2) nm' l' ∧ RSt av w n f.2 (rfV (headJ n f.2) nm' l')) := fun i f h => hl3 i f.2 (by rw [List.getElem?_map, h]; rfl)
  unfold maxLen at hl2
  obtain ⟨ts, hts⟩ : ∃ ts, ts = fs.map fun f => quote f.1 ++ 58 :: tell n f.2 := ⟨_, rfl⟩
  have HTl : Hid (tell (n + 1) (Sum.inr (Sum.inr fs)) = 123 :: (commas ts ++ [125])) := by show tell _ _ = _; rw [hts]; rfl
  have hcl : (commas ts).length ≤ 100000 := by
    have h9 := hlen
    rw [HTl.out, List.length_cons, List.length_append] at h9
    omega
  have htl : ts.length = fs.length := by rw [hts, List.length_map]
  have HTs : Hid (∀ (i : Nat) (f : Bs × J n), fs[i]? = some f → ts[i]? = some (quote f.1 ++ 58 :: tell n f.2)) := fun i f h => by rw [hts, List.getElem?_map, h]; rfl
  have HIn : Hid (∀ (i : Nat) (t : Bs), ts[i]? = some t → t.length ≤ (commas ts).length) := fun i t h => commas_in ts t (List.mem_of_getElem? h)
  have HF : Hid (∀ f ∈ fs, Fit n f.2) := hF
  have HIh : Hid (RTextOK n) := ih
  have HRm : Hid (Room w) := hR
  have HUl : Hid (∀ k, (upTo ts k).length ≤ (commas ts).length) := fun k => upTo_len ts k
  unfold rfV
  obtain ⟨w0, hw0⟩ : ∃ w0, w0 = w.alloc (.cells #[.int .i64 6, .bool false, .int .i64 0, .string ⟨#[]⟩, .slice pn fs.length cn, .slice pl fs.length cl] 29) := ⟨_, rfl⟩
  have HW0 : Hid (w0 = w.alloc (.cells #[.int .i64 6, .bool false, .int .i64 0, .string ⟨#[]⟩, .slice pn fs.length cn, .slice pl fs.length cl] 29)) := hw0
  have HV0 : Hid (Box w0 w.heap.size ⟨6, false, 0, []⟩ (.slice pn fs.length cn) (.slice pl fs.length cl)) := by show Box _ _ _ _ _; rw [hw0]; exact box_new w ⟨6, false, 0, []⟩ _ _
  have HB0 : Hid (Below w.heap.size w w0) := by show Below _ _ _; rw [hw0]; exact (Below.refl _ _).alloc (Nat.le_refl _) _
  clear hw0 hts hlen hF ih hR hL hl3
  go_enter Tryz.func30, Tryz.ntmps30
  go_wp2
  rw [← HW0.out]
  go_loopw [3, 28] (fun o i wr => TLoop w ts fs.length 6 (.slice pn fs.length cn) (.slice pl fs.length cl) o i wr) (fun _ i _ => fs.length - (intOf i).toNat)
  case atStart => exact ⟨0, Nat.zero_le _, rfl, by rw [upTo_zero], HB0.out, HV0.out⟩
  case round =>
    obtain ⟨k, hk, rfl, rfl, hB, hV⟩ := hrel
    have HB : Hid (Below w.heap.size w wr) := hB
    have HV : Hid (Box wr w.heap.size ⟨6, false, 0, []⟩ (.slice pn fs.length cn) (.slice pl fs.length cl)) := hV
    have v0 := hV.c0
    have v4 := hV.c4
    have v5 := hV.c5
    obtain ⟨xo, hxo⟩ : ∃ xo, xo = (⟨(upTo ts k).toArray⟩ : ByteArray) := ⟨_, rfl⟩
    have hxz : xo.size ≤ 100000 := by rw [hxo, size_of]; have := HUl.out k; omega
    have HXo : Hid (xo = (⟨(upTo ts k).toArray⟩ : ByteArray)) := hxo
    rw [← hxo]
    clear hB hV hxo HV0 HB0 HW0
    by_cases hlt : k < fs.length
    · obtain ⟨f, hfk⟩ : ∃ f, fs[k]? = some f := ⟨fs[k], List.getElem?_eq_getElem hlt⟩
      have HK : Hid (fs[k]? = some f) := hfk
      obtain ⟨g', nm', l', rfl, hg', h6, hst⟩ := HL3.out k f hfk
      obtain ⟨⟨p1, k1, c1, rfl⟩, p2, k2, c2, rfl⟩ := rst_sl hst
      obtain ⟨x0, x1, x2, x3, x4, x5⟩ := h6.keep (HB.out.block g' hg')
      have HSt : Hid (∀ w1, Below w.heap.size w w1 → RSt av w1 n f.2 (rfV (headJ n f.2) (.slice p1 k1 c1) (.slice p2 k2 c2))) := fun w1 b => hst.below b
      have hT1 := HTs.out k f hfk
      have hT2 := HIn.out k _ hT1
      have hkt : k < ts.length := by omega
      have hgk : ts[k] = quote f.1 ++ 58 :: tell n f.2 := by rw [List.getElem?_eq_getElem hkt] at hT1; exact Option.some.inj hT1
      obtain ⟨g, rfl, hg, hgc⟩ := HN3.out k f hfk
      have nn : wr.cell? ⟨g, k, none⟩ = some (.string ⟨f.1.toArray⟩) := (HB.out.cell (p := ⟨g, k, none⟩) hg).trans hgc
      have nn2 : ∀ o, (wr.alloc o).cell? ⟨g, k, none⟩ = some (.string ⟨f.1.toArray⟩) := fun o => cell_alloc_old nn
      have hql : f.1.length ≤ 100000 := by
        have := quote_ge2 f.1
        rw [List.length_append] at hT2
        omega
      have hqz : (quote f.1).length ≤ 100000 := by rw [List.length_append] at hT2; omega
      have htz : (tell n f.2).length ≤ 100000 := by rw [List.length_append, List.length_cons] at hT2; omega
      have HStep : Hid ((k = 0 → upTo ts (k + 1) = ts[k]) ∧ (0 < k → upTo ts (k + 1) = upTo ts k ++ 44 :: ts[k])) := ⟨fun h0 => by subst h0; exact upTo_one ts hkt, fun h0 => upTo_step ts k hkt h0⟩
      have HGk : Hid (ts[k] = quote f.1 ++ 58 :: tell n f.2) := hgk
      have HTz : Hid ((⟨(tell n f.2).toArray⟩ : ByteArray).size ≤ 100000) := by show _ ≤ _; rw [size_of]; exact htz
      have HCall : Hid (∀ w1, Below w.heap.size w w1 → Calls Tryz.prog 30 #[rfV (headJ n f.2) (.slice p1 k1 c1) (.slice p2 k2 c2)] w1 fun e w' => e = .returned (.string ⟨(tell n f.2).toArray⟩) ∧ Below w1.heap.size w1 w') := fun w1 b => HIh.out av f.2 _ w1 (HSt.out w1 b) (HF.out f (List.mem_of_getElem? HK.out)) htz (HRm.out.below b)
      have hkI : (k : Int) < (fs.length : Int) := by omega
      have v0' : ∀ o, (wr.alloc o).cell? ⟨w.heap.size, 0, none⟩ = some (.int .i64 6) := fun o => cell_alloc_old v0
      have v4' : ∀ o, (wr.alloc o).cell? ⟨w.heap.size, 4, none⟩ = some (.slice (some ⟨g, 0, none⟩) fs.length cn) := fun o => cell_alloc_old v4
      clear hst h6 hfk hT1 hT2 hgk htz
      by_cases hk0 : k = 0
      · have hkb : ¬ (0 : Int) < (k : Int) := by omega
        have HXn : Hid (xo = ⟨#[]⟩) := by show xo = _; rw [HXo.out, hk0, upTo_zero]
        have HU : Hid (upTo ts (k + 1) = ts[k]) := HStep.out.1 hk0
        have qa : ¬ 9223372036854775807 < xo.size + 1 := by omega
        clear hk0
        go_wp2_with fail
        have HB2 : Hid (Below w.heap.size w (wr.alloc (.cells #[.int .i64 (headJ n f.2).k, .bool (headJ n f.2).b, .int .i64 (headJ n f.2).i, .string ⟨(headJ n f.2).s.toArray⟩, .slice p1 k1 c1, .slice p2 k2 c2] 29))) := HB.out.alloc HB.out.size _
        have HV2 : Hid (Box (wr.alloc (.cells #[.int .i64 (headJ n f.2).k, .bool (headJ n f.2).b, .int .i64 (headJ n f.2).i, .string ⟨(headJ n f.2).s.toArray⟩, .slice p1 k1 c1, .slice p2 k2 c2] 29)) w.heap.size ⟨6, false, 0, []⟩ (.slice (some ⟨g, 0, none⟩) fs.length cn) (.slice (some ⟨g', 0, none⟩) fs.length cl)) := HV.out.alloc _
        have HE2 : Hid (Box (wr.alloc (.cells #[.int .i64 (headJ n f.2).k, .bool (headJ n f.2).b, .int .i64 (headJ n f.2).i, .string ⟨(headJ n f.2).s.toArray⟩, .slice p1 k1 c1, .slice p2 k2 c2] 29)) wr.heap.size (headJ n f.2) (.slice p1 k1 c1) (.slice p2 k2 c2)) := box_new wr _ _ _
        have HTx0 : Hid (∃ tx, tx = (⟨(tell n f.2).toArray⟩ : ByteArray)) := ⟨_, rfl⟩
        have hqq := (rfquoted_any ⟨f.1.toArray⟩ (wr.alloc (.cells #[.int .i64 (headJ n f.2).k, .bool (headJ n f.2).b, .int .i64 (headJ n f.2).i, .string ⟨(headJ n f.2).s.toArray⟩, .slice p1 k1 c1, .slice p2 k2 c2] 29)) (by rw [size_of]; exact hql) (HRm.out.below HB2.out))
        rw [show (⟨f.1.toArray⟩ : ByteArray).data.toList = f.1 from by simp] at hqq
        refine Calls.mono hqq ?_
        rintro e w2 ⟨rfl, b2⟩
        have HB2b : Hid (Below w.heap.size w w2) := HB2.out.trans (b2.mono HB2.out.size)
        have HV2b : Hid (Box w2 w.heap.size ⟨6, false, 0, []⟩ (.slice (some ⟨g, 0, none⟩) fs.length cn) (.slice (some ⟨g', 0, none⟩) fs.length cl)) := HV2.out.below b2
        have HE2b : Hid (Box w2 wr.heap.size (headJ n f.2) (.slice p1 k1 c1) (.slice p2 k2 c2)) := HE2.out.below b2
        obtain ⟨qx, hqx⟩ : ∃ qx, qx = (⟨(quote f.1).toArray⟩ : ByteArray) := ⟨_, rfl⟩
        rw [← hqx]
        have hqs : qx.size ≤ 100000 := by rw [hqx, size_of]; exact hqz
        have HQx : Hid (qx = (⟨(quote f.1).toArray⟩ : ByteArray)) := hqx
        have y0 := HE2b.out.c0
        have y1 := HE2b.out.c1
        have y2 := HE2b.out.c2
        have y3 := HE2b.out.c3
        have y4 := HE2b.out.c4
        have y5 := HE2b.out.c5
        have qb : ¬ 9223372036854775807 < qx.size + 1 := by omega
        have qc : ¬ 9223372036854775807 < xo.size + (qx.size + 1) := by omega
        have qd : ¬ 9223372036854775807 < xo.size + 1 + (qx.size + 1) := by omega
        clear b2 hqx hqq
        go_wp2_with fail
        have hc := HCall.out _ HB2b.out
        unfold rfV at hc
        refine Calls.mono hc ?_
        rintro e w3 ⟨rfl, b3⟩
        have HB3 : Hid (Below w.heap.size w w3) := HB2b.out.trans (b3.mono HB2b.out.size)
        have HV3 : Hid (Box w3 w.heap.size ⟨6, false, 0, []⟩ (.slice (some ⟨g, 0, none⟩) fs.length cn) (.slice (some ⟨g', 0, none⟩) fs.length cl)) := HV2b.out.below b3
        obtain ⟨tx, htx⟩ : ∃ tx, tx = (⟨(tell n f.2).toArray⟩ : ByteArray) := ⟨_, rfl⟩
        have htz2 := HTz.out
        rw [← htx] at htz2
        rw [← htx]
        have HOut : Hid (xo ++ (qx ++ ⟨#[58]⟩) ++ tx = ⟨(upTo ts (k + 1)).toArray⟩) := by
          show _ = _
          rw [HU.out, HGk.out, HXn.out, htx, HQx.out]
          apply ByteArray.ext
          simp [ByteArray.data_append]
        have qe0 : ¬ 9223372036854775807 < xo.size + tx.size := by omega
        have qe1 : ¬ 9223372036854775807 < xo.size + 1 + tx.size := by omega
        have qe2 : ¬ 9223372036854775807 < xo.size + (qx.size + 1) + tx.size := by omega
        have qe3 : ¬ 9223372036854775807 < xo.size + 1 + (qx.size + 1) + tx.size := by omega
        clear b3 hc htx
        go_wp2_with fail
        go_roundw
        case rel =>
          have hrelN : TLoop w ts fs.length 6 (.slice (some ⟨g, 0, none⟩) fs.length cn) (.slice (some ⟨g', 0, none⟩) fs.length cl) (.string (xo ++ (qx ++ ⟨#[58]⟩) ++ tx)) (.int .i64 ((k : Int) + 1)) w3 := ⟨k + 1, by omega, by go_num, by rw [HOut.out], HB3.out, HV3.out⟩
          first | exact hrelN | ((repeat apply Exists.intro); refine ⟨hrelN, ?_⟩; first | rfl | exact ⟨rfl, rfl⟩ | exact ⟨rfl, rfl, rfl⟩ | exact ⟨rfl, rfl, rfl, rfl⟩ | exact ⟨rfl, rfl, rfl, rfl, rfl⟩)
        case measure => (simp [intOf]; omega)
      · have hkb : (0 : Int) < (k : Int) := by omega
        have HU : Hid (upTo ts (k + 1) = upTo ts k ++ 44 :: ts[k]) := HStep.out.2 (by omega)
        have qa : ¬ 9223372036854775807 < xo.size + 1 := by omega
        clear hk0
        go_wp2_with fail
        have HB2 : Hid (Below w.heap.size w (wr.alloc (.cells #[.int .i64 (headJ n f.2).k, .bool (headJ n f.2).b, .int .i64 (headJ n f.2).i, .string ⟨(headJ n f.2).s.toArray⟩, .slice p1 k1 c1, .slice p2 k2 c2] 29))) := HB.out.alloc HB.out.size _
        have HV2 : Hid (Box (wr.alloc (.cells #[.int .i64 (headJ n f.2).k, .bool (headJ n f.2).b, .int .i64 (headJ n f.2).i, .string ⟨(headJ n f.2).s.toArray⟩, .slice p1 k1 c1, .slice p2 k2 c2] 29)) w.heap.size ⟨6, false, 0, []⟩ (.slice (some ⟨g, 0, none⟩) fs.length cn) (.slice (some ⟨g', 0, none⟩) fs.length cl)) := HV.out.alloc _
        have HE2 : Hid (Box (wr.alloc (.cells #[.int .i64 (headJ n f.2).k, .bool (headJ n f.2).b, .int .i64 (headJ n f.2).i, .string ⟨(headJ n f.2).s.toArray⟩, .slice p1 k1 c1, .slice p2 k2 c2] 29)) wr.heap.size (headJ n f.2) (.slice p1 k1 c1) (.slice p2 k2 c2)) := box_new wr _ _ _
        have HTx0 : Hid (∃ tx, tx = (⟨(tell n f.2).toArray⟩ : ByteArray)) := ⟨_, rfl⟩
        have hqq := (rfquoted_any ⟨f.1.toArray⟩ (wr.alloc (.cells #[.int .i64 (headJ n f.2).k, .bool (headJ n f.2).b, .int .i64 (headJ n f.2).i, .string ⟨(headJ n f.2).s.toArray⟩, .slice p1 k1 c1, .slice p2 k2 c2] 29)) (by rw [size_of]; exact hql) (HRm.out.below HB2.out))
        rw [show (⟨f.1.toArray⟩ : ByteArray).data.toList = f.1 from by simp] at hqq
        refine Calls.mono hqq ?_
        rintro e w2 ⟨rfl, b2⟩
        have HB2b : Hid (Below w.heap.size w w2) := HB2.out.trans (b2.mono HB2.out.size)
        have HV2b : Hid (Box w2 w.heap.size ⟨6, false, 0, []⟩ (.slice (some ⟨g, 0, none⟩) fs.length cn) (.slice (some ⟨g', 0, none⟩) fs.length cl)) := HV2.out.below b2
        have HE2b : Hid (Box w2 wr.heap.size (headJ n f.2) (.slice p1 k1 c1) (.slice p2 k2 c2)) := HE2.out.below b2
        obtain ⟨qx, hqx⟩ : ∃ qx, qx = (⟨(quote f.1).toArray⟩ : ByteArray) := ⟨_, rfl⟩
        rw [← hqx]
        have hqs : qx.size ≤ 100000 := by rw [hqx, size_of]; exact hqz
        have HQx : Hid (qx = (⟨(quote f.1).toArray⟩ : ByteArray)) := hqx
        have y0 := HE2b.out.c0
        have y1 := HE2b.out.c1
        have y2 := HE2b.out.c2
        have y3 := HE2b.out.c3
        have y4 := HE2b.out.c4
        have y5 := HE2b.out.c5
        have qb : ¬ 9223372036854775807 < qx.size + 1 := by omega
        have qc : ¬ 9223372036854775807 < xo.size + (qx.size + 1) := by omega
        have qd : ¬ 9223372036854775807 < xo.size + 1 + (qx.size + 1) := by omega
        clear b2 hqx hqq
        go_wp2_with fail
        have hc := HCall.out _ HB2b.out
        unfold rfV at hc
        refine Calls.mono hc ?_
        rintro e w3 ⟨rfl, b3⟩
        have HB3 : Hid (Below w.heap.size w w3) := HB2b.out.trans (b3.mono HB2b.out.size)
        have HV3 : Hid (Box w3 w.heap.size ⟨6, false, 0, []⟩ (.slice (some ⟨g, 0, none⟩) fs.length cn) (.slice (some ⟨g', 0, none⟩) fs.length cl)) := HV2b.out.below b3
        obtain ⟨tx, htx⟩ : ∃ tx, tx = (⟨(tell n f.2).toArray⟩ : ByteArray) := ⟨_, rfl⟩
        have htz2 := HTz.out
        rw [← htx] at htz2
        rw [← htx]
        have HOut : Hid (xo ++ ⟨#[44]⟩ ++ (qx ++ ⟨#[58]⟩) ++ tx = ⟨(upTo ts (k + 1)).toArray⟩) := by
          show _ = _
          rw [HU.out, HGk.out, HXo.out, htx, HQx.out]
          apply ByteArray.ext
          simp [ByteArray.data_append]
        have qe0 : ¬ 9223372036854775807 < xo.size + tx.size := by omega
        have qe1 : ¬ 9223372036854775807 < xo.size + 1 + tx.size := by omega
        have qe2 : ¬ 9223372036854775807 < xo.size + (qx.size + 1) + tx.size := by omega
        have qe3 : ¬ 9223372036854775807 < xo.size + 1 + (qx.size + 1) + tx.size := by omega
        clear b3 hc htx
        go_wp2_with fail
        go_roundw
        case rel =>
          have hrelN : TLoop w ts fs.length 6 (.slice (some ⟨g, 0, none⟩) fs.length cn) (.slice (some ⟨g', 0, none⟩) fs.length cl) (.string (xo ++ ⟨#[44]⟩ ++ (qx ++ ⟨#[58]⟩) ++ tx)) (.int .i64 ((k : Int) + 1)) w3 := ⟨k + 1, by omega, by go_num, by rw [HOut.out], HB3.out, HV3.out⟩
          first | exact hrelN | ((repeat apply Exists.intro); refine ⟨hrelN, ?_⟩; first | rfl | exact ⟨rfl, rfl⟩ | exact ⟨rfl, rfl, rfl⟩ | exact ⟨rfl, rfl, rfl, rfl⟩ | exact ⟨rfl, rfl, rfl, rfl, rfl⟩)
        case measure => (simp [intOf]; omega)
    · have HXa : Hid (xo = ⟨(commas ts).toArray⟩) := by show xo = _; rw [HXo.out, upTo_all ts k (by omega)]
      have HZ : Hid ((⟨#[123]⟩ : ByteArray) ++ xo ++ ⟨#[125]⟩ = ⟨(tell (n + 1) (Sum.inr (Sum.inr fs))).toArray⟩) := by
        show _ = _
        rw [HTl.out, HXa.out, three (commas ts) []]
      have qa : ¬ 9223372036854775807 < 1 + xo.size := by omega
      have qb : ¬ 9223372036854775807 < 1 + xo.size + 1 := by omega
      go_wp2_with fail
      go_ret
      exact ⟨by rw [← HZ.out]; rfl, HB.out⟩
theorem rftext_leaf (l : Leaf) (w : World) (pa pb : Option Addr) (na ca nb cb : Nat) (hf : FitLeaf l) (hl : (tellLeaf l).length ≤ 100000) (hR : Room w) : Calls Tryz.prog 30 #[rfV (headL l) (.slice pa na ca) (.slice pb nb cb)] w fun e w' => e = .returned (.string ⟨(tellLeaf l).toArray⟩) ∧ Below w.heap.size w w' := by
  rcases l with _ | b | i | s
  · exact rftext_null w _ _ _ _ _ _
  · cases b
    · exact rftext_false w _ _ _ _ _ _
    · exact rftext_true w _ _ _ _ _ _
  · have h : -1000000000000000000 < i ∧ i < 1000000000000000000 := hf
    exact rftext_num w _ _ _ _ _ _ i (by omega) (by omega)
  · have h9 : (quote s).length ≤ 100000 := hl
    have := quote_ge2 s
    exact rftext_str w _ _ _ _ _ _ s (by omega) hR
theorem rftext_ok : ∀ n : Nat, RTextOK n
  | 0, av, l, v, w, h, hf, hl, hR => by
    have e : v = rfV (headL l) (.slice none 0 0) (.slice none 0 0) := h
    subst e
    exact rftext_leaf l w _ _ _ _ _ _ hf hl hR
  | n + 1, av, Sum.inl l, v, w, h, hf, hl, hR => by
    obtain ⟨nm, lv, rfl, h1, h2⟩ := h.open
    obtain ⟨p, c, rfl, _⟩ := h1.form
    obtain ⟨q, d, rfl, _⟩ := h2.form
    exact rftext_leaf l w _ _ _ _ _ _ hf hl hR
  | n + 1, av, Sum.inr (Sum.inl xs), v, w, h, hf, hl, hR => by
    obtain ⟨nm, lv, rfl, h1, h2⟩ := h.open
    obtain ⟨p, c, rfl, _⟩ := h1.form
    exact rftext_list n _ _ _ (rftext_ok n) av xs (.slice none 0 0) lv w h2 hf hl hR
  | n + 1, av, Sum.inr (Sum.inr fs), v, w, h, hf, hl, hR => by
    obtain ⟨nm, lv, rfl, h1, h2⟩ := h.open
    exact rftext_obj n none 0 0 (rftext_ok n) av fs nm lv w h1 h2 hf hl hR
end Go.Proofs.YtdadnidfkomnbaaGreatDoor
/- Contract over this translation of the reference's JsonCanon; the law JsonCanons. -/
namespace Go.Proofs.YtdadnidfkomnbaaGreatDoor
open Go.RowKit
set_option linter.unusedVariables false
set_option linter.unusedSimpArgs false
set_option maxRecDepth 100000 in
set_option maxHeartbeats 2000000 in
theorem rfcanon_gen (n : Nat) (hn : n = 10) (t : ByteArray) (w : World) (hR : Room w) (hG : ∀ j, readN n t.data.toList = .ok j → Fit n j ∧ (tell n j).length ≤ 2000) :
    Calls Tryz.prog 10 #[.string t] w fun e w' => Below w.heap.size w w' ∧ ((∃ er : Nat, readN n t.data.toList = .error er ∧ e = .returned (.tuple #[.string ⟨#[]⟩, .int .i64 er])) ∨ ∃ j, readN n t.data.toList = .ok j ∧ e = .returned (.tuple #[.string ⟨(tell n j).toArray⟩, .int .i64 0])) := by
  have HG : Hid (∀ j, readN n t.data.toList = .ok j → Fit n j ∧ (tell n j).length ≤ 2000) := hG
  have HRm : Hid (Room w) := hR
  have HC : Hid (Calls Tryz.prog 11 #[.string t] w (RReadPost n (readN n t.data.toList) w)) := rfread_any n hn t w
  clear hG hR hn
  go_enter Tryz.func10, Tryz.ntmps10
  go_wp2_with fail
  refine Calls.mono HC.out ?_
  rintro e w1 ⟨b1, h1⟩
  have HB1 : Hid (Below w.heap.size w w1) := b1
  clear b1
  rcases h1 with ⟨er, hr, her, her2, rfl⟩ | ⟨j, v, hr, rfl, hst⟩
  · have HX : Hid (readN n t.data.toList = .error er) := hr
    have hbe : ((er : Int) != 0) = true := by rw [bne_iff_ne]; omega
    clear hr
    unfold rfV
    go_wp2_with fail
    go_ret2
    exact ⟨HB1.out.alloc HB1.out.size _, Or.inl ⟨er, HX.out, rfl⟩⟩
  · have HX : Hid (readN n t.data.toList = .ok j) := hr
    obtain ⟨h0, nm1, l1, rfl⟩ : ∃ h nm l, v = rfV h nm l := ⟨_, rst_form hst⟩
    obtain ⟨⟨p1, n1, c1, rfl⟩, p2, n2, c2, rfl⟩ := rst_sl hst
    have HB2 : Hid (∀ o, Below w.heap.size w (w1.alloc o)) := fun o => HB1.out.alloc HB1.out.size _
    have HT : Hid (∀ o, Calls Tryz.prog 30 #[rfV h0 (.slice p1 n1 c1) (.slice p2 n2 c2)] (w1.alloc o) fun e w' => e = .returned (.string ⟨(tell n j).toArray⟩) ∧ Below (w1.alloc o).heap.size (w1.alloc o) w') := fun o => rftext_ok n _ j _ _ (hst.alloc o) (HG.out j hr).1 (by have := (HG.out j hr).2; omega) (HRm.out.below (HB2.out o))
    clear hr hst
    unfold rfV at HT ⊢
    go_wp2_with fail
    refine Calls.mono (HT.out _) ?_
    rintro e w2 ⟨rfl, b2⟩
    have HB3 : Hid (Below w.heap.size w w2) := (HB2.out _).trans (b2.mono (HB2.out _).size)
    obtain ⟨tx, htx⟩ : ∃ tx, tx = (⟨(tell n j).toArray⟩ : ByteArray) := ⟨_, rfl⟩
    rw [← htx]
    have HTx : Hid (tx = (⟨(tell n j).toArray⟩ : ByteArray)) := htx
    clear b2 htx
    go_wp2_with fail
    go_ret2
    exact ⟨HB3.out, Or.inr ⟨j, HX.out, by rw [← HTx.out]; rfl⟩⟩
theorem rfcanon_any (t : ByteArray) (w : World) (hR : Room w) :
    Calls Tryz.prog 10 #[.string t] w fun e w' => e = .returned (.tuple (canonE t.data.toList)) ∧ Below w.heap.size w w' := by
  refine (rfcanon_gen 10 rfl t w hR (fun j h => ?_)).mono ?_
  · rw [readN_ten] at h
    have := read_short h
    exact ⟨fit_of_good _ _ (read_good h), by omega⟩
  · rintro e w1 ⟨b1, h1⟩
    rw [readN_ten] at h1
    rcases h1 with ⟨er, hr, rfl⟩ | ⟨j, hr, rfl⟩
    · exact ⟨by rw [canonE, hr]; rfl, b1⟩
    · exact ⟨by rw [canonE, hr], b1⟩
end Go.Proofs.YtdadnidfkomnbaaGreatDoor
/- Plain facts on what goes wrong: no error is nothing; a document is never empty. -/
namespace Go.Proofs.YtdadnidfkomnbaaGreatDoor
set_option linter.unusedVariables false
set_option linter.unusedSimpArgs false
theorem leafE_err {r : Bs} {e : Nat} (h : leafE r = .error e) : e = eSyntax ∨ e = eLarge := by
  unfold leafE at h
  split at h
  · unfold word at h; split at h <;> cases h; exact Or.inl rfl
  · split at h
    · unfold word at h; split at h <;> cases h; exact Or.inl rfl
    · split at h
      · unfold word at h; split at h <;> cases h; exact Or.inl rfl
      · split at h
        · unfold textE at h
          cases hq : quoted r with
          | none => rw [hq] at h; cases h; exact Or.inl rfl
          | some p => rw [hq] at h; cases h
        · unfold number at h
          simp only [] at h
          generalize (if (hd r == 45) = true then r.tail else r) = r1 at h
          split at h
          · cases h; exact Or.inl rfl
          · split at h
            · cases h; exact Or.inl rfl
            · split at h
              · cases h; exact Or.inr rfl
              · cases h
theorem beginE_vals (n k : Nat) (r : Bs) : beginE n k r = 0 ∨ beginE n k r = eSyntax ∨ beginE n k r = eLarge ∨ beginE n k r = eDeep := by
  unfold beginE
  split
  · exact Or.inr (Or.inl rfl)
  · split
    · exact Or.inr (Or.inr (Or.inl rfl))
    · split
      · exact Or.inr (Or.inr (Or.inr rfl))
      · exact Or.inl rfl
def IsErr (e : Nat) : Prop := e = eSyntax ∨ e = eLarge ∨ e = eDeep ∨ e = eTwice
theorem rowGo_err {σ : Type} {z : UInt8} {one : σ → Nat → Bs → Except Nat (σ × Nat × Bs)} (h : ∀ s k r e, one s k r = .error e → IsErr e) : ∀ (f : Nat) (s : σ) (k : Nat) (r : Bs) (e : Nat), rowGo z one f s k r = .error e → IsErr e
  | 0, s, k, r, e, he => by
    simp [rowGo] at he
    exact Or.inl he.symm
  | f + 1, s, k, r, e, he => by
    rw [rowGo] at he
    cases ho : one s k r with
    | error er => rw [ho] at he; cases he; exact h s k r e ho
    | ok p =>
      obtain ⟨s1, k1, r1⟩ := p
      rw [ho] at he
      simp only [] at he
      split at he
      · cases he
      · split at he
        · exact rowGo_err h f s1 k1 _ e he
        · cases he; exact Or.inl rfl
theorem row_err {σ : Type} {z : UInt8} {one : σ → Nat → Bs → Except Nat (σ × Nat × Bs)} (h : ∀ s k r e, one s k r = .error e → IsErr e) (s : σ) (k : Nat) (r : Bs) (e : Nat) (he : row z one s k r = .error e) : IsErr e := by
  unfold row at he
  split at he
  · cases he
  · exact rowGo_err h _ _ _ _ _ he
theorem value_isErr : ∀ (n : Nat) (k : Nat) (r : Bs) (e : Nat), value n k r = .error e → IsErr e
  | 0, k, r, e, h => by
    rw [value] at h
    split at h
    · rename_i h0
      cases h
      rcases beginE_vals 0 k (skip r) with h1 | h1 | h1 | h1
      · exact absurd h1 h0
      · exact Or.inl h1
      · exact Or.inr (Or.inl h1)
      · exact Or.inr (Or.inr (Or.inl h1))
    · unfold leafAt at h
      cases hl : leafE (skip r) with
      | error er =>
        rw [hl] at h
        cases h
        rcases leafE_err hl with h1 | h1
        · exact Or.inl h1
        · exact Or.inr (Or.inl h1)
      | ok p => rw [hl] at h; cases h
  | n + 1, k, r, e, h => by
    rw [value] at h
    split at h
    · rename_i h0
      cases h
      rcases beginE_vals (n + 1) k (skip r) with h1 | h1 | h1 | h1
      · exact absurd h1 h0
      · exact Or.inl h1
      · exact Or.inr (Or.inl h1)
      · exact Or.inr (Or.inr (Or.inl h1))
    · split at h
      · cases hr : row 93 (oneItem (value n)) [] (k + 1) (skip r) with
        | error er =>
          rw [hr] at h
          cases h
          refine row_err (one := oneItem (value n)) (fun s k r e ho => ?_) _ _ _ _ hr
          unfold oneItem at ho
          cases hv : value n k r with
          | error er => rw [hv] at ho; cases ho; exact value_isErr n k r e hv
          | ok p => rw [hv] at ho; cases ho
        | ok p => rw [hr] at h; cases h
      · split at h
        · cases hr : row 125 (oneField (value n)) [] (k + 1) (skip r) with
          | error er =>
            rw [hr] at h
            cases h
            refine row_err (one := oneField (value n)) (fun s k r e ho => ?_) _ _ _ _ hr
            unfold oneField at ho
            cases hn : nameE s r with
            | error er =>
              rw [hn] at ho
              cases ho
              unfold nameE at hn
              cases hq : quoted (skip r) with
              | none => rw [hq] at hn; cases hn; exact Or.inl rfl
              | some p =>
                rw [hq] at hn
                simp only [] at hn
                split at hn
                · cases hn; exact Or.inr (Or.inr (Or.inr rfl))
                · split at hn
                  · cases hn
                  · cases hn; exact Or.inl rfl
            | ok p =>
              obtain ⟨nm, r1⟩ := p
              rw [hn] at ho
              simp only [] at ho
              cases hv : value n k r1 with
              | error er => rw [hv] at ho; cases ho; exact value_isErr n k r1 e hv
              | ok p => rw [hv] at ho; cases ho
          | ok p => rw [hr] at h; cases h
        · unfold leafAt at h
          cases hl : leafE (skip r) with
          | error er =>
            rw [hl] at h
            cases h
            rcases leafE_err hl with h1 | h1
            · exact Or.inl h1
            · exact Or.inr (Or.inl h1)
          | ok p => rw [hl] at h; cases h
theorem read_isErr {s : Bs} {e : Nat} (h : read s = .error e) : IsErr e := by
  unfold read at h
  split at h
  · cases h; exact Or.inr (Or.inl rfl)
  · cases hv : value 10 0 s with
    | error er => rw [hv] at h; cases h; exact value_isErr _ _ _ _ hv
    | ok p =>
      obtain ⟨j1, k1, r1⟩ := p
      rw [hv] at h
      simp only [] at h
      split at h
      · cases h
      · cases h; exact Or.inl rfl
theorem read_err {s : Bs} {e : Nat} (h : read s = .error e) : e ≠ 0 := by
  rcases read_isErr h with rfl | rfl | rfl | rfl <;> decide
theorem dec_ne (u : Nat) : Lib.decDigits u ≠ [] := by
  rw [Lib.decDigits]
  split <;> simp
theorem tellLeaf_ne (l : Leaf) : tellLeaf l ≠ [] := by
  match l with
  | none => simp [tellLeaf, nullB]
  | some (Sum.inl true) => simp [tellLeaf, trueB]
  | some (Sum.inl false) => simp [tellLeaf, falseB]
  | some (Sum.inr (Sum.inl i)) =>
    show Lib.itoa i ≠ []
    unfold Lib.itoa
    split
    · simp
    · exact dec_ne _
  | some (Sum.inr (Sum.inr s)) => simp [tellLeaf, quote]
theorem tell_ne : ∀ (n : Nat) (j : J n), tell n j ≠ []
  | 0, j => tellLeaf_ne j
  | _ + 1, Sum.inl l => tellLeaf_ne l
  | _ + 1, Sum.inr (Sum.inl xs) => List.cons_ne_nil _ _
  | _ + 1, Sum.inr (Sum.inr fs) => List.cons_ne_nil _ _
end Go.Proofs.YtdadnidfkomnbaaGreatDoor
/- The table of powers of ten out of what is laid; the laws' own canon at every text. -/
namespace Go.Proofs.YtdadnidfkomnbaaGreatDoor
open Go.RowKit
set_option linter.unusedVariables false
set_option linter.unusedSimpArgs false
/-- the table stands third on the list -/
theorem tabIs_of_third {P : Program} {W : World} {name : String} {k : IntKind} {zs : List Int} {x y : String × DataW Unit} {rest : List (String × DataW Unit)} {g : Nat} {t e : TypeId} {n : Nat}
    (hg : P.globalNamed name = some g) (hty : (P.globals[g]?).map (·.type) = some t) (ht : P.underlying t = some (.array n e)) (he : P.underlying e = some (.int k)) (hce : P.cellsOf e = 1) (hct : P.cellsOf t = n)
    (h : laidMet P (x :: y :: (name, Lib.tabData k zs) :: rest) W) : Lib.TabIs P W name k zs := by
  obtain ⟨ps, ⟨_, _, _, _, _, _, _, _, _, _, ⟨_, _, _, _, _, _, _, _, _, _, ⟨g', t', cs, fuel, p, q, hg', ht', hvar, hd, _, _⟩, _⟩, _⟩, _⟩ := h
  obtain rfl := Option.some.inj (hg.symm.trans hg')
  obtain rfl := Option.some.inj (hty.symm.trans ht')
  unfold Lib.TabIs
  rw [hvar, ← Lib.cells_of_tab ht he hce hct hd]
theorem tab_of_laid {x y : String × DataW Unit} {rest : List (String × DataW Unit)} {W : World} (hn : ((x :: y :: ("internal/strconv.uint64pow10", Lib.tabData .u64 Lib.pow10Tab) :: rest).all fun x => x.2.handleName?.isNone) = true)
    (h : laidMetH Tryz.prog (x :: y :: ("internal/strconv.uint64pow10", Lib.tabData .u64 Lib.pow10Tab) :: rest) W) : Tab W.heap.size W := by
  rw [Go.MakeChecks.laidMetH_plain _ _ _ hn] at h
  exact Lib.tabBelow_of_tabIs (tabIs_of_third (P := Tryz.prog) (g := 5) (t := 202) (e := 131) (n := 20) (by kernel_rfl) (by kernel_rfl) Tryz.underlying202 Tryz.underlying131 (by kernel_rfl) (by kernel_rfl) h)
theorem keepCanon_any (t : ByteArray) (w : World) (hs : t.size ≤ maxLen) (hT : Tab w.heap.size w) :
    Calls Tryz.prog 25 #[.string t] w fun e w' => (match read t.data.toList with
      | .error _ => e = .returned (.tuple #[.string ByteArray.empty, .bool false])
      | .ok j => e = .returned (.tuple #[.string ⟨(tell 10 j).toArray⟩, .bool true])) ∧ Below w.heap.size w w' := by
  have hC := canon_any t w hs hT
  cases hr : read t.data.toList with
  | error er =>
    have HC : Hid (Calls Tryz.prog 9 #[.string t] w fun e w' => e = .returned (.tuple #[.string ByteArray.empty, .int .i64 er]) ∧ Below w.heap.size w w') := by
      refine hC.mono ?_
      rintro e w1 ⟨rfl, b1⟩
      exact ⟨by rw [canonE, hr], b1⟩
    have her : er ≠ 0 := read_err hr
    have hbe : ((er : Int) == 0) = false := by rw [beq_eq_false_iff_ne]; omega
    clear hC hr hT
    go_enter Tryz.func25, Tryz.ntmps25
    go_wp2_with fail
    refine Calls.mono HC.out ?_
    rintro e w1 ⟨rfl, b1⟩
    have HB1 : Hid (Below w.heap.size w w1) := b1
    clear b1
    go_wp2_with fail
    go_ret2
    exact ⟨rfl, HB1.out⟩
  | ok j =>
    have HC : Hid (Calls Tryz.prog 9 #[.string t] w fun e w' => e = .returned (.tuple #[.string ⟨(tell 10 j).toArray⟩, .int .i64 0]) ∧ Below w.heap.size w w') := by
      refine hC.mono ?_
      rintro e w1 ⟨rfl, b1⟩
      exact ⟨by rw [canonE, hr], b1⟩
    clear hC hr hT
    simp only []
    generalize (⟨(tell 10 j).toArray⟩ : ByteArray) = tx at *
    go_enter Tryz.func25, Tryz.ntmps25
    go_wp2_with fail
    refine Calls.mono HC.out ?_
    rintro e w1 ⟨rfl, b1⟩
    have HB1 : Hid (Below w.heap.size w w1) := b1
    clear b1
    go_wp2_with fail
    go_ret2
    exact ⟨rfl, HB1.out⟩
end Go.Proofs.YtdadnidfkomnbaaGreatDoor
/- The law JsonCanons over this translation: it answers true at every text, and leaves old memory alone. -/
namespace Go.Proofs.YtdadnidfkomnbaaGreatDoor
open Go.RowKit
set_option linter.unusedVariables false
set_option linter.unusedSimpArgs false
theorem canonE_form (s : Bs) : ∃ (x : ByteArray) (k : Int), canonE s = #[.string x, .int .i64 k] := by
  unfold canonE
  cases read s with
  | error e => exact ⟨_, _, rfl⟩
  | ok j => exact ⟨_, _, rfl⟩
set_option maxRecDepth 100000 in
set_option maxHeartbeats 1000000 in
theorem canons_walk (t : ByteArray) (w : World) (hs : t.size ≤ 140737488351232) (hT : Tab w.heap.size w) (hR : Room w) :
    Calls Tryz.prog 3 #[.string t] w fun e w' => e = .returned (.bool true) ∧ Below w.heap.size w w' := by
  have h1 := canon_any t w (by unfold maxLen; omega) hT
  have HRm : Hid (Room w) := hR
  obtain ⟨x, k, hx⟩ := canonE_form t.data.toList
  unfold CanonPost at h1
  rw [hx] at h1
  have H1 : Hid (Calls Tryz.prog 9 #[.string t] w fun e w' => e = .returned (.tuple #[.string x, .int .i64 k]) ∧ Below w.heap.size w w') := h1
  have H2 : Hid (∀ w1, Room w1 → Calls Tryz.prog 10 #[.string t] w1 fun e w' => e = .returned (.tuple #[.string x, .int .i64 k]) ∧ Below w1.heap.size w1 w') := fun w1 hr => by
    have h2 := rfcanon_any t w1 hr
    rw [hx] at h2
    exact h2
  clear h1 hx hT hR
  go_enter Tryz.func3, Tryz.ntmps3
  go_wp2_with fail
  refine Calls.mono H1.out ?_
  rintro e w1 ⟨rfl, b1⟩
  have HB1 : Hid (Below w.heap.size w w1) := b1
  have HR1 : Hid (Room w1) := HRm.out.below b1
  clear b1
  go_wp2_with fail
  refine Calls.mono (H2.out w1 HR1.out) ?_
  rintro e w2 ⟨rfl, b2⟩
  have HB2 : Hid (Below w.heap.size w w2) := HB1.out.trans (b2.mono HB1.out.size)
  clear b2
  go_wp2_with fail
  go_ret
  exact ⟨by simp, HB2.out⟩
end Go.Proofs.YtdadnidfkomnbaaGreatDoor
