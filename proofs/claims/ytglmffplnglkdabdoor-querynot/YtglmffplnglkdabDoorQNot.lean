/- The walk of the law QueryNot over this translation. -/
import Derived.Test.YtglmffplnglkdabDoorQStrange
namespace Go.Proofs.YtglmffplnglkdabDoor
open Go.RowKit
set_option linter.unusedVariables false
set_option linter.unusedSimpArgs false
theorem not_cases (r : Rq) (ls : List Lb) : ((matchE [r] ls).2 ≠ 0 ∧ (matchE [oppR r] ls).2 = (matchE [r] ls).2 ∧ (matchE [r] ls).1 = false ∧ (matchE [oppR r] ls).1 = false) ∨ ((matchE [r] ls).2 = 0 ∧ (matchE [oppR r] ls).2 = 0 ∧ (matchE [oppR r] ls).1 = !(matchE [r] ls).1) := by
  by_cases h : chkI [r] = 0
  · by_cases g : labelsI ls = 0
    · right
      rw [matchE_ok h g, matchE_ok (by rw [chk_opp]; exact h) g]
      have hk := fits_kind (part_ok.1 ((chk_ok.1 h).2 r (by simp))).2.1
      simp only [match_one]
      exact ⟨by trivial, by trivial, holds_opp hk _⟩
    · left
      rw [matchE_labs h g, matchE_labs (by rw [chk_opp]; exact h) g]
      exact ⟨g, rfl, rfl, rfl⟩
  · left
    rw [matchE_chk h, matchE_chk (by rw [chk_opp]; exact h), chk_opp]
    exact ⟨h, rfl, rfl, rfl⟩
/-- Match of one part, wherever it lies -/
def MOne (w : World) (r : Rq) (u vl : Value) (x : Bool) (e : Int) : Prop := ∀ w1, Below w.heap.size w w1 → Calls Tryd.prog 8 #[.slice (some ⟨w1.heap.size, 0, none⟩) 1 1, vl] (w1.alloc (.cells #[.string (Ba r.1), .int .i64 r.2.1, u] 24)) fun en w' => en = .returned (.tuple #[.bool x, .int .i64 e]) ∧ Below w1.heap.size w1 w'
theorem mone (w : World) (r : Rq) (u vl : Value) (ls : List Lb) (hu : Strs w u r.2.2) (hf : Fit r) (hl : Labs w vl ls) (hfl : FitL ls) (hR : Room w) : MOne w r u vl (matchE [r] ls).1 (matchE [r] ls).2 := by
  intro w1 hb
  have hb1 : Below w1.heap.size w1 (w1.alloc (.cells #[.string (Ba r.1), .int .i64 r.2.1, u] 24)) := (Below.refl _ _).alloc (Nat.le_refl _) _
  refine (match_any _ vl [r] ls _ (reqs_new w1 r u (hu.below hb)) (fun r' hr => by simp only [List.mem_singleton] at hr; subst hr; exact hf) ((hl.below hb).below hb1) hfl ((hR.below hb).below hb1)).mono ?_
  rintro e w2 ⟨rfl, b⟩
  exact ⟨rfl, hb1.trans (b.mono hb1.size)⟩
set_option maxHeartbeats 4000000 in
theorem not_one_bad (key : Bs) (p : Option Addr) (n c : Nat) (vs : List Bs) (vl : Value) (p2 : Option Addr) (n2 c2 : Nat) (w : World) (x : Bool) (e : Int) (hvl : vl = .slice p2 n2 c2) (hR : Room w) 
    (he : e ≠ 0) (h1 : MOne w (key, 1, vs) (.slice p n c) vl false e) (h2 : MOne w (key, 2, vs) (.slice p n c) vl false e) :
    Calls Tryd.prog 3 #[.agg #[.string (Ba key), .int .i64 1, .slice p n c], vl] w fun e w' => e = .returned (.bool true) ∧ Below w.heap.size w w' := by
  subst hvl
  have heb : (e != 0) = true := by simpa using he
  have HS : Hid (∀ w1, Below w.heap.size w w1 → Calls Tryd.prog 7 #[] w1 fun e w' => e = .returned (.bool true) ∧ Below w1.heap.size w1 w') := fun w1 hb => strange_any w1 (hR.below hb)
  have H1 : Hid (∀ w1, Below w.heap.size w w1 → Calls Tryd.prog 8 #[.slice (some ⟨w1.heap.size, 0, none⟩) 1 1, .slice p2 n2 c2] (w1.alloc (.cells #[.string (Ba key), .int .i64 1, .slice p n c] 24)) fun en w' => en = .returned (.tuple #[.bool false, .int .i64 e]) ∧ Below w1.heap.size w1 w') := h1
  have H2 : Hid (∀ w1, Below w.heap.size w w1 → Calls Tryd.prog 8 #[.slice (some ⟨w1.heap.size, 0, none⟩) 1 1, .slice p2 n2 c2] (w1.alloc (.cells #[.string (Ba key), .int .i64 2, .slice p n c] 24)) fun en w' => en = .returned (.tuple #[.bool false, .int .i64 e]) ∧ Below w1.heap.size w1 w') := h2
  have HB0 : Hid (Below w.heap.size w (w.alloc (.cells #[.string (Ba key), .int .i64 1, .slice p n c] 24))) := (Below.refl _ _).alloc (Nat.le_refl _) _
  clear h1 h2 hR
  generalize Ba key = kk at *
  go_enter Tryd.func3, Tryd.ntmps3
  go_wp2_with fail
  refine Calls.mono (HS.out _ HB0.out) ?_
  rintro e w1 ⟨rfl, b⟩
  have HB1 : Hid (Below w.heap.size w w1) := HB0.out.trans (b.mono HB0.out.size)
  obtain ⟨k0, k1, k2⟩ := box3 b
  have HLt : Hid (w.heap.size < w1.heap.size) := by have := b.size; simp at this; show _ < _; omega
  have hA : Below w1.heap.size w1 (w1.alloc (.cells #[.string kk, .int .i64 1, .slice p n c] 24)) := (Below.refl _ _).alloc (Nat.le_refl _) _
  have hA2 : Below w1.heap.size w1 (w1.alloc (.cells #[.string kk, .int .i64 2, .slice p n c] 24)) := (Below.refl _ _).alloc (Nat.le_refl _) _
  have K0 := hA.cell (p := ⟨w.heap.size, 0, none⟩) HLt.out
  have K1 := hA.cell (p := ⟨w.heap.size, 1, none⟩) HLt.out
  have K2 := hA.cell (p := ⟨w.heap.size, 2, none⟩) HLt.out
  have L0 := hA2.cell (p := ⟨w.heap.size, 0, none⟩) HLt.out
  have L1 := hA2.cell (p := ⟨w.heap.size, 1, none⟩) HLt.out
  have L2 := hA2.cell (p := ⟨w.heap.size, 2, none⟩) HLt.out
  have HA : Hid (Below w.heap.size w (w1.alloc (.cells #[.string kk, .int .i64 2, .slice p n c] 24))) := HB1.out.trans (hA2.mono HB1.out.size)
  rw [k0] at K0 L0
  rw [k1] at K1 L1
  rw [k2] at K2 L2
  have hs : (w1.alloc (.cells #[.string kk, .int .i64 2, .slice p n c] 24)).heap.size = w1.heap.size + 1 := by simp
  have hq := H1.out _ HA.out
  rw [hs] at hq
  have HQ1 : Hid (Calls Tryd.prog 8 #[.slice (some ⟨w1.heap.size + 1, 0, none⟩) 1 1, .slice p2 n2 c2] ((w1.alloc (.cells #[.string kk, .int .i64 2, .slice p n c] 24)).alloc (.cells #[.string kk, .int .i64 1, .slice p n c] 24)) fun en w' => en = .returned (.tuple #[.bool false, .int .i64 e]) ∧ Below (w1.heap.size + 1) (w1.alloc (.cells #[.string kk, .int .i64 2, .slice p n c] 24)) w') := hq
  clear b hA hA2 hq hs
  go_wp2_with fail
  refine Calls.mono HQ1.out ?_
  rintro e w2 ⟨rfl, b⟩
  have hsz := b.size
  have HB2 : Hid (Below w.heap.size w w2) := HA.out.trans (b.mono (by have := HB1.out.size; omega))
  have b' : Below (w1.alloc (.cells #[.string kk, .int .i64 2, .slice p n c] 24)).heap.size (w1.alloc (.cells #[.string kk, .int .i64 2, .slice p n c] 24)) w2 := by rw [show (w1.alloc (.cells #[.string kk, .int .i64 2, .slice p n c] 24)).heap.size = w1.heap.size + 1 by simp]; exact b
  obtain ⟨m0, m1, m2⟩ := box3 b'
  have HQ2 : Hid (Calls Tryd.prog 8 #[.slice (some ⟨w2.heap.size, 0, none⟩) 1 1, .slice p2 n2 c2] (w2.alloc (.cells #[.string kk, .int .i64 2, .slice p n c] 24)) fun en w' => en = .returned (.tuple #[.bool false, .int .i64 e]) ∧ Below w2.heap.size w2 w') := H2.out _ HB2.out
  clear b b' hsz K0 K1 K2 L0 L1 L2
  go_wp2_with fail
  refine Calls.mono HQ2.out ?_
  rintro e w3 ⟨rfl, b⟩
  have HB3 : Hid (Below w.heap.size w w3) := HB2.out.trans (b.mono HB2.out.size)
  clear b
  go_wp2_with fail
  go_ret
  exact ⟨by simp, HB3.out⟩
set_option maxHeartbeats 4000000 in
theorem not_one_ok (key : Bs) (p : Option Addr) (n c : Nat) (vs : List Bs) (vl : Value) (p2 : Option Addr) (n2 c2 : Nat) (w : World) (x : Bool) (e : Int) (hvl : vl = .slice p2 n2 c2) (hR : Room w) 
    (h1 : MOne w (key, 1, vs) (.slice p n c) vl x 0) (h2 : MOne w (key, 2, vs) (.slice p n c) vl (!x) 0) :
    Calls Tryd.prog 3 #[.agg #[.string (Ba key), .int .i64 1, .slice p n c], vl] w fun e w' => e = .returned (.bool true) ∧ Below w.heap.size w w' := by
  subst hvl
  have HS : Hid (∀ w1, Below w.heap.size w w1 → Calls Tryd.prog 7 #[] w1 fun e w' => e = .returned (.bool true) ∧ Below w1.heap.size w1 w') := fun w1 hb => strange_any w1 (hR.below hb)
  have H1 : Hid (∀ w1, Below w.heap.size w w1 → Calls Tryd.prog 8 #[.slice (some ⟨w1.heap.size, 0, none⟩) 1 1, .slice p2 n2 c2] (w1.alloc (.cells #[.string (Ba key), .int .i64 1, .slice p n c] 24)) fun en w' => en = .returned (.tuple #[.bool x, .int .i64 0]) ∧ Below w1.heap.size w1 w') := h1
  have H2 : Hid (∀ w1, Below w.heap.size w w1 → Calls Tryd.prog 8 #[.slice (some ⟨w1.heap.size, 0, none⟩) 1 1, .slice p2 n2 c2] (w1.alloc (.cells #[.string (Ba key), .int .i64 2, .slice p n c] 24)) fun en w' => en = .returned (.tuple #[.bool (!x), .int .i64 0]) ∧ Below w1.heap.size w1 w') := h2
  have HB0 : Hid (Below w.heap.size w (w.alloc (.cells #[.string (Ba key), .int .i64 1, .slice p n c] 24))) := (Below.refl _ _).alloc (Nat.le_refl _) _
  clear h1 h2 hR
  generalize Ba key = kk at *
  go_enter Tryd.func3, Tryd.ntmps3
  go_wp2_with fail
  refine Calls.mono (HS.out _ HB0.out) ?_
  rintro e w1 ⟨rfl, b⟩
  have HB1 : Hid (Below w.heap.size w w1) := HB0.out.trans (b.mono HB0.out.size)
  obtain ⟨k0, k1, k2⟩ := box3 b
  have HLt : Hid (w.heap.size < w1.heap.size) := by have := b.size; simp at this; show _ < _; omega
  have hA : Below w1.heap.size w1 (w1.alloc (.cells #[.string kk, .int .i64 1, .slice p n c] 24)) := (Below.refl _ _).alloc (Nat.le_refl _) _
  have hA2 : Below w1.heap.size w1 (w1.alloc (.cells #[.string kk, .int .i64 2, .slice p n c] 24)) := (Below.refl _ _).alloc (Nat.le_refl _) _
  have K0 := hA.cell (p := ⟨w.heap.size, 0, none⟩) HLt.out
  have K1 := hA.cell (p := ⟨w.heap.size, 1, none⟩) HLt.out
  have K2 := hA.cell (p := ⟨w.heap.size, 2, none⟩) HLt.out
  have L0 := hA2.cell (p := ⟨w.heap.size, 0, none⟩) HLt.out
  have L1 := hA2.cell (p := ⟨w.heap.size, 1, none⟩) HLt.out
  have L2 := hA2.cell (p := ⟨w.heap.size, 2, none⟩) HLt.out
  have HA : Hid (Below w.heap.size w (w1.alloc (.cells #[.string kk, .int .i64 2, .slice p n c] 24))) := HB1.out.trans (hA2.mono HB1.out.size)
  rw [k0] at K0 L0
  rw [k1] at K1 L1
  rw [k2] at K2 L2
  have hs : (w1.alloc (.cells #[.string kk, .int .i64 2, .slice p n c] 24)).heap.size = w1.heap.size + 1 := by simp
  have hq := H1.out _ HA.out
  rw [hs] at hq
  have HQ1 : Hid (Calls Tryd.prog 8 #[.slice (some ⟨w1.heap.size + 1, 0, none⟩) 1 1, .slice p2 n2 c2] ((w1.alloc (.cells #[.string kk, .int .i64 2, .slice p n c] 24)).alloc (.cells #[.string kk, .int .i64 1, .slice p n c] 24)) fun en w' => en = .returned (.tuple #[.bool x, .int .i64 0]) ∧ Below (w1.heap.size + 1) (w1.alloc (.cells #[.string kk, .int .i64 2, .slice p n c] 24)) w') := hq
  clear b hA hA2 hq hs
  go_wp2_with fail
  refine Calls.mono HQ1.out ?_
  rintro e w2 ⟨rfl, b⟩
  have hsz := b.size
  have HB2 : Hid (Below w.heap.size w w2) := HA.out.trans (b.mono (by have := HB1.out.size; omega))
  have b' : Below (w1.alloc (.cells #[.string kk, .int .i64 2, .slice p n c] 24)).heap.size (w1.alloc (.cells #[.string kk, .int .i64 2, .slice p n c] 24)) w2 := by rw [show (w1.alloc (.cells #[.string kk, .int .i64 2, .slice p n c] 24)).heap.size = w1.heap.size + 1 by simp]; exact b
  obtain ⟨m0, m1, m2⟩ := box3 b'
  have HQ2 : Hid (Calls Tryd.prog 8 #[.slice (some ⟨w2.heap.size, 0, none⟩) 1 1, .slice p2 n2 c2] (w2.alloc (.cells #[.string kk, .int .i64 2, .slice p n c] 24)) fun en w' => en = .returned (.tuple #[.bool (!x), .int .i64 0]) ∧ Below w2.heap.size w2 w') := H2.out _ HB2.out
  clear b b' hsz K0 K1 K2 L0 L1 L2
  go_wp2_with fail
  refine Calls.mono HQ2.out ?_
  rintro e w3 ⟨rfl, b⟩
  have HB3 : Hid (Below w.heap.size w w3) := HB2.out.trans (b.mono HB2.out.size)
  clear b
  go_wp2_with fail
  go_ret
  exact ⟨by cases x <;> rfl, HB3.out⟩
set_option maxHeartbeats 4000000 in
theorem not_two_bad (key : Bs) (p : Option Addr) (n c : Nat) (vs : List Bs) (vl : Value) (p2 : Option Addr) (n2 c2 : Nat) (w : World) (x : Bool) (e : Int) (hvl : vl = .slice p2 n2 c2) (hR : Room w) 
    (he : e ≠ 0) (h1 : MOne w (key, 2, vs) (.slice p n c) vl false e) (h2 : MOne w (key, 1, vs) (.slice p n c) vl false e) :
    Calls Tryd.prog 3 #[.agg #[.string (Ba key), .int .i64 2, .slice p n c], vl] w fun e w' => e = .returned (.bool true) ∧ Below w.heap.size w w' := by
  subst hvl
  have heb : (e != 0) = true := by simpa using he
  have HS : Hid (∀ w1, Below w.heap.size w w1 → Calls Tryd.prog 7 #[] w1 fun e w' => e = .returned (.bool true) ∧ Below w1.heap.size w1 w') := fun w1 hb => strange_any w1 (hR.below hb)
  have H1 : Hid (∀ w1, Below w.heap.size w w1 → Calls Tryd.prog 8 #[.slice (some ⟨w1.heap.size, 0, none⟩) 1 1, .slice p2 n2 c2] (w1.alloc (.cells #[.string (Ba key), .int .i64 2, .slice p n c] 24)) fun en w' => en = .returned (.tuple #[.bool false, .int .i64 e]) ∧ Below w1.heap.size w1 w') := h1
  have H2 : Hid (∀ w1, Below w.heap.size w w1 → Calls Tryd.prog 8 #[.slice (some ⟨w1.heap.size, 0, none⟩) 1 1, .slice p2 n2 c2] (w1.alloc (.cells #[.string (Ba key), .int .i64 1, .slice p n c] 24)) fun en w' => en = .returned (.tuple #[.bool false, .int .i64 e]) ∧ Below w1.heap.size w1 w') := h2
  have HB0 : Hid (Below w.heap.size w (w.alloc (.cells #[.string (Ba key), .int .i64 2, .slice p n c] 24))) := (Below.refl _ _).alloc (Nat.le_refl _) _
  clear h1 h2 hR
  generalize Ba key = kk at *
  go_enter Tryd.func3, Tryd.ntmps3
  go_wp2_with fail
  refine Calls.mono (HS.out _ HB0.out) ?_
  rintro e w1 ⟨rfl, b⟩
  have HB1 : Hid (Below w.heap.size w w1) := HB0.out.trans (b.mono HB0.out.size)
  obtain ⟨k0, k1, k2⟩ := box3 b
  have HLt : Hid (w.heap.size < w1.heap.size) := by have := b.size; simp at this; show _ < _; omega
  have hA : Below w1.heap.size w1 (w1.alloc (.cells #[.string kk, .int .i64 2, .slice p n c] 24)) := (Below.refl _ _).alloc (Nat.le_refl _) _
  have hA2 : Below w1.heap.size w1 (w1.alloc (.cells #[.string kk, .int .i64 1, .slice p n c] 24)) := (Below.refl _ _).alloc (Nat.le_refl _) _
  have K0 := hA.cell (p := ⟨w.heap.size, 0, none⟩) HLt.out
  have K1 := hA.cell (p := ⟨w.heap.size, 1, none⟩) HLt.out
  have K2 := hA.cell (p := ⟨w.heap.size, 2, none⟩) HLt.out
  have L0 := hA2.cell (p := ⟨w.heap.size, 0, none⟩) HLt.out
  have L1 := hA2.cell (p := ⟨w.heap.size, 1, none⟩) HLt.out
  have L2 := hA2.cell (p := ⟨w.heap.size, 2, none⟩) HLt.out
  have HA : Hid (Below w.heap.size w (w1.alloc (.cells #[.string kk, .int .i64 1, .slice p n c] 24))) := HB1.out.trans (hA2.mono HB1.out.size)
  rw [k0] at K0 L0
  rw [k1] at K1 L1
  rw [k2] at K2 L2
  have hs : (w1.alloc (.cells #[.string kk, .int .i64 1, .slice p n c] 24)).heap.size = w1.heap.size + 1 := by simp
  have hq := H1.out _ HA.out
  rw [hs] at hq
  have HQ1 : Hid (Calls Tryd.prog 8 #[.slice (some ⟨w1.heap.size + 1, 0, none⟩) 1 1, .slice p2 n2 c2] ((w1.alloc (.cells #[.string kk, .int .i64 1, .slice p n c] 24)).alloc (.cells #[.string kk, .int .i64 2, .slice p n c] 24)) fun en w' => en = .returned (.tuple #[.bool false, .int .i64 e]) ∧ Below (w1.heap.size + 1) (w1.alloc (.cells #[.string kk, .int .i64 1, .slice p n c] 24)) w') := hq
  clear b hA hA2 hq hs
  go_wp2_with fail
  refine Calls.mono HQ1.out ?_
  rintro e w2 ⟨rfl, b⟩
  have hsz := b.size
  have HB2 : Hid (Below w.heap.size w w2) := HA.out.trans (b.mono (by have := HB1.out.size; omega))
  have b' : Below (w1.alloc (.cells #[.string kk, .int .i64 1, .slice p n c] 24)).heap.size (w1.alloc (.cells #[.string kk, .int .i64 1, .slice p n c] 24)) w2 := by rw [show (w1.alloc (.cells #[.string kk, .int .i64 1, .slice p n c] 24)).heap.size = w1.heap.size + 1 by simp]; exact b
  obtain ⟨m0, m1, m2⟩ := box3 b'
  have HQ2 : Hid (Calls Tryd.prog 8 #[.slice (some ⟨w2.heap.size, 0, none⟩) 1 1, .slice p2 n2 c2] (w2.alloc (.cells #[.string kk, .int .i64 1, .slice p n c] 24)) fun en w' => en = .returned (.tuple #[.bool false, .int .i64 e]) ∧ Below w2.heap.size w2 w') := H2.out _ HB2.out
  clear b b' hsz K0 K1 K2 L0 L1 L2
  go_wp2_with fail
  refine Calls.mono HQ2.out ?_
  rintro e w3 ⟨rfl, b⟩
  have HB3 : Hid (Below w.heap.size w w3) := HB2.out.trans (b.mono HB2.out.size)
  clear b
  go_wp2_with fail
  go_ret
  exact ⟨by simp, HB3.out⟩
set_option maxHeartbeats 4000000 in
theorem not_two_ok (key : Bs) (p : Option Addr) (n c : Nat) (vs : List Bs) (vl : Value) (p2 : Option Addr) (n2 c2 : Nat) (w : World) (x : Bool) (e : Int) (hvl : vl = .slice p2 n2 c2) (hR : Room w) 
    (h1 : MOne w (key, 2, vs) (.slice p n c) vl x 0) (h2 : MOne w (key, 1, vs) (.slice p n c) vl (!x) 0) :
    Calls Tryd.prog 3 #[.agg #[.string (Ba key), .int .i64 2, .slice p n c], vl] w fun e w' => e = .returned (.bool true) ∧ Below w.heap.size w w' := by
  subst hvl
  have HS : Hid (∀ w1, Below w.heap.size w w1 → Calls Tryd.prog 7 #[] w1 fun e w' => e = .returned (.bool true) ∧ Below w1.heap.size w1 w') := fun w1 hb => strange_any w1 (hR.below hb)
  have H1 : Hid (∀ w1, Below w.heap.size w w1 → Calls Tryd.prog 8 #[.slice (some ⟨w1.heap.size, 0, none⟩) 1 1, .slice p2 n2 c2] (w1.alloc (.cells #[.string (Ba key), .int .i64 2, .slice p n c] 24)) fun en w' => en = .returned (.tuple #[.bool x, .int .i64 0]) ∧ Below w1.heap.size w1 w') := h1
  have H2 : Hid (∀ w1, Below w.heap.size w w1 → Calls Tryd.prog 8 #[.slice (some ⟨w1.heap.size, 0, none⟩) 1 1, .slice p2 n2 c2] (w1.alloc (.cells #[.string (Ba key), .int .i64 1, .slice p n c] 24)) fun en w' => en = .returned (.tuple #[.bool (!x), .int .i64 0]) ∧ Below w1.heap.size w1 w') := h2
  have HB0 : Hid (Below w.heap.size w (w.alloc (.cells #[.string (Ba key), .int .i64 2, .slice p n c] 24))) := (Below.refl _ _).alloc (Nat.le_refl _) _
  clear h1 h2 hR
  generalize Ba key = kk at *
  go_enter Tryd.func3, Tryd.ntmps3
  go_wp2_with fail
  refine Calls.mono (HS.out _ HB0.out) ?_
  rintro e w1 ⟨rfl, b⟩
  have HB1 : Hid (Below w.heap.size w w1) := HB0.out.trans (b.mono HB0.out.size)
  obtain ⟨k0, k1, k2⟩ := box3 b
  have HLt : Hid (w.heap.size < w1.heap.size) := by have := b.size; simp at this; show _ < _; omega
  have hA : Below w1.heap.size w1 (w1.alloc (.cells #[.string kk, .int .i64 2, .slice p n c] 24)) := (Below.refl _ _).alloc (Nat.le_refl _) _
  have hA2 : Below w1.heap.size w1 (w1.alloc (.cells #[.string kk, .int .i64 1, .slice p n c] 24)) := (Below.refl _ _).alloc (Nat.le_refl _) _
  have K0 := hA.cell (p := ⟨w.heap.size, 0, none⟩) HLt.out
  have K1 := hA.cell (p := ⟨w.heap.size, 1, none⟩) HLt.out
  have K2 := hA.cell (p := ⟨w.heap.size, 2, none⟩) HLt.out
  have L0 := hA2.cell (p := ⟨w.heap.size, 0, none⟩) HLt.out
  have L1 := hA2.cell (p := ⟨w.heap.size, 1, none⟩) HLt.out
  have L2 := hA2.cell (p := ⟨w.heap.size, 2, none⟩) HLt.out
  have HA : Hid (Below w.heap.size w (w1.alloc (.cells #[.string kk, .int .i64 1, .slice p n c] 24))) := HB1.out.trans (hA2.mono HB1.out.size)
  rw [k0] at K0 L0
  rw [k1] at K1 L1
  rw [k2] at K2 L2
  have hs : (w1.alloc (.cells #[.string kk, .int .i64 1, .slice p n c] 24)).heap.size = w1.heap.size + 1 := by simp
  have hq := H1.out _ HA.out
  rw [hs] at hq
  have HQ1 : Hid (Calls Tryd.prog 8 #[.slice (some ⟨w1.heap.size + 1, 0, none⟩) 1 1, .slice p2 n2 c2] ((w1.alloc (.cells #[.string kk, .int .i64 1, .slice p n c] 24)).alloc (.cells #[.string kk, .int .i64 2, .slice p n c] 24)) fun en w' => en = .returned (.tuple #[.bool x, .int .i64 0]) ∧ Below (w1.heap.size + 1) (w1.alloc (.cells #[.string kk, .int .i64 1, .slice p n c] 24)) w') := hq
  clear b hA hA2 hq hs
  go_wp2_with fail
  refine Calls.mono HQ1.out ?_
  rintro e w2 ⟨rfl, b⟩
  have hsz := b.size
  have HB2 : Hid (Below w.heap.size w w2) := HA.out.trans (b.mono (by have := HB1.out.size; omega))
  have b' : Below (w1.alloc (.cells #[.string kk, .int .i64 1, .slice p n c] 24)).heap.size (w1.alloc (.cells #[.string kk, .int .i64 1, .slice p n c] 24)) w2 := by rw [show (w1.alloc (.cells #[.string kk, .int .i64 1, .slice p n c] 24)).heap.size = w1.heap.size + 1 by simp]; exact b
  obtain ⟨m0, m1, m2⟩ := box3 b'
  have HQ2 : Hid (Calls Tryd.prog 8 #[.slice (some ⟨w2.heap.size, 0, none⟩) 1 1, .slice p2 n2 c2] (w2.alloc (.cells #[.string kk, .int .i64 1, .slice p n c] 24)) fun en w' => en = .returned (.tuple #[.bool (!x), .int .i64 0]) ∧ Below w2.heap.size w2 w') := H2.out _ HB2.out
  clear b b' hsz K0 K1 K2 L0 L1 L2
  go_wp2_with fail
  refine Calls.mono HQ2.out ?_
  rintro e w3 ⟨rfl, b⟩
  have HB3 : Hid (Below w.heap.size w w3) := HB2.out.trans (b.mono HB2.out.size)
  clear b
  go_wp2_with fail
  go_ret
  exact ⟨by cases x <;> rfl, HB3.out⟩
set_option maxHeartbeats 4000000 in
theorem not_three_bad (key : Bs) (p : Option Addr) (n c : Nat) (vs : List Bs) (vl : Value) (p2 : Option Addr) (n2 c2 : Nat) (w : World) (x : Bool) (e : Int) (hvl : vl = .slice p2 n2 c2) (hR : Room w) 
    (he : e ≠ 0) (h1 : MOne w (key, 3, vs) (.slice p n c) vl false e) (h2 : MOne w (key, 4, vs) (.slice p n c) vl false e) :
    Calls Tryd.prog 3 #[.agg #[.string (Ba key), .int .i64 3, .slice p n c], vl] w fun e w' => e = .returned (.bool true) ∧ Below w.heap.size w w' := by
  subst hvl
  have heb : (e != 0) = true := by simpa using he
  have HS : Hid (∀ w1, Below w.heap.size w w1 → Calls Tryd.prog 7 #[] w1 fun e w' => e = .returned (.bool true) ∧ Below w1.heap.size w1 w') := fun w1 hb => strange_any w1 (hR.below hb)
  have H1 : Hid (∀ w1, Below w.heap.size w w1 → Calls Tryd.prog 8 #[.slice (some ⟨w1.heap.size, 0, none⟩) 1 1, .slice p2 n2 c2] (w1.alloc (.cells #[.string (Ba key), .int .i64 3, .slice p n c] 24)) fun en w' => en = .returned (.tuple #[.bool false, .int .i64 e]) ∧ Below w1.heap.size w1 w') := h1
  have H2 : Hid (∀ w1, Below w.heap.size w w1 → Calls Tryd.prog 8 #[.slice (some ⟨w1.heap.size, 0, none⟩) 1 1, .slice p2 n2 c2] (w1.alloc (.cells #[.string (Ba key), .int .i64 4, .slice p n c] 24)) fun en w' => en = .returned (.tuple #[.bool false, .int .i64 e]) ∧ Below w1.heap.size w1 w') := h2
  have HB0 : Hid (Below w.heap.size w (w.alloc (.cells #[.string (Ba key), .int .i64 3, .slice p n c] 24))) := (Below.refl _ _).alloc (Nat.le_refl _) _
  clear h1 h2 hR
  generalize Ba key = kk at *
  go_enter Tryd.func3, Tryd.ntmps3
  go_wp2_with fail
  refine Calls.mono (HS.out _ HB0.out) ?_
  rintro e w1 ⟨rfl, b⟩
  have HB1 : Hid (Below w.heap.size w w1) := HB0.out.trans (b.mono HB0.out.size)
  obtain ⟨k0, k1, k2⟩ := box3 b
  have HLt : Hid (w.heap.size < w1.heap.size) := by have := b.size; simp at this; show _ < _; omega
  have hA : Below w1.heap.size w1 (w1.alloc (.cells #[.string kk, .int .i64 3, .slice p n c] 24)) := (Below.refl _ _).alloc (Nat.le_refl _) _
  have hA2 : Below w1.heap.size w1 (w1.alloc (.cells #[.string kk, .int .i64 4, .slice p n c] 24)) := (Below.refl _ _).alloc (Nat.le_refl _) _
  have K0 := hA.cell (p := ⟨w.heap.size, 0, none⟩) HLt.out
  have K1 := hA.cell (p := ⟨w.heap.size, 1, none⟩) HLt.out
  have K2 := hA.cell (p := ⟨w.heap.size, 2, none⟩) HLt.out
  have L0 := hA2.cell (p := ⟨w.heap.size, 0, none⟩) HLt.out
  have L1 := hA2.cell (p := ⟨w.heap.size, 1, none⟩) HLt.out
  have L2 := hA2.cell (p := ⟨w.heap.size, 2, none⟩) HLt.out
  have HA : Hid (Below w.heap.size w (w1.alloc (.cells #[.string kk, .int .i64 4, .slice p n c] 24))) := HB1.out.trans (hA2.mono HB1.out.size)
  rw [k0] at K0 L0
  rw [k1] at K1 L1
  rw [k2] at K2 L2
  have hs : (w1.alloc (.cells #[.string kk, .int .i64 4, .slice p n c] 24)).heap.size = w1.heap.size + 1 := by simp
  have hq := H1.out _ HA.out
  rw [hs] at hq
  have HQ1 : Hid (Calls Tryd.prog 8 #[.slice (some ⟨w1.heap.size + 1, 0, none⟩) 1 1, .slice p2 n2 c2] ((w1.alloc (.cells #[.string kk, .int .i64 4, .slice p n c] 24)).alloc (.cells #[.string kk, .int .i64 3, .slice p n c] 24)) fun en w' => en = .returned (.tuple #[.bool false, .int .i64 e]) ∧ Below (w1.heap.size + 1) (w1.alloc (.cells #[.string kk, .int .i64 4, .slice p n c] 24)) w') := hq
  clear b hA hA2 hq hs
  go_wp2_with fail
  refine Calls.mono HQ1.out ?_
  rintro e w2 ⟨rfl, b⟩
  have hsz := b.size
  have HB2 : Hid (Below w.heap.size w w2) := HA.out.trans (b.mono (by have := HB1.out.size; omega))
  have b' : Below (w1.alloc (.cells #[.string kk, .int .i64 4, .slice p n c] 24)).heap.size (w1.alloc (.cells #[.string kk, .int .i64 4, .slice p n c] 24)) w2 := by rw [show (w1.alloc (.cells #[.string kk, .int .i64 4, .slice p n c] 24)).heap.size = w1.heap.size + 1 by simp]; exact b
  obtain ⟨m0, m1, m2⟩ := box3 b'
  have HQ2 : Hid (Calls Tryd.prog 8 #[.slice (some ⟨w2.heap.size, 0, none⟩) 1 1, .slice p2 n2 c2] (w2.alloc (.cells #[.string kk, .int .i64 4, .slice p n c] 24)) fun en w' => en = .returned (.tuple #[.bool false, .int .i64 e]) ∧ Below w2.heap.size w2 w') := H2.out _ HB2.out
  clear b b' hsz K0 K1 K2 L0 L1 L2
  go_wp2_with fail
  refine Calls.mono HQ2.out ?_
  rintro e w3 ⟨rfl, b⟩
  have HB3 : Hid (Below w.heap.size w w3) := HB2.out.trans (b.mono HB2.out.size)
  clear b
  go_wp2_with fail
  go_ret
  exact ⟨by simp, HB3.out⟩
set_option maxHeartbeats 4000000 in
theorem not_three_ok (key : Bs) (p : Option Addr) (n c : Nat) (vs : List Bs) (vl : Value) (p2 : Option Addr) (n2 c2 : Nat) (w : World) (x : Bool) (e : Int) (hvl : vl = .slice p2 n2 c2) (hR : Room w) 
    (h1 : MOne w (key, 3, vs) (.slice p n c) vl x 0) (h2 : MOne w (key, 4, vs) (.slice p n c) vl (!x) 0) :
    Calls Tryd.prog 3 #[.agg #[.string (Ba key), .int .i64 3, .slice p n c], vl] w fun e w' => e = .returned (.bool true) ∧ Below w.heap.size w w' := by
  subst hvl
  have HS : Hid (∀ w1, Below w.heap.size w w1 → Calls Tryd.prog 7 #[] w1 fun e w' => e = .returned (.bool true) ∧ Below w1.heap.size w1 w') := fun w1 hb => strange_any w1 (hR.below hb)
  have H1 : Hid (∀ w1, Below w.heap.size w w1 → Calls Tryd.prog 8 #[.slice (some ⟨w1.heap.size, 0, none⟩) 1 1, .slice p2 n2 c2] (w1.alloc (.cells #[.string (Ba key), .int .i64 3, .slice p n c] 24)) fun en w' => en = .returned (.tuple #[.bool x, .int .i64 0]) ∧ Below w1.heap.size w1 w') := h1
  have H2 : Hid (∀ w1, Below w.heap.size w w1 → Calls Tryd.prog 8 #[.slice (some ⟨w1.heap.size, 0, none⟩) 1 1, .slice p2 n2 c2] (w1.alloc (.cells #[.string (Ba key), .int .i64 4, .slice p n c] 24)) fun en w' => en = .returned (.tuple #[.bool (!x), .int .i64 0]) ∧ Below w1.heap.size w1 w') := h2
  have HB0 : Hid (Below w.heap.size w (w.alloc (.cells #[.string (Ba key), .int .i64 3, .slice p n c] 24))) := (Below.refl _ _).alloc (Nat.le_refl _) _
  clear h1 h2 hR
  generalize Ba key = kk at *
  go_enter Tryd.func3, Tryd.ntmps3
  go_wp2_with fail
  refine Calls.mono (HS.out _ HB0.out) ?_
  rintro e w1 ⟨rfl, b⟩
  have HB1 : Hid (Below w.heap.size w w1) := HB0.out.trans (b.mono HB0.out.size)
  obtain ⟨k0, k1, k2⟩ := box3 b
  have HLt : Hid (w.heap.size < w1.heap.size) := by have := b.size; simp at this; show _ < _; omega
  have hA : Below w1.heap.size w1 (w1.alloc (.cells #[.string kk, .int .i64 3, .slice p n c] 24)) := (Below.refl _ _).alloc (Nat.le_refl _) _
  have hA2 : Below w1.heap.size w1 (w1.alloc (.cells #[.string kk, .int .i64 4, .slice p n c] 24)) := (Below.refl _ _).alloc (Nat.le_refl _) _
  have K0 := hA.cell (p := ⟨w.heap.size, 0, none⟩) HLt.out
  have K1 := hA.cell (p := ⟨w.heap.size, 1, none⟩) HLt.out
  have K2 := hA.cell (p := ⟨w.heap.size, 2, none⟩) HLt.out
  have L0 := hA2.cell (p := ⟨w.heap.size, 0, none⟩) HLt.out
  have L1 := hA2.cell (p := ⟨w.heap.size, 1, none⟩) HLt.out
  have L2 := hA2.cell (p := ⟨w.heap.size, 2, none⟩) HLt.out
  have HA : Hid (Below w.heap.size w (w1.alloc (.cells #[.string kk, .int .i64 4, .slice p n c] 24))) := HB1.out.trans (hA2.mono HB1.out.size)
  rw [k0] at K0 L0
  rw [k1] at K1 L1
  rw [k2] at K2 L2
  have hs : (w1.alloc (.cells #[.string kk, .int .i64 4, .slice p n c] 24)).heap.size = w1.heap.size + 1 := by simp
  have hq := H1.out _ HA.out
  rw [hs] at hq
  have HQ1 : Hid (Calls Tryd.prog 8 #[.slice (some ⟨w1.heap.size + 1, 0, none⟩) 1 1, .slice p2 n2 c2] ((w1.alloc (.cells #[.string kk, .int .i64 4, .slice p n c] 24)).alloc (.cells #[.string kk, .int .i64 3, .slice p n c] 24)) fun en w' => en = .returned (.tuple #[.bool x, .int .i64 0]) ∧ Below (w1.heap.size + 1) (w1.alloc (.cells #[.string kk, .int .i64 4, .slice p n c] 24)) w') := hq
  clear b hA hA2 hq hs
  go_wp2_with fail
  refine Calls.mono HQ1.out ?_
  rintro e w2 ⟨rfl, b⟩
  have hsz := b.size
  have HB2 : Hid (Below w.heap.size w w2) := HA.out.trans (b.mono (by have := HB1.out.size; omega))
  have b' : Below (w1.alloc (.cells #[.string kk, .int .i64 4, .slice p n c] 24)).heap.size (w1.alloc (.cells #[.string kk, .int .i64 4, .slice p n c] 24)) w2 := by rw [show (w1.alloc (.cells #[.string kk, .int .i64 4, .slice p n c] 24)).heap.size = w1.heap.size + 1 by simp]; exact b
  obtain ⟨m0, m1, m2⟩ := box3 b'
  have HQ2 : Hid (Calls Tryd.prog 8 #[.slice (some ⟨w2.heap.size, 0, none⟩) 1 1, .slice p2 n2 c2] (w2.alloc (.cells #[.string kk, .int .i64 4, .slice p n c] 24)) fun en w' => en = .returned (.tuple #[.bool (!x), .int .i64 0]) ∧ Below w2.heap.size w2 w') := H2.out _ HB2.out
  clear b b' hsz K0 K1 K2 L0 L1 L2
  go_wp2_with fail
  refine Calls.mono HQ2.out ?_
  rintro e w3 ⟨rfl, b⟩
  have HB3 : Hid (Below w.heap.size w w3) := HB2.out.trans (b.mono HB2.out.size)
  clear b
  go_wp2_with fail
  go_ret
  exact ⟨by cases x <;> rfl, HB3.out⟩
set_option maxHeartbeats 4000000 in
theorem not_four_bad (key : Bs) (p : Option Addr) (n c : Nat) (vs : List Bs) (vl : Value) (p2 : Option Addr) (n2 c2 : Nat) (w : World) (x : Bool) (e : Int) (hvl : vl = .slice p2 n2 c2) (hR : Room w) 
    (he : e ≠ 0) (h1 : MOne w (key, 4, vs) (.slice p n c) vl false e) (h2 : MOne w (key, 3, vs) (.slice p n c) vl false e) :
    Calls Tryd.prog 3 #[.agg #[.string (Ba key), .int .i64 4, .slice p n c], vl] w fun e w' => e = .returned (.bool true) ∧ Below w.heap.size w w' := by
  subst hvl
  have heb : (e != 0) = true := by simpa using he
  have HS : Hid (∀ w1, Below w.heap.size w w1 → Calls Tryd.prog 7 #[] w1 fun e w' => e = .returned (.bool true) ∧ Below w1.heap.size w1 w') := fun w1 hb => strange_any w1 (hR.below hb)
  have H1 : Hid (∀ w1, Below w.heap.size w w1 → Calls Tryd.prog 8 #[.slice (some ⟨w1.heap.size, 0, none⟩) 1 1, .slice p2 n2 c2] (w1.alloc (.cells #[.string (Ba key), .int .i64 4, .slice p n c] 24)) fun en w' => en = .returned (.tuple #[.bool false, .int .i64 e]) ∧ Below w1.heap.size w1 w') := h1
  have H2 : Hid (∀ w1, Below w.heap.size w w1 → Calls Tryd.prog 8 #[.slice (some ⟨w1.heap.size, 0, none⟩) 1 1, .slice p2 n2 c2] (w1.alloc (.cells #[.string (Ba key), .int .i64 3, .slice p n c] 24)) fun en w' => en = .returned (.tuple #[.bool false, .int .i64 e]) ∧ Below w1.heap.size w1 w') := h2
  have HB0 : Hid (Below w.heap.size w (w.alloc (.cells #[.string (Ba key), .int .i64 4, .slice p n c] 24))) := (Below.refl _ _).alloc (Nat.le_refl _) _
  clear h1 h2 hR
  generalize Ba key = kk at *
  go_enter Tryd.func3, Tryd.ntmps3
  go_wp2_with fail
  refine Calls.mono (HS.out _ HB0.out) ?_
  rintro e w1 ⟨rfl, b⟩
  have HB1 : Hid (Below w.heap.size w w1) := HB0.out.trans (b.mono HB0.out.size)
  obtain ⟨k0, k1, k2⟩ := box3 b
  have HLt : Hid (w.heap.size < w1.heap.size) := by have := b.size; simp at this; show _ < _; omega
  have hA : Below w1.heap.size w1 (w1.alloc (.cells #[.string kk, .int .i64 4, .slice p n c] 24)) := (Below.refl _ _).alloc (Nat.le_refl _) _
  have hA2 : Below w1.heap.size w1 (w1.alloc (.cells #[.string kk, .int .i64 3, .slice p n c] 24)) := (Below.refl _ _).alloc (Nat.le_refl _) _
  have K0 := hA.cell (p := ⟨w.heap.size, 0, none⟩) HLt.out
  have K1 := hA.cell (p := ⟨w.heap.size, 1, none⟩) HLt.out
  have K2 := hA.cell (p := ⟨w.heap.size, 2, none⟩) HLt.out
  have L0 := hA2.cell (p := ⟨w.heap.size, 0, none⟩) HLt.out
  have L1 := hA2.cell (p := ⟨w.heap.size, 1, none⟩) HLt.out
  have L2 := hA2.cell (p := ⟨w.heap.size, 2, none⟩) HLt.out
  have HA : Hid (Below w.heap.size w (w1.alloc (.cells #[.string kk, .int .i64 3, .slice p n c] 24))) := HB1.out.trans (hA2.mono HB1.out.size)
  rw [k0] at K0 L0
  rw [k1] at K1 L1
  rw [k2] at K2 L2
  have hs : (w1.alloc (.cells #[.string kk, .int .i64 3, .slice p n c] 24)).heap.size = w1.heap.size + 1 := by simp
  have hq := H1.out _ HA.out
  rw [hs] at hq
  have HQ1 : Hid (Calls Tryd.prog 8 #[.slice (some ⟨w1.heap.size + 1, 0, none⟩) 1 1, .slice p2 n2 c2] ((w1.alloc (.cells #[.string kk, .int .i64 3, .slice p n c] 24)).alloc (.cells #[.string kk, .int .i64 4, .slice p n c] 24)) fun en w' => en = .returned (.tuple #[.bool false, .int .i64 e]) ∧ Below (w1.heap.size + 1) (w1.alloc (.cells #[.string kk, .int .i64 3, .slice p n c] 24)) w') := hq
  clear b hA hA2 hq hs
  go_wp2_with fail
  refine Calls.mono HQ1.out ?_
  rintro e w2 ⟨rfl, b⟩
  have hsz := b.size
  have HB2 : Hid (Below w.heap.size w w2) := HA.out.trans (b.mono (by have := HB1.out.size; omega))
  have b' : Below (w1.alloc (.cells #[.string kk, .int .i64 3, .slice p n c] 24)).heap.size (w1.alloc (.cells #[.string kk, .int .i64 3, .slice p n c] 24)) w2 := by rw [show (w1.alloc (.cells #[.string kk, .int .i64 3, .slice p n c] 24)).heap.size = w1.heap.size + 1 by simp]; exact b
  obtain ⟨m0, m1, m2⟩ := box3 b'
  have HQ2 : Hid (Calls Tryd.prog 8 #[.slice (some ⟨w2.heap.size, 0, none⟩) 1 1, .slice p2 n2 c2] (w2.alloc (.cells #[.string kk, .int .i64 3, .slice p n c] 24)) fun en w' => en = .returned (.tuple #[.bool false, .int .i64 e]) ∧ Below w2.heap.size w2 w') := H2.out _ HB2.out
  clear b b' hsz K0 K1 K2 L0 L1 L2
  go_wp2_with fail
  refine Calls.mono HQ2.out ?_
  rintro e w3 ⟨rfl, b⟩
  have HB3 : Hid (Below w.heap.size w w3) := HB2.out.trans (b.mono HB2.out.size)
  clear b
  go_wp2_with fail
  go_ret
  exact ⟨by simp, HB3.out⟩
set_option maxHeartbeats 4000000 in
theorem not_four_ok (key : Bs) (p : Option Addr) (n c : Nat) (vs : List Bs) (vl : Value) (p2 : Option Addr) (n2 c2 : Nat) (w : World) (x : Bool) (e : Int) (hvl : vl = .slice p2 n2 c2) (hR : Room w) 
    (h1 : MOne w (key, 4, vs) (.slice p n c) vl x 0) (h2 : MOne w (key, 3, vs) (.slice p n c) vl (!x) 0) :
    Calls Tryd.prog 3 #[.agg #[.string (Ba key), .int .i64 4, .slice p n c], vl] w fun e w' => e = .returned (.bool true) ∧ Below w.heap.size w w' := by
  subst hvl
  have HS : Hid (∀ w1, Below w.heap.size w w1 → Calls Tryd.prog 7 #[] w1 fun e w' => e = .returned (.bool true) ∧ Below w1.heap.size w1 w') := fun w1 hb => strange_any w1 (hR.below hb)
  have H1 : Hid (∀ w1, Below w.heap.size w w1 → Calls Tryd.prog 8 #[.slice (some ⟨w1.heap.size, 0, none⟩) 1 1, .slice p2 n2 c2] (w1.alloc (.cells #[.string (Ba key), .int .i64 4, .slice p n c] 24)) fun en w' => en = .returned (.tuple #[.bool x, .int .i64 0]) ∧ Below w1.heap.size w1 w') := h1
  have H2 : Hid (∀ w1, Below w.heap.size w w1 → Calls Tryd.prog 8 #[.slice (some ⟨w1.heap.size, 0, none⟩) 1 1, .slice p2 n2 c2] (w1.alloc (.cells #[.string (Ba key), .int .i64 3, .slice p n c] 24)) fun en w' => en = .returned (.tuple #[.bool (!x), .int .i64 0]) ∧ Below w1.heap.size w1 w') := h2
  have HB0 : Hid (Below w.heap.size w (w.alloc (.cells #[.string (Ba key), .int .i64 4, .slice p n c] 24))) := (Below.refl _ _).alloc (Nat.le_refl _) _
  clear h1 h2 hR
  generalize Ba key = kk at *
  go_enter Tryd.func3, Tryd.ntmps3
  go_wp2_with fail
  refine Calls.mono (HS.out _ HB0.out) ?_
  rintro e w1 ⟨rfl, b⟩
  have HB1 : Hid (Below w.heap.size w w1) := HB0.out.trans (b.mono HB0.out.size)
  obtain ⟨k0, k1, k2⟩ := box3 b
  have HLt : Hid (w.heap.size < w1.heap.size) := by have := b.size; simp at this; show _ < _; omega
  have hA : Below w1.heap.size w1 (w1.alloc (.cells #[.string kk, .int .i64 4, .slice p n c] 24)) := (Below.refl _ _).alloc (Nat.le_refl _) _
  have hA2 : Below w1.heap.size w1 (w1.alloc (.cells #[.string kk, .int .i64 3, .slice p n c] 24)) := (Below.refl _ _).alloc (Nat.le_refl _) _
  have K0 := hA.cell (p := ⟨w.heap.size, 0, none⟩) HLt.out
  have K1 := hA.cell (p := ⟨w.heap.size, 1, none⟩) HLt.out
  have K2 := hA.cell (p := ⟨w.heap.size, 2, none⟩) HLt.out
  have L0 := hA2.cell (p := ⟨w.heap.size, 0, none⟩) HLt.out
  have L1 := hA2.cell (p := ⟨w.heap.size, 1, none⟩) HLt.out
  have L2 := hA2.cell (p := ⟨w.heap.size, 2, none⟩) HLt.out
  have HA : Hid (Below w.heap.size w (w1.alloc (.cells #[.string kk, .int .i64 3, .slice p n c] 24))) := HB1.out.trans (hA2.mono HB1.out.size)
  rw [k0] at K0 L0
  rw [k1] at K1 L1
  rw [k2] at K2 L2
  have hs : (w1.alloc (.cells #[.string kk, .int .i64 3, .slice p n c] 24)).heap.size = w1.heap.size + 1 := by simp
  have hq := H1.out _ HA.out
  rw [hs] at hq
  have HQ1 : Hid (Calls Tryd.prog 8 #[.slice (some ⟨w1.heap.size + 1, 0, none⟩) 1 1, .slice p2 n2 c2] ((w1.alloc (.cells #[.string kk, .int .i64 3, .slice p n c] 24)).alloc (.cells #[.string kk, .int .i64 4, .slice p n c] 24)) fun en w' => en = .returned (.tuple #[.bool x, .int .i64 0]) ∧ Below (w1.heap.size + 1) (w1.alloc (.cells #[.string kk, .int .i64 3, .slice p n c] 24)) w') := hq
  clear b hA hA2 hq hs
  go_wp2_with fail
  refine Calls.mono HQ1.out ?_
  rintro e w2 ⟨rfl, b⟩
  have hsz := b.size
  have HB2 : Hid (Below w.heap.size w w2) := HA.out.trans (b.mono (by have := HB1.out.size; omega))
  have b' : Below (w1.alloc (.cells #[.string kk, .int .i64 3, .slice p n c] 24)).heap.size (w1.alloc (.cells #[.string kk, .int .i64 3, .slice p n c] 24)) w2 := by rw [show (w1.alloc (.cells #[.string kk, .int .i64 3, .slice p n c] 24)).heap.size = w1.heap.size + 1 by simp]; exact b
  obtain ⟨m0, m1, m2⟩ := box3 b'
  have HQ2 : Hid (Calls Tryd.prog 8 #[.slice (some ⟨w2.heap.size, 0, none⟩) 1 1, .slice p2 n2 c2] (w2.alloc (.cells #[.string kk, .int .i64 3, .slice p n c] 24)) fun en w' => en = .returned (.tuple #[.bool (!x), .int .i64 0]) ∧ Below w2.heap.size w2 w') := H2.out _ HB2.out
  clear b b' hsz K0 K1 K2 L0 L1 L2
  go_wp2_with fail
  refine Calls.mono HQ2.out ?_
  rintro e w3 ⟨rfl, b⟩
  have HB3 : Hid (Below w.heap.size w w3) := HB2.out.trans (b.mono HB2.out.size)
  clear b
  go_wp2_with fail
  go_ret
  exact ⟨by cases x <;> rfl, HB3.out⟩
set_option maxHeartbeats 4000000 in
theorem not_other_bad (key : Bs) (kd : Int) (p : Option Addr) (n c : Nat) (vs : List Bs) (vl : Value) (p2 : Option Addr) (n2 c2 : Nat) (w : World) (x : Bool) (e : Int) (hvl : vl = .slice p2 n2 c2) (hR : Room w) (g1 : ¬ kd = 1) (g2 : ¬ kd = 2) (g3 : ¬ kd = 3) (g4 : ¬ kd = 4)
    (he : e ≠ 0) (h1 : MOne w (key, kd, vs) (.slice p n c) vl false e) (h2 : MOne w (key, kd, vs) (.slice p n c) vl false e) :
    Calls Tryd.prog 3 #[.agg #[.string (Ba key), .int .i64 kd, .slice p n c], vl] w fun e w' => e = .returned (.bool true) ∧ Below w.heap.size w w' := by
  subst hvl
  have heb : (e != 0) = true := by simpa using he
  have e1 : (kd == 1) = false := by simpa using g1
  have e2 : (kd == 2) = false := by simpa using g2
  have e3 : (kd == 3) = false := by simpa using g3
  have e4 : (kd == 4) = false := by simpa using g4
  have HS : Hid (∀ w1, Below w.heap.size w w1 → Calls Tryd.prog 7 #[] w1 fun e w' => e = .returned (.bool true) ∧ Below w1.heap.size w1 w') := fun w1 hb => strange_any w1 (hR.below hb)
  have H1 : Hid (∀ w1, Below w.heap.size w w1 → Calls Tryd.prog 8 #[.slice (some ⟨w1.heap.size, 0, none⟩) 1 1, .slice p2 n2 c2] (w1.alloc (.cells #[.string (Ba key), .int .i64 kd, .slice p n c] 24)) fun en w' => en = .returned (.tuple #[.bool false, .int .i64 e]) ∧ Below w1.heap.size w1 w') := h1
  have H2 : Hid (∀ w1, Below w.heap.size w w1 → Calls Tryd.prog 8 #[.slice (some ⟨w1.heap.size, 0, none⟩) 1 1, .slice p2 n2 c2] (w1.alloc (.cells #[.string (Ba key), .int .i64 kd, .slice p n c] 24)) fun en w' => en = .returned (.tuple #[.bool false, .int .i64 e]) ∧ Below w1.heap.size w1 w') := h2
  have HB0 : Hid (Below w.heap.size w (w.alloc (.cells #[.string (Ba key), .int .i64 kd, .slice p n c] 24))) := (Below.refl _ _).alloc (Nat.le_refl _) _
  clear h1 h2 hR
  generalize Ba key = kk at *
  go_enter Tryd.func3, Tryd.ntmps3
  go_wp2_with fail
  refine Calls.mono (HS.out _ HB0.out) ?_
  rintro e w1 ⟨rfl, b⟩
  have HB1 : Hid (Below w.heap.size w w1) := HB0.out.trans (b.mono HB0.out.size)
  obtain ⟨k0, k1, k2⟩ := box3 b
  have HLt : Hid (w.heap.size < w1.heap.size) := by have := b.size; simp at this; show _ < _; omega
  have hA : Below w1.heap.size w1 (w1.alloc (.cells #[.string kk, .int .i64 kd, .slice p n c] 24)) := (Below.refl _ _).alloc (Nat.le_refl _) _
  have hA2 : Below w1.heap.size w1 (w1.alloc (.cells #[.string kk, .int .i64 kd, .slice p n c] 24)) := (Below.refl _ _).alloc (Nat.le_refl _) _
  have K0 := hA.cell (p := ⟨w.heap.size, 0, none⟩) HLt.out
  have K1 := hA.cell (p := ⟨w.heap.size, 1, none⟩) HLt.out
  have K2 := hA.cell (p := ⟨w.heap.size, 2, none⟩) HLt.out
  have L0 := hA2.cell (p := ⟨w.heap.size, 0, none⟩) HLt.out
  have L1 := hA2.cell (p := ⟨w.heap.size, 1, none⟩) HLt.out
  have L2 := hA2.cell (p := ⟨w.heap.size, 2, none⟩) HLt.out
  have HA : Hid (Below w.heap.size w (w1.alloc (.cells #[.string kk, .int .i64 kd, .slice p n c] 24))) := HB1.out.trans (hA2.mono HB1.out.size)
  rw [k0] at K0 L0
  rw [k1] at K1 L1
  rw [k2] at K2 L2
  have hs : (w1.alloc (.cells #[.string kk, .int .i64 kd, .slice p n c] 24)).heap.size = w1.heap.size + 1 := by simp
  have hq := H1.out _ HA.out
  rw [hs] at hq
  have HQ1 : Hid (Calls Tryd.prog 8 #[.slice (some ⟨w1.heap.size + 1, 0, none⟩) 1 1, .slice p2 n2 c2] ((w1.alloc (.cells #[.string kk, .int .i64 kd, .slice p n c] 24)).alloc (.cells #[.string kk, .int .i64 kd, .slice p n c] 24)) fun en w' => en = .returned (.tuple #[.bool false, .int .i64 e]) ∧ Below (w1.heap.size + 1) (w1.alloc (.cells #[.string kk, .int .i64 kd, .slice p n c] 24)) w') := hq
  clear b hA hA2 hq hs
  go_wp2_with fail
  refine Calls.mono HQ1.out ?_
  rintro e w2 ⟨rfl, b⟩
  have hsz := b.size
  have HB2 : Hid (Below w.heap.size w w2) := HA.out.trans (b.mono (by have := HB1.out.size; omega))
  have b' : Below (w1.alloc (.cells #[.string kk, .int .i64 kd, .slice p n c] 24)).heap.size (w1.alloc (.cells #[.string kk, .int .i64 kd, .slice p n c] 24)) w2 := by rw [show (w1.alloc (.cells #[.string kk, .int .i64 kd, .slice p n c] 24)).heap.size = w1.heap.size + 1 by simp]; exact b
  obtain ⟨m0, m1, m2⟩ := box3 b'
  have HQ2 : Hid (Calls Tryd.prog 8 #[.slice (some ⟨w2.heap.size, 0, none⟩) 1 1, .slice p2 n2 c2] (w2.alloc (.cells #[.string kk, .int .i64 kd, .slice p n c] 24)) fun en w' => en = .returned (.tuple #[.bool false, .int .i64 e]) ∧ Below w2.heap.size w2 w') := H2.out _ HB2.out
  clear b b' hsz K0 K1 K2 L0 L1 L2
  go_wp2_with fail
  refine Calls.mono HQ2.out ?_
  rintro e w3 ⟨rfl, b⟩
  have HB3 : Hid (Below w.heap.size w w3) := HB2.out.trans (b.mono HB2.out.size)
  clear b
  go_wp2_with fail
  go_ret
  exact ⟨by simp, HB3.out⟩
set_option maxHeartbeats 4000000 in
theorem not_other_ok (key : Bs) (kd : Int) (p : Option Addr) (n c : Nat) (vs : List Bs) (vl : Value) (p2 : Option Addr) (n2 c2 : Nat) (w : World) (x : Bool) (e : Int) (hvl : vl = .slice p2 n2 c2) (hR : Room w) (g1 : ¬ kd = 1) (g2 : ¬ kd = 2) (g3 : ¬ kd = 3) (g4 : ¬ kd = 4)
    (h1 : MOne w (key, kd, vs) (.slice p n c) vl x 0) (h2 : MOne w (key, kd, vs) (.slice p n c) vl (!x) 0) :
    Calls Tryd.prog 3 #[.agg #[.string (Ba key), .int .i64 kd, .slice p n c], vl] w fun e w' => e = .returned (.bool true) ∧ Below w.heap.size w w' := by
  subst hvl
  have e1 : (kd == 1) = false := by simpa using g1
  have e2 : (kd == 2) = false := by simpa using g2
  have e3 : (kd == 3) = false := by simpa using g3
  have e4 : (kd == 4) = false := by simpa using g4
  have HS : Hid (∀ w1, Below w.heap.size w w1 → Calls Tryd.prog 7 #[] w1 fun e w' => e = .returned (.bool true) ∧ Below w1.heap.size w1 w') := fun w1 hb => strange_any w1 (hR.below hb)
  have H1 : Hid (∀ w1, Below w.heap.size w w1 → Calls Tryd.prog 8 #[.slice (some ⟨w1.heap.size, 0, none⟩) 1 1, .slice p2 n2 c2] (w1.alloc (.cells #[.string (Ba key), .int .i64 kd, .slice p n c] 24)) fun en w' => en = .returned (.tuple #[.bool x, .int .i64 0]) ∧ Below w1.heap.size w1 w') := h1
  have H2 : Hid (∀ w1, Below w.heap.size w w1 → Calls Tryd.prog 8 #[.slice (some ⟨w1.heap.size, 0, none⟩) 1 1, .slice p2 n2 c2] (w1.alloc (.cells #[.string (Ba key), .int .i64 kd, .slice p n c] 24)) fun en w' => en = .returned (.tuple #[.bool (!x), .int .i64 0]) ∧ Below w1.heap.size w1 w') := h2
  have HB0 : Hid (Below w.heap.size w (w.alloc (.cells #[.string (Ba key), .int .i64 kd, .slice p n c] 24))) := (Below.refl _ _).alloc (Nat.le_refl _) _
  clear h1 h2 hR
  generalize Ba key = kk at *
  go_enter Tryd.func3, Tryd.ntmps3
  go_wp2_with fail
  refine Calls.mono (HS.out _ HB0.out) ?_
  rintro e w1 ⟨rfl, b⟩
  have HB1 : Hid (Below w.heap.size w w1) := HB0.out.trans (b.mono HB0.out.size)
  obtain ⟨k0, k1, k2⟩ := box3 b
  have HLt : Hid (w.heap.size < w1.heap.size) := by have := b.size; simp at this; show _ < _; omega
  have hA : Below w1.heap.size w1 (w1.alloc (.cells #[.string kk, .int .i64 kd, .slice p n c] 24)) := (Below.refl _ _).alloc (Nat.le_refl _) _
  have hA2 : Below w1.heap.size w1 (w1.alloc (.cells #[.string kk, .int .i64 kd, .slice p n c] 24)) := (Below.refl _ _).alloc (Nat.le_refl _) _
  have K0 := hA.cell (p := ⟨w.heap.size, 0, none⟩) HLt.out
  have K1 := hA.cell (p := ⟨w.heap.size, 1, none⟩) HLt.out
  have K2 := hA.cell (p := ⟨w.heap.size, 2, none⟩) HLt.out
  have L0 := hA2.cell (p := ⟨w.heap.size, 0, none⟩) HLt.out
  have L1 := hA2.cell (p := ⟨w.heap.size, 1, none⟩) HLt.out
  have L2 := hA2.cell (p := ⟨w.heap.size, 2, none⟩) HLt.out
  have HA : Hid (Below w.heap.size w (w1.alloc (.cells #[.string kk, .int .i64 kd, .slice p n c] 24))) := HB1.out.trans (hA2.mono HB1.out.size)
  rw [k0] at K0 L0
  rw [k1] at K1 L1
  rw [k2] at K2 L2
  have hs : (w1.alloc (.cells #[.string kk, .int .i64 kd, .slice p n c] 24)).heap.size = w1.heap.size + 1 := by simp
  have hq := H1.out _ HA.out
  rw [hs] at hq
  have HQ1 : Hid (Calls Tryd.prog 8 #[.slice (some ⟨w1.heap.size + 1, 0, none⟩) 1 1, .slice p2 n2 c2] ((w1.alloc (.cells #[.string kk, .int .i64 kd, .slice p n c] 24)).alloc (.cells #[.string kk, .int .i64 kd, .slice p n c] 24)) fun en w' => en = .returned (.tuple #[.bool x, .int .i64 0]) ∧ Below (w1.heap.size + 1) (w1.alloc (.cells #[.string kk, .int .i64 kd, .slice p n c] 24)) w') := hq
  clear b hA hA2 hq hs
  go_wp2_with fail
  refine Calls.mono HQ1.out ?_
  rintro e w2 ⟨rfl, b⟩
  have hsz := b.size
  have HB2 : Hid (Below w.heap.size w w2) := HA.out.trans (b.mono (by have := HB1.out.size; omega))
  have b' : Below (w1.alloc (.cells #[.string kk, .int .i64 kd, .slice p n c] 24)).heap.size (w1.alloc (.cells #[.string kk, .int .i64 kd, .slice p n c] 24)) w2 := by rw [show (w1.alloc (.cells #[.string kk, .int .i64 kd, .slice p n c] 24)).heap.size = w1.heap.size + 1 by simp]; exact b
  obtain ⟨m0, m1, m2⟩ := box3 b'
  have HQ2 : Hid (Calls Tryd.prog 8 #[.slice (some ⟨w2.heap.size, 0, none⟩) 1 1, .slice p2 n2 c2] (w2.alloc (.cells #[.string kk, .int .i64 kd, .slice p n c] 24)) fun en w' => en = .returned (.tuple #[.bool (!x), .int .i64 0]) ∧ Below w2.heap.size w2 w') := H2.out _ HB2.out
  clear b b' hsz K0 K1 K2 L0 L1 L2
  go_wp2_with fail
  refine Calls.mono HQ2.out ?_
  rintro e w3 ⟨rfl, b⟩
  have HB3 : Hid (Below w.heap.size w w3) := HB2.out.trans (b.mono HB2.out.size)
  clear b
  go_wp2_with fail
  go_ret
  exact ⟨by cases x <;> rfl, HB3.out⟩
theorem oppK_other {k : Int} (h1 : ¬ k = 1) (h2 : ¬ k = 2) (h3 : ¬ k = 3) (h4 : ¬ k = 4) : oppK k = k := by
  unfold oppK
  rw [if_neg (by omega), if_neg (by omega)]
theorem not_walk (r : Rq) (v vl : Value) (ls : List Lb) (w : World) (hv : Strs w v r.2.2) (hf : Fit r) (hl : Labs w vl ls) (hfl : FitL ls) (hR : Room w) :
    Calls Tryd.prog 3 #[.agg #[.string (Ba r.1), .int .i64 r.2.1, v], vl] w fun e w' => e = .returned (.bool true) ∧ Below w.heap.size w w' := by
  have M1 := mone w r v vl ls hv hf hl hfl hR
  have M2 := mone w (oppR r) v vl ls hv hf hl hfl hR
  have hc := not_cases r ls
  obtain ⟨p2, c2, hvl, _, _⟩ := hl.open
  obtain ⟨p, c, rfl, _⟩ := hv.form
  obtain ⟨key, kd, vs⟩ := r
  generalize (matchE [(key, kd, vs)] ls).1 = x at *
  generalize (matchE [(key, kd, vs)] ls).2 = e at *
  generalize (matchE [oppR (key, kd, vs)] ls).1 = y at *
  generalize (matchE [oppR (key, kd, vs)] ls).2 = f at *
  by_cases h1 : kd = 1
  · subst h1
    rcases hc with ⟨he, rfl, rfl, rfl⟩ | ⟨rfl, rfl, rfl⟩
    · exact not_one_bad key p vs.length c vs vl p2 ls.length c2 w false _ hvl hR he M1 M2
    · exact not_one_ok key p vs.length c vs vl p2 ls.length c2 w x 0 hvl hR M1 M2
  by_cases h2 : kd = 2
  · subst h2
    rcases hc with ⟨he, rfl, rfl, rfl⟩ | ⟨rfl, rfl, rfl⟩
    · exact not_two_bad key p vs.length c vs vl p2 ls.length c2 w false _ hvl hR he M1 M2
    · exact not_two_ok key p vs.length c vs vl p2 ls.length c2 w x 0 hvl hR M1 M2
  by_cases h3 : kd = 3
  · subst h3
    rcases hc with ⟨he, rfl, rfl, rfl⟩ | ⟨rfl, rfl, rfl⟩
    · exact not_three_bad key p vs.length c vs vl p2 ls.length c2 w false _ hvl hR he M1 M2
    · exact not_three_ok key p vs.length c vs vl p2 ls.length c2 w x 0 hvl hR M1 M2
  by_cases h4 : kd = 4
  · subst h4
    rcases hc with ⟨he, rfl, rfl, rfl⟩ | ⟨rfl, rfl, rfl⟩
    · exact not_four_bad key p vs.length c vs vl p2 ls.length c2 w false _ hvl hR he M1 M2
    · exact not_four_ok key p vs.length c vs vl p2 ls.length c2 w x 0 hvl hR M1 M2
  have M3 : MOne w (key, kd, vs) (.slice p vs.length c) vl y f := by
    have : oppR (key, kd, vs) = (key, kd, vs) := by
      unfold oppR
      rw [oppK_other h1 h2 h3 h4]
    rw [this] at M2
    exact M2
  rcases hc with ⟨he, rfl, rfl, rfl⟩ | ⟨rfl, rfl, rfl⟩
  · exact not_other_bad key kd p vs.length c vs vl p2 ls.length c2 w false _ hvl hR h1 h2 h3 h4 he M1 M3
  · exact not_other_ok key kd p vs.length c vs vl p2 ls.length c2 w x 0 hvl hR h1 h2 h3 h4 M1 M3
end Go.Proofs.YtglmffplnglkdabDoor
