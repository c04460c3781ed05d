/- The reference's reader: in memory; contracts over this translation of its small methods: blanks, which byte comes next, going past it. -/
import Derived.Test.YtaogilpkeeigoaaGreatDoorRdSkip
import Derived.Test.YtaogilpkeeigoaaGreatDoorChr
namespace Go.Proofs.YtaogilpkeeigoaaGreatDoor
open Go.RowKit
set_option linter.unusedVariables false
set_option linter.unusedSimpArgs false
/-- the reference's reader at block b -/
def Rf (b : Nat) (t : ByteArray) (p k : Nat) (w : World) : Prop := w.heap[b]? = some (.cells #[.string t, .int .i64 p, .int .i64 k] 48 (0, 0))
section
variable {b : Nat} {t : ByteArray} {p k : Nat} {w w' : World}
theorem Rf.text (h : Rf b t p k w) : w.cell? ⟨b, 0, none⟩ = some (.string t) := by rw [cell_of_row _ _ _ _ _ _ h]; rfl
theorem Rf.place (h : Rf b t p k w) : w.cell? ⟨b, 1, none⟩ = some (.int .i64 p) := by rw [cell_of_row _ _ _ _ _ _ h]; rfl
theorem Rf.many (h : Rf b t p k w) : w.cell? ⟨b, 2, none⟩ = some (.int .i64 k) := by rw [cell_of_row _ _ _ _ _ _ h]; rfl
theorem Rf.free (h : Rf b t p k w) (j : Nat) : w.frozen? ⟨b, j, none⟩ = false := frozen_of_row _ _ _ _ _ h
theorem Rf.drew (h : Rf b t p k w) : Rf b t p k w.drew := h
theorem Rf.drewN (h : Rf b t p k w) (n : Nat) : Rf b t p k (w.drewN n) := h
theorem Rf.lt (h : Rf b t p k w) : b < w.heap.size := lt_of_block h
theorem Rf.move (h : Rf b t p k w) (q : Nat) : Rf b t q k (w.setCell ⟨b, 1, none⟩ (.int .i64 q)) := by
  have := heap_setCell_same w b 1 _ _ (.int .i64 q) h
  exact this
theorem Rf.count (h : Rf b t p k w) (q : Nat) : Rf b t p q (w.setCell ⟨b, 2, none⟩ (.int .i64 q)) := by
  have := heap_setCell_same w b 2 _ _ (.int .i64 q) h
  exact this
theorem Rf.alloc (h : Rf b t p k w) (o : Obj) : Rf b t p k (w.alloc o) := by
  have := Below.heap_alloc w o b h.lt
  exact this.trans h
/-- what a change of other blocks leaves -/
theorem Rf.kept {row : Option Nat} (h : Rf b t p k w) (hg : w.grownBy w' row) (hne : some b ≠ row) : Rf b t p k w' := (hg.block b h.lt hne).trans h
theorem Rf.placeOf_eq (h : Rf b t p k w) : placeOf b w = p := by
  unfold placeOf
  rw [h.place]
  simp [intOf]
end
set_option maxRecDepth 100000 in
set_option maxHeartbeats 4000000 in
theorem rfskip_any (b : Nat) (t : ByteArray) (p k : Nat) (w : World) (h : Rf b t p k w) (hp : p ≤ t.size) (ht : t.size ≤ 2000) :
    Calls Tryz.prog 41 #[.pointer (some ⟨b, 0, none⟩)] w fun e w' => e = .returned (.tuple #[]) ∧ G b w w' ∧ Rf b t (skipAt t p) k w' := by
  have HR : Hid (Rf b t p k w) := h
  clear h
  go_enter Tryz.func41, Tryz.ntmps41
  go_wp2_with fail
  go_loopw [2] (fun _ wr => ∃ q, q ≤ t.size ∧ skipAt t q = skipAt t p ∧ Rf b t q k wr ∧ G b w wr) (fun _ wr => t.size - placeOf b wr)
  case atStart => exact ⟨p, hp, rfl, HR.out, G.refl _ _⟩
  case round =>
    obtain ⟨q, hq, hs, hR, hG⟩ := hrel
    have HS : Hid (skipAt t q = skipAt t p) := hs
    have HR : Hid (Rf b t q k wr) := hR
    have HG : Hid (G b w wr) := hG
    have h0 := hR.text
    have h1 := hR.place
    clear hs hR hG
    by_cases hlt : q < t.size
    · have hI : (q : Int) < (t.size : Int) := by omega
      have HH : Hid (hd (rest t q) = t[q]) := hd_lt hlt
      by_cases h32 : t[q] = 32
      · have HB : Hid (blank (hd (rest t q)) = true) := by show blank (hd (rest t q)) = true; rw [HH.out, h32]; rfl
        go_wp2_with fail
        go_quiet (fail)
        have HR2 : Hid (Rf b t q k (wr.drewN nq)) := HR.out.drewN nq
        have c1 := HR2.out.place
        have c2 := HR2.out.free 1
        have HG2 : Hid (G b w (wr.drewN nq)) := HG.out.drewN nq
        generalize wr.drewN nq = w1 at *
        go_wp2_with fail
        go_roundw
        case rel => exact ⟨q + 1, by omega, by rw [← HS.out, skipAt_step (p := q) HB.out], HR2.out.move (q + 1), HG2.out.setCell 1 _⟩
        case measure => rw [show placeOf b (w1.setCell ⟨b, 1, none⟩ (.int .i64 ((q : Int) + 1))) = q + 1 from (HR2.out.move (q + 1)).placeOf_eq, HR.out.placeOf_eq]; omega
      have n32 : ((t[q].toNat : Int) == 32) = false := by rw [beq_eq_false_iff_ne]; intro e; exact h32 (UInt8.toNat_inj.1 (by show t[q].toNat = 32; omega))
      by_cases h10 : t[q] = 10
      · clear n32
        have HB : Hid (blank (hd (rest t q)) = true) := by show blank (hd (rest t q)) = true; rw [HH.out, h10]; rfl
        go_wp2_with fail
        go_quiet (fail)
        have HR2 : Hid (Rf b t q k (wr.drewN nq)) := HR.out.drewN nq
        have c1 := HR2.out.place
        have c2 := HR2.out.free 1
        have HG2 : Hid (G b w (wr.drewN nq)) := HG.out.drewN nq
        generalize wr.drewN nq = w1 at *
        go_wp2_with fail
        go_roundw
        case rel => exact ⟨q + 1, by omega, by rw [← HS.out, skipAt_step (p := q) HB.out], HR2.out.move (q + 1), HG2.out.setCell 1 _⟩
        case measure => rw [show placeOf b (w1.setCell ⟨b, 1, none⟩ (.int .i64 ((q : Int) + 1))) = q + 1 from (HR2.out.move (q + 1)).placeOf_eq, HR.out.placeOf_eq]; omega
      have n10 : ((t[q].toNat : Int) == 10) = false := by rw [beq_eq_false_iff_ne]; intro e; exact h10 (UInt8.toNat_inj.1 (by show t[q].toNat = 10; omega))
      by_cases h9 : t[q] = 9
      · clear n32 n10
        have HB : Hid (blank (hd (rest t q)) = true) := by show blank (hd (rest t q)) = true; rw [HH.out, h9]; rfl
        go_wp2_with fail
        go_quiet (fail)
        have HR2 : Hid (Rf b t q k (wr.drewN nq)) := HR.out.drewN nq
        have c1 := HR2.out.place
        have c2 := HR2.out.free 1
        have HG2 : Hid (G b w (wr.drewN nq)) := HG.out.drewN nq
        generalize wr.drewN nq = w1 at *
        go_wp2_with fail
        go_roundw
        case rel => exact ⟨q + 1, by omega, by rw [← HS.out, skipAt_step (p := q) HB.out], HR2.out.move (q + 1), HG2.out.setCell 1 _⟩
        case measure => rw [show placeOf b (w1.setCell ⟨b, 1, none⟩ (.int .i64 ((q : Int) + 1))) = q + 1 from (HR2.out.move (q + 1)).placeOf_eq, HR.out.placeOf_eq]; omega
      have n9 : ((t[q].toNat : Int) == 9) = false := by rw [beq_eq_false_iff_ne]; intro e; exact h9 (UInt8.toNat_inj.1 (by show t[q].toNat = 9; omega))
      have HB : Hid (blank (hd (rest t q)) = false) := by show blank (hd (rest t q)) = false; rw [HH.out]; simp [blank, h32, h10, h9]
      clear h32 h10 h9
      go_wp2_with fail
      go_quiet (fail)
      have HR2 : Hid (Rf b t q k (wr.drewN nq)) := HR.out.drewN nq
      have HG2 : Hid (G b w (wr.drewN nq)) := HG.out.drewN nq
      generalize wr.drewN nq = w1 at *
      go_wp2_with fail
      go_end0
      exact ⟨rfl, HG2.out, by rw [← HS.out, skipAt_stop hq HB.out]; exact HR2.out⟩
    · have hI : ¬ (q : Int) < (t.size : Int) := by omega
      have HB : Hid (blank (hd (rest t q)) = false) := by show blank (hd (rest t q)) = false; rw [hd_end (by omega)]; rfl
      go_wp2_with fail
      go_quiet (fail)
      have HR2 : Hid (Rf b t q k (wr.drewN nq)) := HR.out.drewN nq
      have HG2 : Hid (G b w (wr.drewN nq)) := HG.out.drewN nq
      generalize wr.drewN nq = w1 at *
      go_wp2_with fail
      go_end0
      exact ⟨rfl, HG2.out, by rw [← HS.out, skipAt_stop hq HB.out]; exact HR2.out⟩
/-- what comes next (-1: the end) -/
def lookOf : Bs → Int
  | [] => -1
  | c :: _ => c.toNat
set_option maxRecDepth 100000 in
set_option maxHeartbeats 1000000 in
theorem look_any (b : Nat) (t : ByteArray) (p k : Nat) (w : World) (h : Rf b t p k w) (hp : p ≤ t.size) (ht : t.size ≤ 2000) :
    Calls Tryz.prog 19 #[.pointer (some ⟨b, 0, none⟩)] w fun e w' => e = .returned (.int .i64 (lookOf (rest t (skipAt t p)))) ∧ G b w w' ∧ Rf b t (skipAt t p) k w' := by
  have HR : Hid (Rf b t p k w) := h
  obtain ⟨q, hqe⟩ : ∃ q, skipAt t p = q := ⟨_, rfl⟩
  have hle : q ≤ t.size := hqe ▸ skipAt_le t p
  have HQ : Hid (skipAt t p = q) := hqe
  rw [hqe]
  clear h hqe
  by_cases hlt : q < t.size
  · have hI : ((q : Int) == (t.size : Int)) = false := by rw [beq_eq_false_iff_ne]; omega
    have hI2 : (q : Int) < (t.size : Int) := by omega
    have hwr : wrap64 (t[q].toNat : Int) = (t[q].toNat : Int) := by
      have := t[q].toNat_lt
      unfold wrap64
      omega
    have HL : Hid (lookOf (rest t q) = (t[q].toNat : Int)) := by
      show lookOf (rest t q) = (t[q].toNat : Int)
      rw [rest_cons hlt]
      rfl
    generalize lookOf (rest t q) = lk at *
    go_enter Tryz.func19, Tryz.ntmps19
    go_wp2_with fail
    refine (rfskip_any b t p k w HR.out hp ht).mono ?_
    rintro e w1 ⟨rfl, g1, r1⟩
    rw [HQ.out] at r1
    have HG1 : Hid (G b w w1) := g1
    have HR1 : Hid (Rf b t q k w1) := r1
    have h0 := r1.text
    have h1 := r1.place
    clear g1 r1
    go_wp2_with fail
    go_quiet (fail)
    go_wp2_with fail
    go_quiet (fail)
    go_wp2_with fail
    go_ret
    exact ⟨by show Ending.returned (Value.int .i64 (wrap64 (t[q].toNat : Int))) = _; rw [hwr, HL.out], (HG1.out.drewN _).drewN _, (HR1.out.drewN _).drewN _⟩
  · have hI : ((q : Int) == (t.size : Int)) = true := by rw [beq_iff_eq]; omega
    have HL : Hid (lookOf (rest t q) = -1) := by
      show lookOf (rest t q) = -1
      rw [rest_nil (by omega)]
      rfl
    generalize lookOf (rest t q) = lk at *
    go_enter Tryz.func19, Tryz.ntmps19
    go_wp2_with fail
    refine (rfskip_any b t p k w HR.out hp ht).mono ?_
    rintro e w1 ⟨rfl, g1, r1⟩
    rw [HQ.out] at r1
    have HG1 : Hid (G b w w1) := g1
    have HR1 : Hid (Rf b t q k w1) := r1
    have h0 := r1.text
    have h1 := r1.place
    clear g1 r1
    go_wp2_with fail
    go_quiet (fail)
    go_wp2_with fail
    go_ret
    exact ⟨by rw [HL.out]; rfl, HG1.out.drewN _, HR1.out.drewN _⟩
theorem look_is {r : Bs} {c : UInt8} (h0 : c ≠ 0) : lookOf r = (c.toNat : Int) ↔ hd r = c := by
  cases r with
  | nil =>
    constructor
    · intro e
      have : (-1 : Int) = (c.toNat : Int) := e
      omega
    · intro e
      exact absurd e.symm h0
  | cons d r =>
    constructor
    · intro e
      have e' : (d.toNat : Int) = (c.toNat : Int) := e
      have e2 : d = c := UInt8.toNat_inj.1 (by omega)
      exact e2
    · intro e
      have e' : d = c := e
      rw [e']
      rfl
set_option maxRecDepth 100000 in
set_option maxHeartbeats 1000000 in
theorem eat_no (b : Nat) (t : ByteArray) (p k : Nat) (c : UInt8) (w : World) (h : Rf b t p k w) (hp : p ≤ t.size) (ht : t.size ≤ 2000) (h0 : c ≠ 0) (hc : hd (rest t (skipAt t p)) ≠ c) :
    Calls Tryz.prog 54 #[.pointer (some ⟨b, 0, none⟩), .int .i64 c.toNat] w fun e w' => e = .returned (.bool false) ∧ G b w w' ∧ Rf b t (skipAt t p) k w' := by
  have HR : Hid (Rf b t p k w) := h
  have hne : (lookOf (rest t (skipAt t p)) != (c.toNat : Int)) = true := by
    rw [bne_iff_ne]
    exact fun e => hc ((look_is h0).1 e)
  obtain ⟨q, hqe⟩ : ∃ q, skipAt t p = q := ⟨_, rfl⟩
  rw [hqe] at hne ⊢
  have HQ : Hid (skipAt t p = q) := hqe
  have hle : q ≤ t.size := hqe ▸ skipAt_le t p
  clear h hc hqe
  obtain ⟨lk, hlk⟩ : ∃ lk, lookOf (rest t q) = lk := ⟨_, rfl⟩
  rw [hlk] at hne
  have HLk : Hid (lookOf (rest t q) = lk) := hlk
  clear hlk
  go_enter Tryz.func54, Tryz.ntmps54
  go_wp2_with fail
  refine (look_any b t p k w HR.out hp ht).mono ?_
  rintro e w1 ⟨rfl, g1, r1⟩
  rw [HQ.out] at r1 ⊢
  rw [HLk.out]
  have HG1 : Hid (G b w w1) := g1
  have HR1 : Hid (Rf b t q k w1) := r1
  clear g1 r1
  go_wp2_with fail
  go_ret
  exact ⟨rfl, HG1.out, HR1.out⟩
set_option maxRecDepth 100000 in
set_option maxHeartbeats 1000000 in
theorem eat_yes (b : Nat) (t : ByteArray) (p k : Nat) (c : UInt8) (w : World) (h : Rf b t p k w) (hp : p ≤ t.size) (ht : t.size ≤ 2000) (h0 : c ≠ 0) (hc : hd (rest t (skipAt t p)) = c) :
    Calls Tryz.prog 54 #[.pointer (some ⟨b, 0, none⟩), .int .i64 c.toNat] w fun e w' => e = .returned (.bool true) ∧ G b w w' ∧ Rf b t (skipAt t p + 1) k w' := by
  have HR : Hid (Rf b t p k w) := h
  have hne : (lookOf (rest t (skipAt t p)) != (c.toNat : Int)) = false := by
    rw [bne_eq_false_iff_eq]
    exact (look_is h0).2 hc
  obtain ⟨q, hqe⟩ : ∃ q, skipAt t p = q := ⟨_, rfl⟩
  rw [hqe] at hne ⊢
  have HQ : Hid (skipAt t p = q) := hqe
  have hle : q ≤ t.size := hqe ▸ skipAt_le t p
  clear h hc hqe
  obtain ⟨lk, hlk⟩ : ∃ lk, lookOf (rest t q) = lk := ⟨_, rfl⟩
  rw [hlk] at hne
  have HLk : Hid (lookOf (rest t q) = lk) := hlk
  clear hlk
  go_enter Tryz.func54, Tryz.ntmps54
  go_wp2_with fail
  refine (look_any b t p k w HR.out hp ht).mono ?_
  rintro e w1 ⟨rfl, g1, r1⟩
  rw [HQ.out] at r1 ⊢
  rw [HLk.out]
  have HG1 : Hid (G b w w1) := g1
  have HR1 : Hid (Rf b t q k w1) := r1
  have c1 := r1.place
  have c2 := r1.free 1
  clear g1 r1
  go_wp2_with fail
  go_ret
  exact ⟨rfl, HG1.out.setCell 1 _, HR1.out.move (q + 1)⟩
end Go.Proofs.YtaogilpkeeigoaaGreatDoor
