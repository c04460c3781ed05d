/- Contract over this translation: what seal.spread answers. -/
import Derived.Test.YtmbpjbghhimedaaGreatDoorSlBits
import Derived.Deep.QuietTactic
import Derived.StillTailTactics
import Derived.Deep.WholeRow
import Derived.Test.YtmbpjbghhimedaaGreatDoorSlBuild
namespace Go.Proofs.YtmbpjbghhimedaaGreatDoor
open Go.RowKit
set_option linter.unusedVariables false
set_option linter.unusedSimpArgs false
/-- numbers of 32 bits as cells -/
abbrev Vw (xs : List Nat) : List Value := xs.map fun x : Nat => .int .u32 (x : Int)
/-- four bytes as a number -/
def wordP (a b c d : UInt8) : Nat := ((a.toNat * 256 + b.toNat) * 256 + c.toNat) * 256 + d.toNat
theorem word_lt (a b c d : UInt8) : wordP a b c d < lim := by
  have := a.toNat_lt
  have := b.toNat_lt
  have := c.toNat_lt
  have := d.toNat_lt
  show ((a.toNat * 256 + b.toNat) * 256 + c.toNat) * 256 + d.toNat < 4294967296
  omega
def wordAt (b : Bs) (i : Nat) : Nat := wordP (b.getD (4 * i) 0) (b.getD (4 * i + 1) 0) (b.getD (4 * i + 2) 0) (b.getD (4 * i + 3) 0)
/-- the first k numbers of a block -/
def firstP (b : Bs) : Nat → List Nat
  | 0 => List.replicate 64 0
  | k + 1 => (firstP b k).set k (wordAt b k)
def extAt (ws : List Nat) (i : Nat) : Nat := (ws.getD (i - 16) 0 + s0P (ws.getD (i - 15) 0) + ws.getD (i - 7) 0 + s1P (ws.getD (i - 2) 0)) % 4294967296
/-- .. and k more -/
def moreP (b : Bs) : Nat → List Nat
  | 0 => firstP b 16
  | k + 1 => (moreP b k).set (16 + k) (extAt (moreP b k) (16 + k))
def spreadP (b : Bs) : List Nat := moreP b 48
def AllLt (ws : List Nat) : Prop := ws.length = 64 ∧ ∀ i, ws.getD i 0 < lim
theorem AllLt.set {ws : List Nat} (h : AllLt ws) (k x : Nat) (hx : x < lim) : AllLt (ws.set k x) := by
  refine ⟨by rw [List.length_set]; exact h.1, fun i => ?_⟩
  rw [List.getD_eq_getElem?_getD, List.getElem?_set]
  split
  · split
    · exact hx
    · exact (by decide : 0 < lim)
  · have := h.2 i
    rw [List.getD_eq_getElem?_getD] at this
    exact this
theorem first_lt (b : Bs) : ∀ k, AllLt (firstP b k)
  | 0 => ⟨rfl, fun i => by
    show (List.replicate 64 0).getD i 0 < lim
    rw [List.getD_eq_getElem?_getD, List.getElem?_replicate]
    split <;> decide⟩
  | k + 1 => (first_lt b k).set _ _ (word_lt _ _ _ _)
theorem more_lt (b : Bs) : ∀ k, AllLt (moreP b k)
  | 0 => first_lt b 16
  | k + 1 => (more_lt b k).set _ _ (Nat.mod_lt _ (by decide))
theorem vw_set (ws : List Nat) (k x : Nat) : ((Vw ws).toArray).setIfInBounds k (.int .u32 (x : Int)) = (Vw (ws.set k x)).toArray := by
  simp [Vw, List.map_set]
theorem vw_get {ws : List Nat} {k : Nat} (h : k < ws.length) : (Vw ws).toArray[k]? = some (.int .u32 (ws.getD k 0 : Nat)) := by
  simp [Vw, List.getD_eq_getElem?_getD, h]
theorem bc_get {b : Bs} {k : Nat} (h : k < b.length) : (Lib.byteCells b).toArray[k]? = some (.int .u8 ((b.getD k 0).toNat : Nat)) := by
  simp [Lib.byteCells, List.getD_eq_getElem?_getD, h]
theorem or_sum (a b c d : UInt8) : bits .or .u32 (bits .or .u32 (bits .or .u32 ((a.toNat : Int) * 16777216) ((b.toNat : Int) * 65536)) ((c.toNat : Int) * 256)) (d.toNat : Int) = ((wordP a b c d : Nat) : Int) := by
  have ha := a.toNat_lt
  have hb := b.toNat_lt
  have hc := c.toNat_lt
  have hd := d.toNat_lt
  have e1 : a.toNat * 16777216 ||| b.toNat * 65536 = a.toNat * 16777216 + b.toNat * 65536 := by
    have := Nat.shiftLeft_add_eq_or_of_lt (i := 24) (b := b.toNat * 65536) (by omega) a.toNat
    rw [Nat.shiftLeft_eq] at this
    exact this.symm
  have e2 : (a.toNat * 256 + b.toNat) * 65536 ||| c.toNat * 256 = (a.toNat * 256 + b.toNat) * 65536 + c.toNat * 256 := by
    have := Nat.shiftLeft_add_eq_or_of_lt (i := 16) (b := c.toNat * 256) (by omega) (a.toNat * 256 + b.toNat)
    rw [Nat.shiftLeft_eq] at this
    exact this.symm
  have e3 : ((a.toNat * 256 + b.toNat) * 256 + c.toNat) * 256 ||| d.toNat = ((a.toNat * 256 + b.toNat) * 256 + c.toNat) * 256 + d.toNat := by
    have := Nat.shiftLeft_add_eq_or_of_lt (i := 8) (b := d.toNat) (by omega) ((a.toNat * 256 + b.toNat) * 256 + c.toNat)
    rw [Nat.shiftLeft_eq] at this
    exact this.symm
  have x1 := or_int (a.toNat * 16777216) (b.toNat * 65536) (by show _ < 4294967296; omega) (by show _ < 4294967296; omega)
  have x2 := or_int ((a.toNat * 256 + b.toNat) * 65536) (c.toNat * 256) (by show _ < 4294967296; omega) (by show _ < 4294967296; omega)
  have x3 := or_int (((a.toNat * 256 + b.toNat) * 256 + c.toNat) * 256) d.toNat (by show _ < 4294967296; omega) (by show _ < 4294967296; omega)
  rw [e1, show a.toNat * 16777216 + b.toNat * 65536 = (a.toNat * 256 + b.toNat) * 65536 by omega] at x1
  rw [e2, show (a.toNat * 256 + b.toNat) * 65536 + c.toNat * 256 = ((a.toNat * 256 + b.toNat) * 256 + c.toNat) * 256 by omega] at x2
  rw [e3] at x3
  rw [show ((a.toNat : Int) * 16777216) = ((a.toNat * 16777216 : Nat) : Int) by omega, show ((b.toNat : Int) * 65536) = ((b.toNat * 65536 : Nat) : Int) by omega, x1, show ((c.toNat : Int) * 256) = ((c.toNat * 256 : Nat) : Int) by omega, x2, x3]
  rfl
theorem cell_at {w : World} {g : Nat} {cs : Array Value} {t : TypeId} {fr : Nat × Nat} {k : Nat} {v : Value} (h : w.heap[g]? = some (.cells cs t fr)) (hk : cs[k]? = some v) : w.cell? ⟨g, k, none⟩ = some v := by
  rw [Lib.cell_of_heap h, hk]
theorem below_setRow {n : Nat} {w w1 : World} (h : Below n w w1) {g : Nat} (hg : n ≤ g) (cs : Array Value) : Below n w (w1.setRow g cs) := by
  exact h.trans ⟨rfl, rfl, rfl, by simp, fun k hk => setRow_other w1 g k cs (by omega)⟩
/-- the boxes of spread: the block, what is answered, the numbers so far -/
structure SpW (w : World) (b : Bs) (ws : List Nat) (wr : World) : Prop where
  below : Below w.heap.size w wr
  b0 : wr.heap[w.heap.size]? = some (.cells (Lib.byteCells b).toArray 78 (0, 0))
  b1 : wr.heap[w.heap.size + 1]? = some (.cells (Vw (List.replicate 64 0)).toArray 88 (0, 0))
  b2 : wr.heap[w.heap.size + 1 + 1]? = some (.cells (Vw ws).toArray 88 (0, 0))
theorem SpW.drew {w : World} {b : Bs} {ws : List Nat} {wr : World} (h : SpW w b ws wr) : SpW w b ws wr.drew := ⟨h.below.drew, h.b0, h.b1, h.b2⟩
theorem SpW.put {w : World} {b : Bs} {ws : List Nat} {wr : World} (h : SpW w b ws wr) (k x : Nat) : SpW w b (ws.set k x) (wr.setCell ⟨w.heap.size + 1 + 1, k, none⟩ (.int .u32 (x : Int))) := by
  refine ⟨h.below.setCell (p := ⟨w.heap.size + 1 + 1, k, none⟩) (by show _ ≤ w.heap.size + 1 + 1; omega) _, ?_, ?_, ?_⟩
  · rw [heap_setCell_other _ _ _ _ (by show w.heap.size ≠ w.heap.size + 1 + 1; omega)]; exact h.b0
  · rw [heap_setCell_other _ _ _ _ (by show w.heap.size + 1 ≠ w.heap.size + 1 + 1; omega)]; exact h.b1
  · rw [heap_setCell_same _ _ _ _ _ _ h.b2, vw_set]
theorem SpW.word {w : World} {b : Bs} {ws : List Nat} {wr : World} (h : SpW w b ws wr) (k : Nat) (hk : k < ws.length) : wr.cell? ⟨w.heap.size + 1 + 1, k, none⟩ = some (.int .u32 (ws.getD k 0 : Nat)) := cell_at h.b2 (vw_get hk)
theorem SpW.byte {w : World} {b : Bs} {ws : List Nat} {wr : World} (h : SpW w b ws wr) (k : Nat) (hk : k < b.length) : wr.cell? ⟨w.heap.size, k, none⟩ = some (.int .u8 ((b.getD k 0).toNat : Nat)) := cell_at h.b0 (bc_get hk)
set_option maxRecDepth 100000 in
set_option maxHeartbeats 4000000 in
theorem spread_any (b : Bs) (w : World) (hb : b.length = 64) :
    Calls Tryz.prog 127 #[.agg (Lib.byteCells b).toArray] w fun e w' => e = .returned (.agg (Vw (spreadP b)).toArray) ∧ Below w.heap.size w w' := by
  have HI : Hid (SpW w b (firstP b 0) (((w.alloc (.cells (Lib.byteCells b).toArray 78)).alloc (.cells (Vw (List.replicate 64 0)).toArray 88)).alloc (.cells (Vw (List.replicate 64 0)).toArray 88))) := by
    have n1 : (w.alloc (.cells (Lib.byteCells b).toArray 78)).heap.size = w.heap.size + 1 := by simp
    have n2 : ((w.alloc (.cells (Lib.byteCells b).toArray 78)).alloc (.cells (Vw (List.replicate 64 0)).toArray 88)).heap.size = w.heap.size + 1 + 1 := by simp
    refine ⟨(((Below.refl _ w).alloc (Nat.le_refl _) _).alloc (by omega) _).alloc (by omega) _, ?_, ?_, ?_⟩
    · rw [heap_alloc_old _ _ (by omega), heap_alloc_old _ _ (by omega)]
      exact heap_alloc_new w _
    · rw [heap_alloc_old _ _ (by omega), ← n1]
      exact heap_alloc_new _ _
    · rw [← n2]
      exact heap_alloc_new _ _
  have hbig : ∀ k : Nat, k < 16 → 4 * k + 3 < 64 := fun k h => by omega
  go_enter Tryz.func127, Tryz.ntmps127
  go_wp2_with fail
  go_loopw [6] (fun i wr => ∃ k : Nat, k ≤ 16 ∧ i = .int .i64 k ∧ SpW w b (firstP b k) wr) (fun i _ => 16 - (intOf i).toNat)
  case atStart => exact ⟨0, Nat.zero_le _, rfl, HI.out⟩
  case round =>
    obtain ⟨k, hk, rfl, hS⟩ := hrel
    have HS : Hid (SpW w b (firstP b k) wr) := hS
    by_cases hlt : k < 16
    · obtain ⟨q0, hq0⟩ : ∃ q, q = 4 * k := ⟨_, rfl⟩
      obtain ⟨q1, hq1⟩ : ∃ q, q = 4 * k + 1 := ⟨_, rfl⟩
      obtain ⟨q2, hq2⟩ : ∃ q, q = 4 * k + 2 := ⟨_, rfl⟩
      obtain ⟨q3, hq3⟩ : ∃ q, q = 4 * k + 3 := ⟨_, rfl⟩
      have c0 := hS.byte q0 (by omega)
      have c1 := hS.byte q1 (by omega)
      have c2 := hS.byte q2 (by omega)
      have c3 := hS.byte q3 (by omega)
      have hw0 : IntKind.i64.wrap (4 * (k : Int)) = (q0 : Int) := by rw [IntKind.wrap_i64]; omega
      have hw1 : IntKind.i64.wrap ((q0 : Int) + 1) = (q1 : Int) := by rw [IntKind.wrap_i64]; omega
      have hw2 : IntKind.i64.wrap ((q0 : Int) + 2) = (q2 : Int) := by rw [IntKind.wrap_i64]; omega
      have hw3 : IntKind.i64.wrap ((q0 : Int) + 3) = (q3 : Int) := by rw [IntKind.wrap_i64]; omega
      have l0 : (q0 : Int) < 64 := by omega
      have l1 : (q1 : Int) < 64 := by omega
      have l2 : (q2 : Int) < 64 := by omega
      have l3 : (q3 : Int) < 64 := by omega
      have hos := or_sum (b.getD q0 0) (b.getD q1 0) (b.getD q2 0) (b.getD q3 0)
      have HN : Hid (SpW w b (firstP b (k + 1)) (wr.drew.setCell ⟨w.heap.size + 1 + 1, k, none⟩ (.int .u32 (wordAt b k : Nat)))) := HS.out.drew.put k (wordAt b k)
      have hwa : wordP (b.getD q0 0) (b.getD q1 0) (b.getD q2 0) (b.getD q3 0) = wordAt b k := by rw [hq0, hq1, hq2, hq3]; rfl
      have hfz : wr.frozen? ⟨w.heap.size + 1 + 1, k, none⟩ = false := Lib.frozen_of_heap hS.b2 k
      have hlt64 : (k : Int) < 64 := by omega
      have cW := hS.word k (by rw [(first_lt b k).1]; omega)
      generalize (firstP b k).getD k 0 = old at *
      rw [hwa] at hos
      clear hS hwa hbig hq0 hq1 hq2 hq3
      generalize wordAt b k = x at *
      have e0 := (b.getD q0 0).toNat_lt
      have e1 := (b.getD q1 0).toNat_lt
      have e2 := (b.getD q2 0).toNat_lt
      have e3 := (b.getD q3 0).toNat_lt
      generalize (b.getD q0 0).toNat = y0 at *
      generalize (b.getD q1 0).toNat = y1 at *
      generalize (b.getD q2 0).toNat = y2 at *
      generalize (b.getD q3 0).toNat = y3 at *
      have hv0 : IntKind.u32.wrap (y0 : Int) = y0 := by rw [IntKind.wrap_u32']; omega
      have hv1 : IntKind.u32.wrap (y1 : Int) = y1 := by rw [IntKind.wrap_u32']; omega
      have hv2 : IntKind.u32.wrap (y2 : Int) = y2 := by rw [IntKind.wrap_u32']; omega
      have hv3 : IntKind.u32.wrap (y3 : Int) = y3 := by rw [IntKind.wrap_u32']; omega
      have hs0 : IntKind.u32.wrap ((y0 : Int) * 16777216) = (y0 : Int) * 16777216 := by rw [IntKind.wrap_u32']; omega
      have hs1 : IntKind.u32.wrap ((y1 : Int) * 65536) = (y1 : Int) * 65536 := by rw [IntKind.wrap_u32']; omega
      have hs2 : IntKind.u32.wrap ((y2 : Int) * 256) = (y2 : Int) * 256 := by rw [IntKind.wrap_u32']; omega
      go_wp2_with fail
      go_still_tail 31, (by kernel_rfl)
      go_wp2_with fail
      go_roundw
      case rel => exact ⟨k + 1, by omega, by go_num, HN.out⟩
      case measure => simp [intOf]; omega
    · have hke : k = 16 := by omega
      have HS2 : Hid (SpW w b (moreP b 0) wr) := by
        have h := HS.out
        rw [hke] at h
        exact h
      have hnl : ¬ ((k : Int) < 16) := by omega
      clear hbig HI hlt hk hS HS hke
      go_wp2_with fail
      obtain ⟨wA, hwA⟩ : ∃ wA, wA = wr := ⟨_, rfl⟩
      subst hwA
      go_loopw [5] (fun i wr => ∃ j : Nat, j ≤ 48 ∧ i = .int .i64 ((16 + j : Nat) : Int) ∧ SpW w b (moreP b j) wr) (fun i _ => 64 - (intOf i).toNat)
      case atStart => exact ⟨0, Nat.zero_le _, rfl, HS2.out⟩
      case round =>
        obtain ⟨j, hj, rfl, hS⟩ := hrel
        have HS : Hid (SpW w b (moreP b j) wr) := hS
        have hlen : (moreP b j).length = 64 := (more_lt b j).1
        obtain ⟨i, hi⟩ : ∃ i, i = 16 + j := ⟨_, rfl⟩
        rw [← hi]
        by_cases hlt : j < 48
        · obtain ⟨q0, hq0⟩ : ∃ q, q = i - 16 := ⟨_, rfl⟩
          obtain ⟨q1, hq1⟩ : ∃ q, q = i - 15 := ⟨_, rfl⟩
          obtain ⟨q2, hq2⟩ : ∃ q, q = i - 7 := ⟨_, rfl⟩
          obtain ⟨q3, hq3⟩ : ∃ q, q = i - 2 := ⟨_, rfl⟩
          have c0 := hS.word q0 (by omega)
          have c1 := hS.word q1 (by omega)
          have c2 := hS.word q2 (by omega)
          have c3 := hS.word q3 (by omega)
          have cW := hS.word i (by omega)
          have hw0 : IntKind.i64.wrap ((i : Int) - 16) = (q0 : Int) := by rw [IntKind.wrap_i64]; omega
          have hw1 : IntKind.i64.wrap ((i : Int) - 15) = (q1 : Int) := by rw [IntKind.wrap_i64]; omega
          have hw2 : IntKind.i64.wrap ((i : Int) - 7) = (q2 : Int) := by rw [IntKind.wrap_i64]; omega
          have hw3 : IntKind.i64.wrap ((i : Int) - 2) = (q3 : Int) := by rw [IntKind.wrap_i64]; omega
          have l0 : (q0 : Int) < 64 := by omega
          have l1 : (q1 : Int) < 64 := by omega
          have l2 : (q2 : Int) < 64 := by omega
          have l3 : (q3 : Int) < 64 := by omega
          have l4 : (i : Int) < 64 := by omega
          have HN : Hid (SpW w b (moreP b (j + 1)) (wr.drew.setCell ⟨w.heap.size + 1 + 1, i, none⟩ (.int .u32 (extAt (moreP b j) i : Nat)))) := by
            have h := HS.out.drew.put i (extAt (moreP b j) i)
            rw [hi] at h ⊢
            exact h
          have hex : extAt (moreP b j) i = ((moreP b j).getD q0 0 + s0P ((moreP b j).getD q1 0) + (moreP b j).getD q2 0 + s1P ((moreP b j).getD q3 0)) % 4294967296 := by rw [hq0, hq1, hq2, hq3]; rfl
          have hfz : wr.frozen? ⟨w.heap.size + 1 + 1, i, none⟩ = false := Lib.frozen_of_heap hS.b2 i
          have HC0 : Hid (∀ w, Calls Tryz.prog 136 #[.int .u32 ((moreP b j).getD q1 0 : Nat)] w fun e w' => e = .returned (.int .u32 (s0P ((moreP b j).getD q1 0) : Nat)) ∧ w' = w) := fun w => small0_any _ w ((more_lt b j).2 q1)
          have HC1 : Hid (∀ w, Calls Tryz.prog 137 #[.int .u32 ((moreP b j).getD q3 0 : Nat)] w fun e w' => e = .returned (.int .u32 (s1P ((moreP b j).getD q3 0) : Nat)) ∧ w' = w) := fun w => small1_any _ w ((more_lt b j).2 q3)
          have HI : Hid (i = 16 + j) := hi
          clear hS hq0 hq1 hq2 hq3 hlen hi
          generalize extAt (moreP b j) i = x at *
          generalize s0P ((moreP b j).getD q1 0) = t0 at *
          generalize s1P ((moreP b j).getD q3 0) = t1 at *
          generalize (moreP b j).getD q0 0 = y0 at *
          generalize (moreP b j).getD q1 0 = y1 at *
          generalize (moreP b j).getD q2 0 = y2 at *
          generalize (moreP b j).getD q3 0 = y3 at *
          generalize (moreP b j).getD i 0 = old at *
          obtain ⟨p1, hp1⟩ : ∃ p, p = (y0 + t0) % 4294967296 := ⟨_, rfl⟩
          obtain ⟨p2, hp2⟩ : ∃ p, p = (p1 + y2) % 4294967296 := ⟨_, rfl⟩
          have m1 : IntKind.u32.wrap ((y0 : Int) + t0) = (p1 : Int) := by rw [IntKind.wrap_u32']; omega
          have m2 : IntKind.u32.wrap ((p1 : Int) + y2) = (p2 : Int) := by rw [IntKind.wrap_u32']; omega
          have m3 : IntKind.u32.wrap ((p2 : Int) + t1) = (x : Int) := by rw [IntKind.wrap_u32']; omega
          clear hp1 hp2 hex
          go_wp2_with fail
          refine wp_region_still_tail 23 (by kernel_rfl) (by kernel_rfl) ?_
          simp only [List.take_succ_cons, List.take_zero, List.drop_succ_cons, List.drop_zero]
          repeat still_step
          still_call (HC0.out _)
          repeat still_step
          still_call (HC1.out _)
          repeat still_step
          try refine wpStill_nil ?_
          go_wp2_with fail
          have := HI.out
          go_roundw
          case rel => exact ⟨j + 1, by omega, by go_num, HN.out⟩
          case measure => simp [intOf]; omega
        · have hje : j = 48 := by omega
          subst hje
          have hb2 : Hid (wr.heap[w.heap.size + 1 + 1]? = some (.cells (Vw (spreadP b)).toArray 88 (0, 0))) := hS.b2
          have hb1 : Hid (wr.heap[w.heap.size + 1]? = some (.cells (Vw (List.replicate 64 0)).toArray 88 (0, 0))) := hS.b1
          have hll : (Vw (spreadP b)).toArray.size = 64 := by
            rw [List.size_toArray, List.length_map]
            exact hlen
          have hsz : Hid ((Tryz.prog.info? 88).map (·.size) = some (Vw (spreadP b)).toArray.size) := by
            rw [hll]
            show _ = _
            kernel_rfl
          have hol : Hid ((Vw (List.replicate 64 0)).toArray.size = (Vw (spreadP b)).toArray.size) := by
            rw [hll]
            show _ = _
            rfl
          have hone : Hid ((Vw (spreadP b)).toArray.all (·.oneCell') = true) := by
            show _ = _
            simp [Vw, Value.oneCell']
          have HBl : Hid (Below w.heap.size w (wr.setRow (w.heap.size + 1) (Vw (spreadP b)).toArray)) := below_setRow hS.below (by omega) _
          have HBn : Hid ((wr.setRow (w.heap.size + 1) (Vw (spreadP b)).toArray).heap[w.heap.size + 1]? = some (.cells (Vw (spreadP b)).toArray 88 (0, 0))) := setRow_heap _ _ _ _ _ _ hS.b1
          clear hS HS hlen hll HS2
          generalize hres : (Vw (spreadP b)).toArray = res at *
          have hi64 : ¬ ((i : Int) < 64) := by omega
          go_wp2_with (first | refine wpList_load_row rfl 88 _ rfl _ rfl 88 _ _ _ hb2.out Tryz.underlying88 rfl hsz.out ?_ | refine wpList_store_row rfl 88 _ _ rfl _ _ rfl rfl _ _ hb1.out hsz.out hol.out hone.out ?_)
          refine bodyPost_ret (v := .agg res) ?_ rfl ⟨rfl, HBl.out⟩
          exact results_cell_row rfl _ _ _ _ _ _ _ rfl HBn.out Tryz.underlying88 rfl hsz.out
end Go.Proofs.YtmbpjbghhimedaaGreatDoor
