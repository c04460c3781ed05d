/- Contracts over this translation: the document's above and root. -/
import Derived.Test.YtmbpjbghhimedaaGreatDoorSlRfWide
namespace Go.Proofs.YtmbpjbghhimedaaGreatDoor
open Go.RowKit
set_option linter.unusedVariables false
set_option linter.unusedSimpArgs false
def oneP : List Nat := 1 :: List.replicate 11 0
def powP (y : Nat) : Nat → List Nat
  | 0 => oneP
  | n + 1 => timesP (powP y n) y
def cmpP (a b : List Nat) : Nat → Bool
  | 0 => false
  | i + 1 => if a.getD i 0 = b.getD i 0 then cmpP a b i else decide (b.getD i 0 < a.getD i 0)
def topP (p n : Nat) : List Nat := (List.replicate 12 0).set (2 * n) p
def aboveP (y p n : Nat) : Bool := cmpP (powP y n) (topP p n) 12
theorem one_w : W12 oneP := W12.zero.set 0 1 (by decide)
theorem pow_w (y : Nat) : ∀ n, W12 (powP y n)
  | 0 => one_w
  | n + 1 => times_w _ _
theorem top_w {p : Nat} (n : Nat) (hp : p < big) : W12 (topP p n) := W12.zero.set _ _ hp
structure AbW (w : World) (a b : List Nat) (wr : World) : Prop where
  below : Below w.heap.size w wr
  b0 : wr.heap[w.heap.size]? = some (.cells (V64 a).toArray 134 (0, 0))
  b1 : wr.heap[w.heap.size + 1]? = some (.cells (V64 b).toArray 134 (0, 0))
theorem AbW.drewN {w : World} {a b : List Nat} {wr : World} (h : AbW w a b wr) (n : Nat) : AbW w a b (wr.drewN n) := ⟨below_drewN h.below n, h.b0, h.b1⟩
theorem AbW.begin (w : World) : AbW w oneP (List.replicate 12 0) ((w.alloc (.cells (V64 oneP).toArray 134)).alloc (.cells (V64 (List.replicate 12 0)).toArray 134)) := by
  have n1 : (w.alloc (.cells (V64 oneP).toArray 134)).heap.size = w.heap.size + 1 := by simp
  refine ⟨((Below.refl _ w).alloc (Nat.le_refl _) _).alloc (by omega) _, ?_, ?_⟩
  · rw [heap_alloc_old _ _ (by omega)]
    exact heap_alloc_new w _
  · rw [← n1]
    exact heap_alloc_new _ _
theorem v64_one (a : List Nat) : (V64 a).toArray.all (·.oneCell') = true := by simp [V64, Value.oneCell']
theorem v64_info {a : List Nat} (h : W12 a) : (Tryz.prog.info? 134).map (·.size) = some (V64 a).toArray.size := by
  rw [List.size_toArray, List.length_map, h.1]
  kernel_rfl
set_option maxRecDepth 100000 in
set_option maxHeartbeats 8000000 in
theorem above_any (y p n : Nat) (w : World) (hy : y < big) (hp : p < big) (hn : n ≤ 3) :
    Calls Tryz.prog 93 #[.int .u64 y, .int .u64 p, .int .i64 n] w fun e w' => e = .returned (.bool (aboveP y p n)) ∧ Below w.heap.size w w' := by
  have HI : Hid (AbW w (powP y 0) (List.replicate 12 0) ((w.alloc (.cells (V64 oneP).toArray 134)).alloc (.cells (V64 (List.replicate 12 0)).toArray 134))) := AbW.begin w
  have HTm : Hid (∀ k w, Calls Tryz.prog 118 #[.agg (V64 (powP y k)).toArray, .int .u64 y] w fun e w' => e = .returned (.agg (V64 (powP y (k + 1))).toArray) ∧ Below w.heap.size w w') := fun k w => times_any _ y w (pow_w y k) hy
  go_enter Tryz.func93, Tryz.ntmps93
  go_wp2_with fail
  go_loopw [13] (fun i wr => ∃ k : Nat, k ≤ n ∧ i = .int .i64 k ∧ AbW w (powP y k) (List.replicate 12 0) wr) (fun i _ => n - (intOf i).toNat)
  case atStart => exact ⟨0, Nat.zero_le _, rfl, HI.out⟩
  case round =>
    obtain ⟨k, hk, rfl, hT⟩ := hrel
    have HT : Hid (AbW w (powP y k) (List.replicate 12 0) wr) := hT
    by_cases hlt : k < n
    · have hkI : (k : Int) < (n : Int) := by omega
      have HSz : Hid (w.heap.size + 1 < wr.heap.size) := lt_of_block hT.b1
      have HTk : Hid (_) := HTm.out k
      have hi1 : Hid (_) := v64_info (pow_w y k)
      have hi2 : Hid (_) := v64_info (pow_w y (k + 1))
      have ho2 : Hid (_) := v64_one (powP y (k + 1))
      have hse : Hid ((V64 (powP y k)).toArray.size = (V64 (powP y (k + 1))).toArray.size) := by
        show _ = _
        rw [List.size_toArray, List.size_toArray, List.length_map, List.length_map, (pow_w y k).1, (pow_w y (k + 1)).1]
      clear hT
      go_wp2_with (refine wpList_load_row rfl 134 _ rfl _ rfl 134 _ _ _ HT.out.b0 Tryz.underlying134 rfl hi1.out ?_)
      refine Calls.mono (HTk.out _) ?_
      rintro e w3 ⟨rfl, b3⟩
      have h0 : w3.heap[w.heap.size]? = some (.cells (V64 (powP y k)).toArray 134 (0, 0)) := by rw [b3.block _ (by have := HSz.out; omega)]; exact HT.out.b0
      have h1 : w3.heap[w.heap.size + 1]? = some (.cells (V64 (List.replicate 12 0)).toArray 134 (0, 0)) := by rw [b3.block _ HSz.out]; exact HT.out.b1
      have HN : Hid (AbW w (powP y (k + 1)) (List.replicate 12 0) (w3.setRow w.heap.size (V64 (powP y (k + 1))).toArray)) :=
        ⟨below_setRow (HT.out.below.trans (b3.mono HT.out.below.size)) (Nat.le_refl _) _, setRow_heap _ _ _ _ _ _ h0, by rw [setRow_other w3 _ _ _ (by omega)]; exact h1⟩
      have H0 : Hid (_) := h0
      clear b3 h0 h1
      generalize (V64 (powP y (k + 1))).toArray = nA at *
      go_wp2_with (refine wpList_store_row rfl 134 _ _ rfl _ _ rfl rfl _ _ H0.out hi2.out hse.out ho2.out ?_)
      go_roundw
      case rel => exact ⟨k + 1, by omega, by go_num, HN.out⟩
      case measure => simp [intOf]; omega
    · have hke : k = n := by omega
      have hnN : ¬ ((k : Int) < (n : Int)) := by omega
      have hT1 : AbW w (powP y n) (List.replicate 12 0) wr := by rw [← hke]; exact hT
      obtain ⟨q, hq⟩ : ∃ q, q = 2 * n := ⟨_, rfl⟩
      have hqw : IntKind.i64.wrap (2 * (n : Int)) = (q : Int) := by rw [IntKind.wrap_i64]; omega
      have hqI : (q : Int) < 12 := by omega
      have hfz : wr.frozen? ⟨w.heap.size + 1, q, none⟩ = false := Lib.frozen_of_heap hT1.b1 q
      have hcq : wr.cell? ⟨w.heap.size + 1, q, none⟩ = some (.int .u64 ((List.replicate 12 0).getD q 0 : Nat)) := cell_at hT1.b1 (v64_get (by rw [List.length_replicate]; omega))
      have hset : (V64 (List.replicate 12 0)).toArray.setIfInBounds q (.int .u64 (p : Int)) = (V64 (topP p n)).toArray := by rw [v64_set, hq]; rfl
      have HN : Hid (AbW w (powP y n) (topP p n) (wr.setCell ⟨w.heap.size + 1, q, none⟩ (.int .u64 (p : Nat)))) := by
        refine ⟨hT1.below.setCell (p := ⟨w.heap.size + 1, q, none⟩) (by show _ ≤ w.heap.size + 1; omega) _, ?_, ?_⟩
        · rw [heap_setCell_other _ _ _ _ (by show w.heap.size ≠ w.heap.size + 1; omega)]; exact hT1.b0
        · rw [heap_setCell_same _ _ _ _ _ _ hT1.b1, hset]
      have HAb : Hid (aboveP y p n = cmpP (powP y n) (topP p n) 12) := rfl
      have hAw := (pow_w y n).1
      have hBw := (top_w n hp).1
      clear hT HT HI HTm hke hT1 hset hq
      generalize hA : powP y n = A at *
      generalize hB : topP p n = B at *
      generalize (List.replicate 12 0).getD q 0 = old at *
      go_wp2_with fail
      generalize hw4 : wr.setCell ⟨w.heap.size + 1, q, none⟩ (.int .u64 (p : Nat)) = w4 at *
      have HN4 : Hid (AbW w A B w4) := HN.out
      go_loopw [9] (fun i wr => ∃ k : Nat, k ≤ 12 ∧ i = .int .i64 ((k : Int) - 1) ∧ cmpP A B 12 = cmpP A B k ∧ AbW w A B wr) (fun i _ => (intOf i + 1).toNat)
      case atStart => exact ⟨12, Nat.le_refl _, rfl, rfl, HN4.out⟩
      case round =>
        obtain ⟨k, hk, rfl, hcm, hT⟩ := hrel
        have HT : Hid (AbW w A B wr) := hT
        obtain ⟨i, hi⟩ : ∃ i : Int, i = (k : Int) - 1 := ⟨_, rfl⟩
        rw [← hi]
        by_cases hk0 : k = 0
        · have HCm : Hid (cmpP A B 12 = false) := by rw [hk0] at hcm; exact hcm
          have hiN : ¬ ((0 : Int) ≤ i) := by omega
          clear hcm hT hi
          go_wp2_with fail
          go_ret
          exact ⟨by rw [HAb.out, HCm.out]; rfl, HT.out.below⟩
        · obtain ⟨j, hj⟩ : ∃ j, j = k - 1 := ⟨_, rfl⟩
          have hij : i = (j : Int) := by omega
          have hj12 : j < 12 := by omega
          have hkj : k = j + 1 := by omega
          have hiP : (0 : Int) ≤ i := by omega
          have ca := cell_at hT.b0 (v64_get (ws := A) (k := j) (by omega))
          have cb := cell_at hT.b1 (v64_get (ws := B) (k := j) (by omega))
          rw [hkj] at hcm
          have hst : cmpP A B (j + 1) = if A.getD j 0 = B.getD j 0 then cmpP A B j else decide (B.getD j 0 < A.getD j 0) := rfl
          rw [hst] at hcm
          have HKJ : Hid (k = j + 1) := hkj
          have HII : Hid (i = (j : Int)) := hij
          have hjI : (j : Int) < 12 := by omega
          have hwi : IntKind.i64.wrap (i - 1) = (j : Int) - 1 := by rw [IntKind.wrap_i64]; omega
          have hwj : IntKind.i64.wrap ((j : Int) - 1) = (j : Int) - 1 := by rw [IntKind.wrap_i64]; omega
          clear hT hi hkj hj hst hiP
          subst hij
          generalize A.getD j 0 = x at *
          generalize B.getD j 0 = z at *
          by_cases hxz : x = z
          · rw [if_pos hxz] at hcm
            have HCm : Hid (cmpP A B 12 = cmpP A B j) := hcm
            clear hcm
            subst hxz
            go_wp2_with fail
            go_quiet (fail)
            go_wp2_with fail
            have := HKJ.out
            go_roundw
            case rel => exact ⟨j, by omega, rfl, HCm.out, HT.out.drewN _⟩
            case measure => simp [intOf] <;> omega
          · rw [if_neg hxz] at hcm
            have HCm : Hid (aboveP y p n = decide (z < x)) := HAb.out.trans hcm
            have hxI : ¬ ((x : Int) = (z : Int)) := by omega
            have hxb : ((x : Int) == (z : Int)) = false := by simpa using hxI
            clear hcm
            go_wp2_with fail
            go_quiet (fail)
            have c2 : (wr.drewN nq).cell? ⟨w.heap.size, j, none⟩ = some (.int .u64 (x : Nat)) := ca
            have c3 : (wr.drewN nq).cell? ⟨w.heap.size + 1, j, none⟩ = some (.int .u64 (z : Nat)) := cb
            have HT2 : Hid (AbW w A B (wr.drewN nq)) := HT.out.drewN nq
            generalize wr.drewN nq = wq at *
            go_wp2_with fail
            go_quiet (fail)
            go_wp2_with fail
            go_ret
            exact ⟨by rw [HCm.out]; simp, (HT2.out.drewN _).below⟩
/-- the root, bit by bit from the top -/
def rootN (p n : Nat) : Nat → Nat
  | 0 => 0
  | j + 1 => if aboveP (rootN p n j ||| 2 ^ (36 - j)) p n then rootN p n j else rootN p n j ||| 2 ^ (36 - j)
def rootP (p n : Nat) : Nat := rootN p n 37 % 4294967296
theorem root_lt (p n : Nat) : ∀ j, rootN p n j < 137438953472
  | 0 => by show (0 : Nat) < _; decide
  | j + 1 => by
    have ih := root_lt p n j
    unfold rootN
    split
    · exact ih
    · exact Nat.or_lt_two_pow (n := 37) ih (Nat.pow_lt_pow_right (by decide) (by omega))
set_option maxRecDepth 100000 in
set_option maxHeartbeats 8000000 in
theorem root_any (p n : Nat) (w : World) (hp : p < big) (hn : n ≤ 3) :
    Calls Tryz.prog 65 #[.int .u64 p, .int .i64 n] w fun e w' => e = .returned (.int .u32 (rootP p n : Nat)) ∧ Below w.heap.size w w' := by
  go_enter Tryz.func65, Tryz.ntmps65
  go_wp2_with fail
  go_loopw [5, 6] (fun x i wr => ∃ j : Nat, j ≤ 37 ∧ i = .int .i64 (36 - (j : Int)) ∧ x = .int .u64 (rootN p n j : Nat) ∧ Below w.heap.size w wr) (fun _ i _ => (intOf i + 1).toNat)
  case atStart => exact ⟨0, Nat.zero_le _, rfl, rfl, Below.refl _ _⟩
  case round =>
    obtain ⟨j, hj, rfl, rfl, hbel⟩ := hrel
    have HB : Hid (Below w.heap.size w wr) := hbel
    clear hbel
    obtain ⟨i, hi⟩ : ∃ i : Int, i = 36 - (j : Int) := ⟨_, rfl⟩
    rw [← hi]
    by_cases hlt : j < 37
    · obtain ⟨k, hk⟩ : ∃ k, k = 36 - j := ⟨_, rfl⟩
      have hik : i = (k : Int) := by omega
      have hk37 : k < 37 := by omega
      obtain ⟨x, hx⟩ : ∃ x, x = rootN p n j := ⟨_, rfl⟩
      obtain ⟨t, ht⟩ : ∃ t, t = 2 ^ k := ⟨_, rfl⟩
      have hxl : x < 137438953472 := by rw [hx]; exact root_lt p n j
      have htl : t < 137438953472 := by rw [ht]; exact Nat.pow_lt_pow_right (by decide) hk37
      obtain ⟨y, hy⟩ : ∃ y, y = x ||| t := ⟨_, rfl⟩
      have hyl : y < big := Nat.lt_trans (by rw [hy]; exact Nat.or_lt_two_pow (n := 37) hxl htl) (by decide)
      have hor : bits .or .u64 (x : Int) (t : Int) = (y : Int) := by rw [hy]; exact u64_or_nat x t (Nat.lt_trans hxl (by decide)) (Nat.lt_trans htl (by decide))
      have hsh : IntKind.u64.wrap ((2 : Int) ^ k) = (t : Int) := by
        rw [IntKind.wrap_u64, ht, Int.natCast_pow]
        have h1 : (2 : Nat) ^ k < 137438953472 := by rw [← ht]; exact htl
        have h2 : ((2 : Int) ^ k) = ((2 ^ k : Nat) : Int) := by rw [Int.natCast_pow]; rfl
        rw [show ((2 : Nat) : Int) = 2 from rfl, h2]
        omega
      have hsh2 : IntKind.u64.wrap (1 * (2 : Int) ^ k) = (t : Int) := by rw [Int.one_mul]; exact hsh
      have hmin : min k 64 = k := by omega
      have hst : rootN p n (j + 1) = if aboveP y p n then x else y := by
        show (if aboveP (rootN p n j ||| 2 ^ (36 - j)) p n then rootN p n j else rootN p n j ||| 2 ^ (36 - j)) = _
        rw [← hk, ← ht, ← hx, ← hy]
      have HAb : Hid (∀ w, Calls Tryz.prog 93 #[.int .u64 y, .int .u64 p, .int .i64 n] w fun e w' => e = .returned (.bool (aboveP y p n)) ∧ Below w.heap.size w w') := fun w => above_any y p n w hyl hp hn
      have hwi : IntKind.i64.wrap ((k : Int) - 1) = (k : Int) - 1 := by rw [IntKind.wrap_i64]; omega
      have HKJ : Hid (k = 36 - j) := hk
      rw [← hx]
      clear hi hx ht hy hk hxl htl hyl
      subst hik
      cases hab : aboveP y p n with
      | true =>
        rw [hab] at HAb hst
        have HN : Hid (rootN p n (j + 1) = x) := hst
        clear hst hab
        go_wp2_with fail
        refine Calls.mono (HAb.out _) ?_
        rintro e w3 ⟨rfl, b3⟩
        have HB3 : Hid (Below w.heap.size w w3) := HB.out.trans (b3.mono HB.out.size)
        clear b3
        go_wp2_with fail
        have := HKJ.out
        go_roundw
        case rel => exact ⟨j + 1, by omega, by first | rfl | (congr 1; done) | (congr 1; omega), by rw [HN.out], HB3.out⟩
        case measure => simp [intOf] <;> omega
      | false =>
        rw [hab] at HAb hst
        have HN : Hid (rootN p n (j + 1) = y) := hst
        clear hst hab
        go_wp2_with fail
        refine Calls.mono (HAb.out _) ?_
        rintro e w3 ⟨rfl, b3⟩
        have HB3 : Hid (Below w.heap.size w w3) := HB.out.trans (b3.mono HB.out.size)
        clear b3
        go_wp2_with fail
        have := HKJ.out
        go_roundw
        case rel => exact ⟨j + 1, by omega, by first | rfl | (congr 1; done) | (congr 1; omega), by rw [HN.out], HB3.out⟩
        case measure => simp [intOf] <;> omega
    · have hj37 : j = 37 := by omega
      have hiN : ¬ ((0 : Int) ≤ i) := by omega
      have hcv : IntKind.u32.wrap ((rootN p n j : Nat) : Int) = ((rootP p n : Nat) : Int) := by
        rw [IntKind.wrap_u32', rootP, hj37]
        omega
      have HCv : Hid (_) := hcv
      clear hi hj37 hcv
      generalize rootN p n j = x at *
      go_wp2_with fail
      go_ret
      exact ⟨by rw [← HCv.out, IntKind.wrap_u32']; rfl, HB.out⟩
end Go.Proofs.YtmbpjbghhimedaaGreatDoor
