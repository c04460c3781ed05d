/- Contract over this translation: the document's times on wide numbers. -/
import Derived.Test.YtmbpjbghhimedaaGreatDoorSlRfBits
namespace Go.Proofs.YtmbpjbghhimedaaGreatDoor
open Go.RowKit
set_option linter.unusedVariables false
set_option linter.unusedSimpArgs false
/-- numbers of 64 bits as cells -/
abbrev V64 (xs : List Nat) : List Value := xs.map fun x : Nat => .int .u64 (x : Int)
def mul1 (a : List Nat) (b : Nat) (i : Nat) (out : List Nat) (k : Nat) : List Nat :=
  if i + k < 12 then out.set (i + k) ((out.getD (i + k) 0 + a.getD i 0 * (b / 2 ^ (16 * k) % 65536) % big) % big) else out
def mulK (a : List Nat) (b i : Nat) (out : List Nat) : Nat → List Nat
  | 0 => out
  | k + 1 => mul1 a b i (mulK a b i out k) k
def mulN (a : List Nat) (b : Nat) : Nat → List Nat
  | 0 => List.replicate 12 0
  | i + 1 => mulK a b i (mulN a b i) 3
def carry1 (out : List Nat) (i : Nat) : List Nat :=
  (out.set (i + 1) ((out.getD (i + 1) 0 + out.getD i 0 / 65536) % big)).set i (out.getD i 0 % 65536)
def carryN (out : List Nat) : Nat → List Nat
  | 0 => out
  | i + 1 => carry1 (carryN out i) i
def timesP (a : List Nat) (b : Nat) : List Nat := carryN (mulN a b 12) 11
/-- twelve numbers of 64 bits -/
def W12 (a : List Nat) : Prop := a.length = 12 ∧ ∀ i, a.getD i 0 < big
theorem W12.set {a : List Nat} (h : W12 a) (k x : Nat) (hx : x < big) : W12 (a.set k x) := by
  refine ⟨by rw [List.length_set]; exact h.1, fun i => ?_⟩
  rw [List.getD_eq_getElem?_getD, List.getElem?_set]
  split
  · split
    · exact hx
    · exact (by decide : 0 < big)
  · have := h.2 i
    rw [List.getD_eq_getElem?_getD] at this
    exact this
theorem W12.zero : W12 (List.replicate 12 0) := ⟨rfl, fun i => by
  rw [List.getD_eq_getElem?_getD, List.getElem?_replicate]
  split <;> decide⟩
theorem mul1_w {a out : List Nat} {b i k : Nat} (h : W12 out) : W12 (mul1 a b i out k) := by
  unfold mul1
  split
  · exact h.set _ _ (Nat.mod_lt _ (by decide))
  · exact h
theorem mulK_w {a out : List Nat} {b i : Nat} (h : W12 out) : ∀ k, W12 (mulK a b i out k)
  | 0 => h
  | k + 1 => mul1_w (mulK_w h k)
theorem mulN_w (a : List Nat) (b : Nat) : ∀ n, W12 (mulN a b n)
  | 0 => W12.zero
  | n + 1 => mulK_w (mulN_w a b n) 3
theorem carry1_w {out : List Nat} (h : W12 out) (i : Nat) : W12 (carry1 out i) :=
  (h.set _ _ (Nat.mod_lt _ (by decide))).set _ _ (Nat.lt_trans (Nat.mod_lt _ (by decide)) (by decide))
theorem carryN_w {out : List Nat} (h : W12 out) : ∀ n, W12 (carryN out n)
  | 0 => h
  | n + 1 => carry1_w (carryN_w h n) n
theorem times_w (a : List Nat) (b : Nat) : W12 (timesP a b) := carryN_w (mulN_w a b 12) 11
theorem v64_set (ws : List Nat) (k x : Nat) : ((V64 ws).toArray).setIfInBounds k (.int .u64 (x : Int)) = (V64 (ws.set k x)).toArray := by
  simp [V64, List.map_set]
theorem v64_get {ws : List Nat} {k : Nat} (h : k < ws.length) : (V64 ws).toArray[k]? = some (.int .u64 (ws.getD k 0 : Nat)) := by
  simp [V64, List.getD_eq_getElem?_getD, h]
/-- the boxes of times -/
structure TmW (w : World) (a ws : List Nat) (wr : World) : Prop where
  below : Below w.heap.size w wr
  b0 : wr.heap[w.heap.size]? = some (.cells (V64 a).toArray 134 (0, 0))
  b1 : wr.heap[w.heap.size + 1]? = some (.cells (V64 (List.replicate 12 0)).toArray 134 (0, 0))
  b2 : wr.heap[w.heap.size + 1 + 1]? = some (.cells (V64 ws).toArray 134 (0, 0))
theorem TmW.drew {w : World} {a ws : List Nat} {wr : World} (h : TmW w a ws wr) : TmW w a ws wr.drew := ⟨h.below.drew, h.b0, h.b1, h.b2⟩
theorem TmW.put {w : World} {a ws : List Nat} {wr : World} (h : TmW w a ws wr) (k x : Nat) : TmW w a (ws.set k x) (wr.setCell ⟨w.heap.size + 1 + 1, k, none⟩ (.int .u64 (x : Int))) := by
  refine ⟨h.below.setCell (p := ⟨w.heap.size + 1 + 1, k, none⟩) (by show _ ≤ w.heap.size + 1 + 1; omega) _, ?_, ?_, ?_⟩
  · rw [heap_setCell_other _ _ _ _ (by show w.heap.size ≠ w.heap.size + 1 + 1; omega)]; exact h.b0
  · rw [heap_setCell_other _ _ _ _ (by show w.heap.size + 1 ≠ w.heap.size + 1 + 1; omega)]; exact h.b1
  · rw [heap_setCell_same _ _ _ _ _ _ h.b2, v64_set]
theorem TmW.word {w : World} {a ws : List Nat} {wr : World} (h : TmW w a ws wr) (k : Nat) (hk : k < ws.length) : wr.cell? ⟨w.heap.size + 1 + 1, k, none⟩ = some (.int .u64 (ws.getD k 0 : Nat)) := cell_at h.b2 (v64_get hk)
theorem TmW.arg {w : World} {a ws : List Nat} {wr : World} (h : TmW w a ws wr) (k : Nat) (hk : k < a.length) : wr.cell? ⟨w.heap.size, k, none⟩ = some (.int .u64 (a.getD k 0 : Nat)) := cell_at h.b0 (v64_get hk)
theorem TmW.begin (w : World) (a : List Nat) : TmW w a (List.replicate 12 0) (((w.alloc (.cells (V64 a).toArray 134)).alloc (.cells (V64 (List.replicate 12 0)).toArray 134)).alloc (.cells (V64 (List.replicate 12 0)).toArray 134)) := by
  have n1 : (w.alloc (.cells (V64 a).toArray 134)).heap.size = w.heap.size + 1 := by simp
  have n2 : ((w.alloc (.cells (V64 a).toArray 134)).alloc (.cells (V64 (List.replicate 12 0)).toArray 134)).heap.size = w.heap.size + 1 + 1 := by simp
  refine ⟨(((Below.refl _ w).alloc (Nat.le_refl _) _).alloc (by omega) _).alloc (by omega) _, ?_, ?_, ?_⟩
  · rw [heap_alloc_old _ _ (by omega), heap_alloc_old _ _ (by omega)]
    exact heap_alloc_new w _
  · rw [heap_alloc_old _ _ (by omega), ← n1]
    exact heap_alloc_new _ _
  · rw [← n2]
    exact heap_alloc_new _ _
theorem low16 (x : Nat) (hx : x < big) : bits .and .u64 (x : Int) 65535 = ((x % 65536 : Nat) : Int) := by
  have := u64_and_nat x 65535 hx (by decide)
  rw [show ((65535 : Nat) : Int) = 65535 from rfl] at this
  rw [this]
  congr 1
  exact Nat.and_two_pow_sub_one_eq_mod x 16
set_option maxRecDepth 100000 in
set_option maxHeartbeats 8000000 in
theorem times_any (a : List Nat) (b : Nat) (w : World) (ha : W12 a) (hb : b < big) :
    Calls Tryz.prog 118 #[.agg (V64 a).toArray, .int .u64 b] w fun e w' => e = .returned (.agg (V64 (timesP a b)).toArray) ∧ Below w.heap.size w w' := by
  have HI : Hid (TmW w a (mulN a b 0) (((w.alloc (.cells (V64 a).toArray 134)).alloc (.cells (V64 (List.replicate 12 0)).toArray 134)).alloc (.cells (V64 (List.replicate 12 0)).toArray 134))) := TmW.begin w a
  have HAl : Hid (a.length = 12) := ha.1
  go_enter Tryz.func118, Tryz.ntmps118
  go_wp2_with fail
  go_loopw [9] (fun i wr => ∃ n : Nat, n ≤ 12 ∧ i = .int .i64 n ∧ TmW w a (mulN a b n) wr) (fun i _ => 12 - (intOf i).toNat)
  case atStart => exact ⟨0, Nat.zero_le _, rfl, HI.out⟩
  case round =>
    obtain ⟨n, hn, rfl, hT⟩ := hrel
    have HT : Hid (TmW w a (mulN a b n) wr) := hT
    clear hT
    by_cases hlt : n < 12
    · have hnI : (n : Int) < 12 := by omega
      go_wp2_with fail
      obtain ⟨wA, hwA⟩ : ∃ wA, wA = wr := ⟨_, rfl⟩
      subst hwA
      go_loopw [12] (fun i wr => ∃ k : Nat, k ≤ 3 ∧ i = .int .i64 k ∧ TmW w a (mulK a b n (mulN a b n) k) wr) (fun i _ => 3 - (intOf i).toNat)
      case atStart => exact ⟨0, Nat.zero_le _, rfl, HT.out⟩
      case round =>
        obtain ⟨k, hk, rfl, hT2⟩ := hrel
        have HT2 : Hid (TmW w a (mulK a b n (mulN a b n) k) wr) := hT2
        by_cases hlt2 : k < 3
        · have hkI : (k : Int) < 3 := by omega
          obtain ⟨j, hj⟩ : ∃ j, j = n + k := ⟨_, rfl⟩
          have hjw : IntKind.i64.wrap ((n : Int) + k) = (j : Int) := by rw [IntKind.wrap_i64]; omega
          by_cases hin : j < 12
          · have hjI : (j : Int) < 12 := by omega
            obtain ⟨s, hs⟩ : ∃ s, s = 16 * k := ⟨_, rfl⟩
            have hsw : IntKind.i64.wrap (16 * (k : Int)) = (s : Int) := by rw [IntKind.wrap_i64]; omega
            have cj := hT2.word j (by rw [(mulK_w (mulN_w a b n) k).1]; exact hin)
            have cn := hT2.arg n (by rw [ha.1]; exact hlt)
            have fj : wr.frozen? ⟨w.heap.size + 1 + 1, j, none⟩ = false := Lib.frozen_of_heap hT2.b2 j
            have hlow := low16 (b / 2 ^ s) (Nat.lt_of_le_of_lt (Nat.div_le_self _ _) hb)
            have hN : mulK a b n (mulN a b n) (k + 1) = (mulK a b n (mulN a b n) k).set j (((mulK a b n (mulN a b n) k).getD j 0 + a.getD n 0 * (b / 2 ^ s % 65536) % big) % big) := by
              show mul1 a b n (mulK a b n (mulN a b n) k) k = _
              unfold mul1
              rw [if_pos (by omega), ← hj, ← hs]
            have HN : Hid (∀ x, x = ((mulK a b n (mulN a b n) k).getD j 0 + a.getD n 0 * (b / 2 ^ s % 65536) % big) % big → TmW w a (mulK a b n (mulN a b n) (k + 1)) (wr.drew.setCell ⟨w.heap.size + 1 + 1, j, none⟩ (.int .u64 (x : Nat)))) := fun x hx => by
              rw [hN, ← hx]
              exact hT2.drew.put j x
            obtain ⟨q, hq⟩ : ∃ q, q = b / 2 ^ s := ⟨_, rfl⟩
            have hbs : ((b : Int) / 2 ^ s) = (q : Int) := by rw [hq, Int.natCast_ediv, Int.natCast_pow]; rfl
            have hbs2 : ((b : Int) / 2 ^ (min s 64)) = (q : Int) := by rw [show min s 64 = s by omega]; exact hbs
            rw [← hq] at hlow HN
            have hs64 : s < 64 := by omega
            clear hT2 hN hj hs hq
            generalize (mulK a b n (mulN a b n) k).getD j 0 = y at *
            generalize a.getD n 0 = z at *
            generalize q % 65536 = lo at *
            obtain ⟨pm, hpm⟩ : ∃ p, p = z * lo % big := ⟨_, rfl⟩
            obtain ⟨x, hx⟩ : ∃ x, x = (y + pm) % big := ⟨_, rfl⟩
            have hm1 : IntKind.u64.wrap ((z : Int) * lo) = (pm : Int) := by rw [IntKind.wrap_u64, hpm]; show _ = ((z * lo % 18446744073709551616 : Nat) : Int); rw [Int.natCast_emod, Int.natCast_mul]; rfl
            have hm2 : IntKind.u64.wrap ((y : Int) + pm) = (x : Int) := by rw [IntKind.wrap_u64, hx]; simp only [big]; omega
            have HN2 : Hid (TmW w a (mulK a b n (mulN a b n) (k + 1)) (wr.drew.setCell ⟨w.heap.size + 1 + 1, j, none⟩ (.int .u64 (x : Nat)))) := HN.out x (by rw [hx, hpm])
            clear hpm hx
            go_wp2_with fail
            refine wp_region_still_tail 16 (by kernel_rfl) (by kernel_rfl) ?_
            simp only [List.take_succ_cons, List.take_zero, List.drop_succ_cons, List.drop_zero]
            repeat still_step
            refine wpStill_nil ?_
            go_wp2_with fail
            go_roundw
            case rel => exact ⟨k + 1, by omega, by go_num, HN2.out⟩
            case measure => simp [intOf]; omega
          · have hjN : ¬ ((j : Int) < 12) := by omega
            have HS : Hid (TmW w a (mulK a b n (mulN a b n) (k + 1)) wr) := by
              show TmW w a (mul1 a b n (mulK a b n (mulN a b n) k) k) wr
              unfold mul1
              rw [if_neg (by omega)]
              exact hT2
            clear hT2 hj
            go_wp2_with fail
            go_roundw
            case rel => exact ⟨k + 1, by omega, by go_num, HS.out⟩
            case measure => simp [intOf]; omega
        · have hke : k = 3 := by omega
          have HS : Hid (TmW w a (mulN a b (n + 1)) wr) := by
            have h := HT2.out
            rw [hke] at h
            exact h
          have hnk : ¬ ((k : Int) < 3) := by omega
          clear hT2 HT2 hke
          go_wp2_with fail
          go_roundw
          case rel => exact ⟨n + 1, by omega, by go_num, HS.out⟩
          case measure => simp [intOf]; omega
    · have hne : n = 12 := by omega
      have HS : Hid (TmW w a (carryN (mulN a b 12) 0) wr) := by
        have h := HT.out
        rw [hne] at h
        exact h
      have hnN : ¬ ((n : Int) < 12) := by omega
      clear HT HI hne
      go_wp2_with fail
      obtain ⟨wA, hwA⟩ : ∃ wA, wA = wr := ⟨_, rfl⟩
      subst hwA
      go_loopw [37] (fun i wr => ∃ k : Nat, k ≤ 11 ∧ i = .int .i64 k ∧ TmW w a (carryN (mulN a b 12) k) wr) (fun i _ => 11 - (intOf i).toNat)
      case atStart => exact ⟨0, Nat.zero_le _, rfl, HS.out⟩
      case round =>
        obtain ⟨k, hk, rfl, hT⟩ := hrel
        have HT : Hid (TmW w a (carryN (mulN a b 12) k) wr) := hT
        by_cases hlt : k < 11
        · have hkI : (k : Int) < 12 := by omega
          have hkI2 : (k : Int) < 11 := by omega
          obtain ⟨j, hj⟩ : ∃ j, j = k + 1 := ⟨_, rfl⟩
          have hjw : IntKind.i64.wrap ((k : Int) + 1) = (j : Int) := by rw [IntKind.wrap_i64]; omega
          have hjI : (j : Int) < 12 := by omega
          have hW := carryN_w (mulN_w a b 12) k
          have cj := hT.word j (by rw [hW.1]; omega)
          have ck := hT.word k (by rw [hW.1]; omega)
          have fj : wr.frozen? ⟨w.heap.size + 1 + 1, j, none⟩ = false := Lib.frozen_of_heap hT.b2 j
          have fk : wr.frozen? ⟨w.heap.size + 1 + 1, k, none⟩ = false := Lib.frozen_of_heap hT.b2 k
          obtain ⟨x, hx⟩ : ∃ x, x = ((carryN (mulN a b 12) k).getD j 0 + (carryN (mulN a b 12) k).getD k 0 / 65536) % big := ⟨_, rfl⟩
          obtain ⟨y, hy⟩ : ∃ y, y = (carryN (mulN a b 12) k).getD k 0 := ⟨_, rfl⟩
          have hyb : y < big := by rw [hy]; exact hW.2 k
          have hlow := low16 y hyb
          have HN : Hid (TmW w a (carryN (mulN a b 12) (k + 1)) ((wr.drew.setCell ⟨w.heap.size + 1 + 1, j, none⟩ (.int .u64 (x : Nat))).setCell ⟨w.heap.size + 1 + 1, k, none⟩ (.int .u64 ((y % 65536 : Nat) : Int)))) := by
            have h := (hT.drew.put j x).put k (y % 65536)
            have e : ((carryN (mulN a b 12) k).set j x).set k (y % 65536) = carryN (mulN a b 12) (k + 1) := by
              show _ = carry1 _ k
              unfold carry1
              rw [hx, hy, hj]
            rw [e] at h
            exact h
          have ck2 : (wr.setCell ⟨w.heap.size + 1 + 1, j, none⟩ (.int .u64 (x : Nat))).cell? ⟨w.heap.size + 1 + 1, k, none⟩ = some (.int .u64 (y : Nat)) := by
            rw [cell_at (heap_setCell_same _ _ _ _ _ _ hT.b2) (v := .int .u64 (y : Nat))]
            rw [Array.getElem?_setIfInBounds, if_neg (by omega), v64_get (by rw [hW.1]; omega), hy]
          have fk2 : (wr.setCell ⟨w.heap.size + 1 + 1, j, none⟩ (.int .u64 (x : Nat))).frozen? ⟨w.heap.size + 1 + 1, k, none⟩ = false := Lib.frozen_of_heap (heap_setCell_same _ _ _ _ _ _ hT.b2) k
          have hjk1 : ¬ j = k := by omega
          have hjk2 : ¬ k = j := by omega
          have hqs : ((y : Int) / 65536) = ((y / 65536 : Nat) : Int) := by omega
          rw [← hy] at ck hx
          obtain ⟨q, hq⟩ : ∃ q, q = y / 65536 := ⟨_, rfl⟩
          have hq1 : ((y : Int) / 65536) = (q : Int) := by omega
          generalize (carryN (mulN a b 12) k).getD j 0 = z at *
          have hzx : IntKind.u64.wrap ((z : Int) + q) = (x : Int) := by rw [IntKind.wrap_u64, hx]; simp only [big]; omega
          have hzx2 : ((z : Int) + q) % 18446744073709551616 = (x : Int) := by rw [hx]; simp only [big]; omega
          generalize y % 65536 = lo at *
          have HN3 : Hid (TmW w a (carryN (mulN a b 12) j) ((wr.drew.setCell ⟨w.heap.size + 1 + 1, j, none⟩ (.int .u64 (x : Nat))).setCell ⟨w.heap.size + 1 + 1, k, none⟩ (.int .u64 (lo : Nat)))) := by
            have h := HN.out
            rw [← hj] at h
            exact h
          have HJ : Hid (j = k + 1) := hj
          clear hT hW hx hy hj hqs hq HN
          go_wp2_with fail
          refine wp_region_still_tail 10 (by kernel_rfl) (by kernel_rfl) ?_
          simp only [List.take_succ_cons, List.take_zero, List.drop_succ_cons, List.drop_zero]
          repeat still_step
          refine wpStill_nil ?_
          go_wp2_with fail
          go_roundw
          case rel => exact ⟨j, by have := HJ.out; omega, rfl, HN3.out⟩
          case measure => have := HJ.out; simp [intOf]; omega
        · have hke : k = 11 := by omega
          subst hke
          obtain ⟨res, hres⟩ : ∃ r, r = (V64 (timesP a b)).toArray := ⟨_, rfl⟩
          have hb2 : Hid (wr.heap[w.heap.size + 1 + 1]? = some (.cells res 134 (0, 0))) := by rw [hres]; exact hT.b2
          have hb1 : Hid (wr.heap[w.heap.size + 1]? = some (.cells (V64 (List.replicate 12 0)).toArray 134 (0, 0))) := hT.b1
          have hll : res.size = 12 := by
            rw [hres, List.size_toArray, List.length_map]
            exact (times_w a b).1
          have hsz : Hid ((Tryz.prog.info? 134).map (·.size) = some res.size) := by
            rw [hll]
            show _ = _
            kernel_rfl
          have hol : Hid ((V64 (List.replicate 12 0)).toArray.size = res.size) := by
            rw [hll]
            show _ = _
            rfl
          have hone : Hid (res.all (·.oneCell') = true) := by
            show _ = _
            rw [hres]
            simp [V64, Value.oneCell']
          have HBl : Hid (Below w.heap.size w (wr.setRow (w.heap.size + 1) res)) := below_setRow hT.below (by omega) _
          have HBn : Hid ((wr.setRow (w.heap.size + 1) res).heap[w.heap.size + 1]? = some (.cells res 134 (0, 0))) := setRow_heap _ _ _ _ _ _ hT.b1
          have HRes : Hid (res = (V64 (timesP a b)).toArray) := hres
          clear hT HT hll HS hres
          go_wp2_with (first | refine wpList_load_row rfl 134 _ rfl _ rfl 134 _ _ _ hb2.out Tryz.underlying134 rfl hsz.out ?_ | refine wpList_store_row rfl 134 _ _ rfl _ _ rfl rfl _ _ hb1.out hsz.out hol.out hone.out ?_)
          refine bodyPost_ret (v := .agg res) ?_ rfl ⟨by rw [HRes.out], HBl.out⟩
          exact results_cell_row rfl _ _ _ _ _ _ _ rfl HBn.out Tryz.underlying134 rfl hsz.out
end Go.Proofs.YtmbpjbghhimedaaGreatDoor
