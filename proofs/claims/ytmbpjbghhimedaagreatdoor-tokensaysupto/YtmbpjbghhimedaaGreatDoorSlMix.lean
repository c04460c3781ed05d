/- Contract over this translation: what seal.mix answers. -/
import Derived.Test.YtmbpjbghhimedaaGreatDoorSlSpread
import Derived.StillTactics
namespace Go.Proofs.YtmbpjbghhimedaaGreatDoor
open Go.RowKit
set_option linter.unusedVariables false
set_option linter.unusedSimpArgs false
/-- of the cube roots of the first 64 primes -/
def kTab : List Nat := [1116352408, 1899447441, 3049323471, 3921009573, 961987163, 1508970993, 2453635748, 2870763221, 3624381080, 310598401, 607225278, 1426881987, 1925078388, 2162078206, 2614888103, 3248222580, 3835390401, 4022224774, 264347078, 604807628, 770255983, 1249150122, 1555081692, 1996064986, 2554220882, 2821834349, 2952996808, 3210313671, 3336571891, 3584528711, 113926993, 338241895, 666307205, 773529912, 1294757372, 1396182291, 1695183700, 1986661051, 2177026350, 2456956037, 2730485921, 2820302411, 3259730800, 3345764771, 3516065817, 3600352804, 4094571909, 275423344, 430227734, 506948616, 659060556, 883997877, 958139571, 1322822218, 1537002063, 1747873779, 1955562222, 2024104815, 2227730452, 2361852424, 2428436474, 2756734187, 3204031479, 3329325298]
/-- the table lies as the program's text lays it -/
def Cub (w : World) : Prop := 6 < w.heap.size ∧ ∀ i, i < 64 → w.cell? ⟨6, i, none⟩ = some (.int .u32 (kTab.getD i 0 : Nat))
theorem Cub.below {w w' : World} (h : Cub w) (hb : Below w.heap.size w w') : Cub w' :=
  ⟨by have := hb.size; have := h.1; omega, fun i hi => by rw [hb.cell (p := ⟨6, i, none⟩) h.1]; exact h.2 i hi⟩
theorem kTab_lt : ∀ i, kTab.getD i 0 < lim := by
  intro i
  by_cases h : i < 64
  · have : ∀ k : Fin 64, kTab.getD k.val 0 < lim := by decide +kernel
    exact this ⟨i, h⟩
  · have h64 : kTab.length = 64 := by decide +kernel
    rw [List.getD_eq_getElem?_getD, List.getElem?_eq_none (by omega)]
    exact (by decide : 0 < lim)
/-- a round -/
def rndP (v : List Nat) (k x : Nat) : List Nat := match v with
  | [a, b, c, d, e, f, g, h] => [((h + g1P e + chP e f g + k + x) % lim + (g0P a + mjP a b c) % lim) % lim, a, b, c, (d + (h + g1P e + chP e f g + k + x) % lim) % lim, e, f, g]
  | v => v
def runP (ws v : List Nat) : Nat → List Nat
  | 0 => v
  | n + 1 => rndP (runP ws v n) (kTab.getD n 0) (ws.getD n 0)
def mixP (v : List Nat) (b : Bs) : List Nat := List.zipWith (fun x y => (x + y) % lim) v (runP (spreadP b) v 64)
/-- eight numbers of 32 bits -/
def St8 (v : List Nat) : Prop := v.length = 8 ∧ ∀ x ∈ v, x < lim
theorem St8.parts {v : List Nat} (h : St8 v) : ∃ a b c d e f g i, v = [a, b, c, d, e, f, g, i] ∧ a < lim ∧ b < lim ∧ c < lim ∧ d < lim ∧ e < lim ∧ f < lim ∧ g < lim ∧ i < lim := by
  obtain ⟨hl, hx⟩ := h
  match v, hl, hx with
  | [a, b, c, d, e, f, g, i], _, hx => exact ⟨a, b, c, d, e, f, g, i, rfl, hx a (by simp), hx b (by simp), hx c (by simp), hx d (by simp), hx e (by simp), hx f (by simp), hx g (by simp), hx i (by simp)⟩
theorem rnd_st {v : List Nat} (h : St8 v) (k x : Nat) : St8 (rndP v k x) := by
  obtain ⟨a, b, c, d, e, f, g, i, rfl, ha, hb, hc, hd, he, hf, hg, hi⟩ := h.parts
  refine ⟨rfl, fun y hy => ?_⟩
  simp only [rndP, List.mem_cons, List.not_mem_nil, or_false] at hy
  have hL : 0 < lim := by decide
  rcases hy with rfl | rfl | rfl | rfl | rfl | rfl | rfl | rfl
  · exact Nat.mod_lt _ hL
  · exact ha
  · exact hb
  · exact hc
  · exact Nat.mod_lt _ hL
  · exact he
  · exact hf
  · exact hg
theorem run_st {v : List Nat} (h : St8 v) (ws : List Nat) : ∀ n, St8 (runP ws v n)
  | 0 => h
  | n + 1 => rnd_st (run_st h ws n) _ _
theorem zip_lt (l m : List Nat) : ∀ x ∈ List.zipWith (fun x y => (x + y) % lim) l m, x < lim := by
  intro x hx
  obtain ⟨i, hi, rfl⟩ := List.mem_iff_getElem.1 hx
  rw [List.getElem_zipWith]
  exact Nat.mod_lt _ (by decide)
theorem mix_st {v : List Nat} (h : St8 v) (b : Bs) : St8 (mixP v b) := by
  have h2 := run_st h (spreadP b) 64
  refine ⟨by unfold mixP; rw [List.length_zipWith, h.1, h2.1]; rfl, zip_lt _ _⟩
theorem idx_words (ws : List Nat) (i : Nat) (hl : ws.length = 64) (hi : i < 64) (w : World) : (Instr.index 88 (.agg (Vw ws).toArray) (.int .i64 (i : Int))).run Tryz.prog w = .ok (.int .u32 (ws.getD i 0 : Nat)) w := by
  have hg := vw_get (ws := ws) (k := i) (by omega)
  unfold Instr.index
  simp only [asIntOf, Sem.run_bind, Sem.run_pure, Result.andThen, run_underlying Tryz.underlying88]
  rw [if_pos (by omega)]
  rw [show ((i : Int).toNat) = i from rfl]
  generalize (Vw ws).toArray = cs at *
  simp only [Tryz.sizeOf85, Tryz.isAgg85, part, Sem.run_bind, Result.andThen, Nat.mul_one, hg, Sem.run_pure, Bool.false_eq_true, if_false]
/-- the boxes of mix: the state, the block, what is answered -/
structure MxW (w : World) (v : List Nat) (wr : World) : Prop where
  below : Below w.heap.size w wr
  cub : Cub wr
  b0 : wr.heap[w.heap.size]? = some (.cells (Vw v).toArray 127 (0, 0))
  b2 : wr.heap[w.heap.size + 1 + 1]? = some (.cells (Vw (List.replicate 8 0)).toArray 127 (0, 0))
theorem MxW.drew {w : World} {v : List Nat} {wr : World} (h : MxW w v wr) : MxW w v wr.drew := ⟨h.below.drew, h.cub, h.b0, h.b2⟩
theorem MxW.step {w : World} {v : List Nat} {wr w2 : World} (h : MxW w v wr) (hs : w.heap.size + 1 + 1 < wr.heap.size) (hb : Below wr.heap.size wr w2) : MxW w v w2 :=
  ⟨h.below.trans (hb.mono h.below.size), h.cub.below hb, by rw [hb.block _ (by omega)]; exact h.b0, by rw [hb.block _ (by omega)]; exact h.b2⟩
theorem MxW.begin {w : World} (v : List Nat) (A : Array Value) (hc : Cub w) : MxW w v (((w.alloc (.cells (Vw v).toArray 127)).alloc (.cells A 78)).alloc (.cells (Vw (List.replicate 8 0)).toArray 127)) := by
  have n1 : (w.alloc (.cells (Vw v).toArray 127)).heap.size = w.heap.size + 1 := by simp
  have n2 : ((w.alloc (.cells (Vw v).toArray 127)).alloc (.cells A 78)).heap.size = w.heap.size + 1 + 1 := by simp
  have hB : Below w.heap.size w (((w.alloc (.cells (Vw v).toArray 127)).alloc (.cells A 78)).alloc (.cells (Vw (List.replicate 8 0)).toArray 127)) := (((Below.refl _ w).alloc (Nat.le_refl _) _).alloc (by omega) _).alloc (by omega) _
  refine ⟨hB, hc.below hB, ?_, ?_⟩
  · rw [heap_alloc_old _ _ (by omega), heap_alloc_old _ _ (by omega)]
    exact heap_alloc_new w _
  · rw [← n2]
    exact heap_alloc_new _ _
theorem vw8 {a b c d e f g i : Nat} {w : World} {h : Nat} (hb : w.heap[h]? = some (.cells (Vw [a, b, c, d, e, f, g, i]).toArray 127 (0, 0))) :
    w.cell? ⟨h, 0, none⟩ = some (.int .u32 a) ∧ w.cell? ⟨h, 1, none⟩ = some (.int .u32 b) ∧ w.cell? ⟨h, 2, none⟩ = some (.int .u32 c) ∧ w.cell? ⟨h, 3, none⟩ = some (.int .u32 d) ∧ w.cell? ⟨h, 4, none⟩ = some (.int .u32 e) ∧ w.cell? ⟨h, 5, none⟩ = some (.int .u32 f) ∧ w.cell? ⟨h, 6, none⟩ = some (.int .u32 g) ∧ w.cell? ⟨h, 7, none⟩ = some (.int .u32 i) :=
  ⟨cell_at hb rfl, cell_at hb rfl, cell_at hb rfl, cell_at hb rfl, cell_at hb rfl, cell_at hb rfl, cell_at hb rfl, cell_at hb rfl⟩
theorem store8 {w : World} {g : Nat} {t : TypeId} {o0 o1 o2 o3 o4 o5 o6 o7 : Value} (v0 v1 v2 v3 v4 v5 v6 v7 : Value) (h : w.heap[g]? = some (.cells #[o0, o1, o2, o3, o4, o5, o6, o7] t (0, 0))) :
    ((((((((w.setCell ⟨g, 0, none⟩ v0).setCell ⟨g, 1, none⟩ v1).setCell ⟨g, 2, none⟩ v2).setCell ⟨g, 3, none⟩ v3).setCell ⟨g, 4, none⟩ v4).setCell ⟨g, 5, none⟩ v5).setCell ⟨g, 6, none⟩ v6).setCell ⟨g, 7, none⟩ v7).heap[g]? = some (.cells #[v0, v1, v2, v3, v4, v5, v6, v7] t (0, 0)) := by
  have h0 := heap_setCell_same w g 0 _ _ v0 h
  have h1 := heap_setCell_same _ g 1 _ _ v1 h0
  have h2 := heap_setCell_same _ g 2 _ _ v2 h1
  have h3 := heap_setCell_same _ g 3 _ _ v3 h2
  have h4 := heap_setCell_same _ g 4 _ _ v4 h3
  have h5 := heap_setCell_same _ g 5 _ _ v5 h4
  have h6 := heap_setCell_same _ g 6 _ _ v6 h5
  have h7 := heap_setCell_same _ g 7 _ _ v7 h6
  rw [h7]
  simp only [List.setIfInBounds_toArray, List.set_cons_zero, List.set_cons_succ]
theorem below8 {n g : Nat} {w w1 : World} (h : Below n w w1) (hg : n ≤ g) (v0 v1 v2 v3 v4 v5 v6 v7 : Value) : Below n w ((((((((w1.setCell ⟨g, 0, none⟩ v0).setCell ⟨g, 1, none⟩ v1).setCell ⟨g, 2, none⟩ v2).setCell ⟨g, 3, none⟩ v3).setCell ⟨g, 4, none⟩ v4).setCell ⟨g, 5, none⟩ v5).setCell ⟨g, 6, none⟩ v6).setCell ⟨g, 7, none⟩ v7) := by
  have h0 := h.setCell (p := ⟨g, 0, none⟩) hg v0
  have h1 := h0.setCell (p := ⟨g, 1, none⟩) hg v1
  have h2 := h1.setCell (p := ⟨g, 2, none⟩) hg v2
  have h3 := h2.setCell (p := ⟨g, 3, none⟩) hg v3
  have h4 := h3.setCell (p := ⟨g, 4, none⟩) hg v4
  have h5 := h4.setCell (p := ⟨g, 5, none⟩) hg v5
  have h6 := h5.setCell (p := ⟨g, 6, none⟩) hg v6
  have h7 := h6.setCell (p := ⟨g, 7, none⟩) hg v7
  exact h7
theorem add_int (x y : Nat) : IntKind.u32.wrap ((x : Int) + y) = (((x + y) % lim : Nat) : Int) := by
  rw [IntKind.wrap_u32']
  show _ = (((x + y) % 4294967296 : Nat) : Int)
  omega
set_option maxRecDepth 100000 in
set_option maxHeartbeats 8000000 in
theorem mix_any (v : List Nat) (b : Bs) (w : World) (hv : St8 v) (hb : b.length = 64) (hc : Cub w) :
    Calls Tryz.prog 115 #[.agg (Vw v).toArray, .agg (Lib.byteCells b).toArray] w fun e w' => e = .returned (.agg (Vw (mixP v b)).toArray) ∧ Below w.heap.size w w' := by
  obtain ⟨a0, b0, c0, d0, e0, f0, g0, i0, hv8, la0, lb0, lc0, ld0, le0, lf0, lg0, li0⟩ := hv.parts
  have HM : Hid (MxW w v (((w.alloc (.cells (Vw v).toArray 127)).alloc (.cells (Lib.byteCells b).toArray 78)).alloc (.cells (Vw (List.replicate 8 0)).toArray 127))) := MxW.begin v _ hc
  have HSz : Hid (w.heap.size + 1 + 1 < (((w.alloc (.cells (Vw v).toArray 127)).alloc (.cells (Lib.byteCells b).toArray 78)).alloc (.cells (Vw (List.replicate 8 0)).toArray 127)).heap.size) := by
    show _ < _
    simp
  have HB1 : Hid ((((w.alloc (.cells (Vw v).toArray 127)).alloc (.cells (Lib.byteCells b).toArray 78)).alloc (.cells (Vw (List.replicate 8 0)).toArray 127)).heap[w.heap.size + 1]? = some (.cells (Lib.byteCells b).toArray 78 (0, 0))) := by
    have n1 : (w.alloc (.cells (Vw v).toArray 127)).heap.size = w.heap.size + 1 := by simp
    show _ = _
    rw [heap_alloc_old _ _ (by simp), ← n1]
    exact heap_alloc_new _ _
  have HSp : Hid (∀ w, Calls Tryz.prog 127 #[.agg (Lib.byteCells b).toArray] w fun e w' => e = .returned (.agg (Vw (spreadP b)).toArray) ∧ Below w.heap.size w w') := fun w => spread_any b w hb
  have hsz : Hid ((Tryz.prog.info? 78).map (·.size) = some (Lib.byteCells b).toArray.size) := by
    show _ = _
    rw [List.size_toArray, Lib.byteCells_length, hb]
    kernel_rfl
  have HIx : Hid (∀ i < 64, ∀ w, (Instr.index 88 (.agg (Vw (spreadP b)).toArray) (.int .i64 (i : Nat))).run Tryz.prog w = .ok (.int .u32 ((spreadP b).getD i 0 : Nat)) w) := fun i hi w => idx_words _ i (more_lt b 48).1 hi w
  have HWl : Hid (∀ i, (spreadP b).getD i 0 < lim) := (more_lt b 48).2
  have HRun : Hid (∀ n, St8 (runP (spreadP b) v n)) := run_st hv _
  have HEnd : Hid (mixP v b = List.zipWith (fun x y => (x + y) % lim) v (runP (spreadP b) v 64)) := rfl
  have HStep : Hid (∀ n, runP (spreadP b) v (n + 1) = rndP (runP (spreadP b) v n) (kTab.getD n 0) ((spreadP b).getD n 0)) := fun n => rfl
  have HR0 : Hid (runP (spreadP b) v 0 = v) := rfl
  generalize mixP v b = res at *
  generalize spreadP b = ws at *
  generalize hA : (Vw ws).toArray = wsA at *
  generalize hBc : (Lib.byteCells b).toArray = bA at *
  clear hA hBc hb hc hv
  subst hv8
  have HCl := vw8 HM.out.b0
  obtain ⟨k0, k1, k2, k3, k4, k5, k6, k7⟩ := HCl
  go_enter Tryz.func115, Tryz.ntmps115
  go_wp2_with fail
  obtain ⟨w3, hw3⟩ : ∃ w3, w3 = (((w.alloc (.cells #[.int .u32 a0, .int .u32 b0, .int .u32 c0, .int .u32 d0, .int .u32 e0, .int .u32 f0, .int .u32 g0, .int .u32 i0] 127)).alloc (.cells bA 78)).alloc (.cells #[.int .u32 0, .int .u32 0, .int .u32 0, .int .u32 0, .int .u32 0, .int .u32 0, .int .u32 0, .int .u32 0] 127)) := ⟨_, rfl⟩
  rw [← hw3]
  have HM3 : Hid (MxW w [a0, b0, c0, d0, e0, f0, g0, i0] w3) := by rw [hw3]; exact HM.out
  have HB13 : Hid (w3.heap[w.heap.size + 1]? = some (.cells bA 78 (0, 0))) := by rw [hw3]; exact HB1.out
  have HSz3 : Hid (w.heap.size + 1 + 1 < w3.heap.size) := by rw [hw3]; exact HSz.out
  clear HM HB1 HSz hw3 k0 k1 k2 k3 k4 k5 k6 k7
  obtain ⟨k0, k1, k2, k3, k4, k5, k6, k7⟩ := vw8 HM3.out.b0
  go_quiet (fail)
  have HM4 : Hid (MxW w [a0, b0, c0, d0, e0, f0, g0, i0] (w3.drewN nq)) := HM3.out.step HSz3.out (below_drewN (Below.refl _ _) nq)
  have HB14 : Hid ((w3.drewN nq).heap[w.heap.size + 1]? = some (.cells bA 78 (0, 0))) := HB13.out
  have HSz4 : Hid (w.heap.size + 1 + 1 < (w3.drewN nq).heap.size) := HSz3.out
  clear HM3 HB13 HSz3 k0 k1 k2 k3 k4 k5 k6 k7
  generalize w3.drewN nq = w4 at *
  go_wp2_with (refine wpList_load_row rfl 78 _ rfl _ rfl 78 _ _ _ HB14.out Tryz.underlying78 rfl hsz.out ?_)
  refine Calls.mono (HSp.out _) ?_
  rintro e w5 ⟨rfl, b5⟩
  have HM5 : Hid (MxW w [a0, b0, c0, d0, e0, f0, g0, i0] w5) := HM4.out.step HSz4.out b5
  have HSz5 : Hid (w.heap.size + 1 + 1 < w5.heap.size) := by have := b5.size; have := HSz4.out; show _ < _; omega
  clear b5 HM4 HSz4 HB14
  go_wp2_with fail
  obtain ⟨wX, hwX⟩ : ∃ wX, wX = w5 := ⟨_, rfl⟩
  subst hwX
  go_loopw [5, 6, 7, 8, 9, 10, 11, 12, 35] (fun sa sb sc sd se sf sg si i wr => ∃ (n a b c d e f g h : Nat), n ≤ 64 ∧ i = .int .i64 n ∧ runP ws [a0, b0, c0, d0, e0, f0, g0, i0] n = [a, b, c, d, e, f, g, h] ∧ sa = .int .u32 a ∧ sb = .int .u32 b ∧ sc = .int .u32 c ∧ sd = .int .u32 d ∧ se = .int .u32 e ∧ sf = .int .u32 f ∧ sg = .int .u32 g ∧ si = .int .u32 h ∧ MxW w [a0, b0, c0, d0, e0, f0, g0, i0] wr ∧ w.heap.size + 1 + 1 < wr.heap.size) (fun _ _ _ _ _ _ _ _ i _ => 64 - (intOf i).toNat)
  case atStart => exact ⟨0, a0, b0, c0, d0, e0, f0, g0, i0, Nat.zero_le _, rfl, HR0.out, rfl, rfl, rfl, rfl, rfl, rfl, rfl, rfl, HM5.out, HSz5.out⟩
  case round =>
    obtain ⟨n, a, b, c, d, e, f, g, h, hn, rfl, hrun, rfl, rfl, rfl, rfl, rfl, rfl, rfl, rfl, hM, hS⟩ := hrel
    have HMr : Hid (MxW w [a0, b0, c0, d0, e0, f0, g0, i0] wr) := hM
    have HSr : Hid (w.heap.size + 1 + 1 < wr.heap.size) := hS
    obtain ⟨hrl, hrx⟩ := HRun.out n
    rw [hrun] at hrx
    have la : a < lim := hrx a (by simp)
    have lb : b < lim := hrx b (by simp)
    have lc : c < lim := hrx c (by simp)
    have ld : d < lim := hrx d (by simp)
    have le : e < lim := hrx e (by simp)
    have lf : f < lim := hrx f (by simp)
    have lg : g < lim := hrx g (by simp)
    have lh : h < lim := hrx h (by simp)
    clear hrl hrx hS
    by_cases hlt : n < 64
    · have hst := HStep.out n
      rw [hrun] at hst
      have hix := HIx.out n hlt
      have lw := HWl.out n
      have lk := kTab_lt n
      have ck := hM.cub.2 n hlt
      have hI64 : (n : Int) < 64 := by omega
      have HG1 : Hid (∀ w, Calls Tryz.prog 128 #[.int .u32 e] w fun r w' => r = .returned (.int .u32 (g1P e : Nat)) ∧ w' = w) := fun w => great1_any e w le
      have HG0 : Hid (∀ w, Calls Tryz.prog 130 #[.int .u32 a] w fun r w' => r = .returned (.int .u32 (g0P a : Nat)) ∧ w' = w) := fun w => great0_any a w la
      have HCh : Hid (∀ w, Calls Tryz.prog 129 #[.int .u32 e, .int .u32 f, .int .u32 g] w fun r w' => r = .returned (.int .u32 (chP e f g : Nat)) ∧ w' = w) := fun w => chosen_any e f g w le lf lg
      have HMj : Hid (∀ w, Calls Tryz.prog 131 #[.int .u32 a, .int .u32 b, .int .u32 c] w fun r w' => r = .returned (.int .u32 (mjP a b c : Nat)) ∧ w' = w) := fun w => most_any a b c w la lb lc
      have hrd : rndP [a, b, c, d, e, f, g, h] (kTab.getD n 0) (ws.getD n 0) = [((h + g1P e + chP e f g + kTab.getD n 0 + ws.getD n 0) % lim + (g0P a + mjP a b c) % lim) % lim, a, b, c, (d + (h + g1P e + chP e f g + kTab.getD n 0 + ws.getD n 0) % lim) % lim, e, f, g] := rfl
      rw [hrd] at hst
      clear hrd hrun hM
      generalize g1P e = x1 at *
      generalize g0P a = x2 at *
      generalize chP e f g = x3 at *
      generalize mjP a b c = x4 at *
      generalize kTab.getD n 0 = kk at *
      generalize ws.getD n 0 = ww at *
      obtain ⟨p1, hp1⟩ : ∃ p, p = (h + x1) % lim := ⟨_, rfl⟩
      obtain ⟨p2, hp2⟩ : ∃ p, p = (p1 + x3) % lim := ⟨_, rfl⟩
      obtain ⟨p3, hp3⟩ : ∃ p, p = (p2 + kk) % lim := ⟨_, rfl⟩
      obtain ⟨t1, ht1⟩ : ∃ p, p = (p3 + ww) % lim := ⟨_, rfl⟩
      obtain ⟨t2, ht2⟩ : ∃ p, p = (x2 + x4) % lim := ⟨_, rfl⟩
      obtain ⟨r1, hr1⟩ : ∃ p, p = (d + t1) % lim := ⟨_, rfl⟩
      obtain ⟨r2, hr2⟩ : ∃ p, p = (t1 + t2) % lim := ⟨_, rfl⟩
      have ht1' : (h + x1 + x3 + kk + ww) % lim = t1 := by
        simp only [lim] at *
        omega
      rw [ht1', ← ht2, ← hr1, ← hr2] at hst
      have m1 : IntKind.u32.wrap ((h : Int) + x1) = (p1 : Int) := by rw [hp1]; exact add_int _ _
      have m2 : IntKind.u32.wrap ((p1 : Int) + x3) = (p2 : Int) := by rw [hp2]; exact add_int _ _
      have m3 : IntKind.u32.wrap ((p2 : Int) + kk) = (p3 : Int) := by rw [hp3]; exact add_int _ _
      have m4 : IntKind.u32.wrap ((p3 : Int) + ww) = (t1 : Int) := by rw [ht1]; exact add_int _ _
      have m5 : IntKind.u32.wrap ((x2 : Int) + x4) = (t2 : Int) := by rw [ht2]; exact add_int _ _
      have m6 : IntKind.u32.wrap ((d : Int) + t1) = (r1 : Int) := by rw [hr1]; exact add_int _ _
      have m7 : IntKind.u32.wrap ((t1 : Int) + t2) = (r2 : Int) := by rw [hr2]; exact add_int _ _
      have HST : Hid (runP ws [a0, b0, c0, d0, e0, f0, g0, i0] (n + 1) = [r2, a, b, c, r1, e, f, g]) := hst
      clear hp1 hp2 hp3 ht1 ht2 hr1 hr2 ht1' hst la lb lc ld le lf lg lh lw lk
      go_wp2_with fail
      refine wp_region_still_lit (by kernel_rfl) (by kernel_rfl) ?_
      repeat still_step
      still_call (HG1.out _)
      repeat still_step
      still_call (HCh.out _)
      repeat still_step
      refine wpStill_nil ?_
      go_wp2_with fail
      refine Calls.mono (HG0.out _) ?_
      rintro rr w6 ⟨rfl, rfl⟩
      go_wp2_with fail
      refine Calls.mono (HMj.out _) ?_
      rintro rr w6 ⟨rfl, rfl⟩
      go_wp2_with fail
      go_roundw
      case rel => exact ⟨n + 1, r2, a, b, c, r1, e, f, g, by omega, by go_num, HST.out, rfl, rfl, rfl, rfl, rfl, rfl, rfl, rfl, HMr.out.drew, HSr.out⟩
      case measure => simp [intOf]; omega
    · have hne : n = 64 := by omega
      rw [hne] at hrun
      have hE := HEnd.out
      rw [hrun] at hE
      have hE2 : res = [(a0 + a) % lim, (b0 + b) % lim, (c0 + c) % lim, (d0 + d) % lim, (e0 + e) % lim, (f0 + f) % lim, (g0 + g) % lim, (i0 + h) % lim] := hE
      have hnl : ¬ ((n : Int) < 64) := by omega
      obtain ⟨k0, k1, k2, k3, k4, k5, k6, k7⟩ := vw8 HMr.out.b0
      have n0 : IntKind.u32.wrap ((a0 : Int) + a) = (((a0 + a) % lim : Nat) : Int) := add_int _ _
      have n1 : IntKind.u32.wrap ((b0 : Int) + b) = (((b0 + b) % lim : Nat) : Int) := add_int _ _
      have n2 : IntKind.u32.wrap ((c0 : Int) + c) = (((c0 + c) % lim : Nat) : Int) := add_int _ _
      have n3 : IntKind.u32.wrap ((d0 : Int) + d) = (((d0 + d) % lim : Nat) : Int) := add_int _ _
      have n4 : IntKind.u32.wrap ((e0 : Int) + e) = (((e0 + e) % lim : Nat) : Int) := add_int _ _
      have n5 : IntKind.u32.wrap ((f0 : Int) + f) = (((f0 + f) % lim : Nat) : Int) := add_int _ _
      have n6 : IntKind.u32.wrap ((g0 : Int) + g) = (((g0 + g) % lim : Nat) : Int) := add_int _ _
      have n7 : IntKind.u32.wrap ((i0 : Int) + h) = (((i0 + h) % lim : Nat) : Int) := add_int _ _
      clear hE hrun hne hM
      generalize (a0 + a) % lim = y0 at *
      generalize (b0 + b) % lim = y1 at *
      generalize (c0 + c) % lim = y2 at *
      generalize (d0 + d) % lim = y3 at *
      generalize (e0 + e) % lim = y4 at *
      generalize (f0 + f) % lim = y5 at *
      generalize (g0 + g) % lim = y6 at *
      generalize (i0 + h) % lim = y7 at *
      have hs8 : Hid ((Tryz.prog.info? 127).map (·.size) = some 8) := by
        show _ = _
        kernel_rfl
      have hb2 := HMr.out.b2
      have f0' : wr.frozen? ⟨w.heap.size + 1 + 1, 0, none⟩ = false := Lib.frozen_of_heap hb2 0
      have f1' : wr.frozen? ⟨w.heap.size + 1 + 1, 1, none⟩ = false := Lib.frozen_of_heap hb2 1
      have f2' : wr.frozen? ⟨w.heap.size + 1 + 1, 2, none⟩ = false := Lib.frozen_of_heap hb2 2
      have f3' : wr.frozen? ⟨w.heap.size + 1 + 1, 3, none⟩ = false := Lib.frozen_of_heap hb2 3
      have f4' : wr.frozen? ⟨w.heap.size + 1 + 1, 4, none⟩ = false := Lib.frozen_of_heap hb2 4
      have f5' : wr.frozen? ⟨w.heap.size + 1 + 1, 5, none⟩ = false := Lib.frozen_of_heap hb2 5
      have f6' : wr.frozen? ⟨w.heap.size + 1 + 1, 6, none⟩ = false := Lib.frozen_of_heap hb2 6
      have f7' : wr.frozen? ⟨w.heap.size + 1 + 1, 7, none⟩ = false := Lib.frozen_of_heap hb2 7
      obtain ⟨z0, z1, z2, z3, z4, z5, z6, z7⟩ := vw8 (a := 0) (b := 0) (c := 0) (d := 0) (e := 0) (f := 0) (g := 0) (i := 0) hb2
      have HBl : Hid (∀ v0 v1 v2 v3 v4 v5 v6 v7, Below w.heap.size w ((((((((wr.setCell ⟨w.heap.size + 1 + 1, 0, none⟩ v0).setCell ⟨w.heap.size + 1 + 1, 1, none⟩ v1).setCell ⟨w.heap.size + 1 + 1, 2, none⟩ v2).setCell ⟨w.heap.size + 1 + 1, 3, none⟩ v3).setCell ⟨w.heap.size + 1 + 1, 4, none⟩ v4).setCell ⟨w.heap.size + 1 + 1, 5, none⟩ v5).setCell ⟨w.heap.size + 1 + 1, 6, none⟩ v6).setCell ⟨w.heap.size + 1 + 1, 7, none⟩ v7)) := below8 HMr.out.below (by omega)
      have HBn : Hid (∀ v0 v1 v2 v3 v4 v5 v6 v7, ((((((((wr.setCell ⟨w.heap.size + 1 + 1, 0, none⟩ v0).setCell ⟨w.heap.size + 1 + 1, 1, none⟩ v1).setCell ⟨w.heap.size + 1 + 1, 2, none⟩ v2).setCell ⟨w.heap.size + 1 + 1, 3, none⟩ v3).setCell ⟨w.heap.size + 1 + 1, 4, none⟩ v4).setCell ⟨w.heap.size + 1 + 1, 5, none⟩ v5).setCell ⟨w.heap.size + 1 + 1, 6, none⟩ v6).setCell ⟨w.heap.size + 1 + 1, 7, none⟩ v7).heap[w.heap.size + 1 + 1]? = some (.cells #[v0, v1, v2, v3, v4, v5, v6, v7] 127 (0, 0))) := fun v0 v1 v2 v3 v4 v5 v6 v7 => store8 v0 v1 v2 v3 v4 v5 v6 v7 hb2
      clear hb2
      go_wp2_with fail
      refine bodyPost_ret ?_ rfl ⟨rfl, HBl.out _ _ _ _ _ _ _ _⟩
      exact results_cell_row rfl _ _ _ _ _ _ _ rfl (HBn.out _ _ _ _ _ _ _ _) Tryz.underlying127 rfl hs8.out
end Go.Proofs.YtmbpjbghhimedaaGreatDoor
