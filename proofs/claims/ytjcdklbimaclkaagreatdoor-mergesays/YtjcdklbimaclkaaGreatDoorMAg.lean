/- Insert, ObjPlain, RdObject, RdWord, RdNum -/
import Derived.Test.YtjcdklbimaclkaaGreatDoorMAa
import Derived.WalkKit
import Derived.WalkSpells
import Derived.Laws.CopyRow
import Derived.Laws.OwnMore
import Derived.ArgAppend
import Derived.Lib.AppendZerosOnto
import Derived.Lib.Overlaps
import Derived.Deep.RegionLaw
import Derived.Test.YtjcdklbimaclkaaGreatDoorMAf
import Derived.Test.YtjcdklbimaclkaaGreatDoorMAe
import Derived.Test.YtjcdklbimaclkaaGreatDoorMAb
import Derived.Test.YtjcdklbimaclkaaGreatDoorShelf
import Derived.Deep.RegionWith
namespace Go.Proofs.YtjcdklbimaclkaaGreatDoor
open Go.RowKit
set_option linter.unusedVariables false
set_option linter.unusedSimpArgs false
theorem info_field : (Tryz.prog.info? 86).map (fun i => (i.zero, i.size, i.bytes)) = some (some (.agg #[.string ⟨#[]⟩, .nilIface]), 2, 32) := by kernel_rfl
section
variable {P : Program}
theorem step_copy_eq {ops : Array Oper} {o : Oper} {a : Act} {w : World} {K : Act -> World -> Prop} {Q : Exit -> Act -> World -> Prop} {E : Prop} (hgd : o.guard = none) (d s : Operand) (t t' : TypeId)
  (ho : o.op = .call { callee := .builtin .copy, args := #[d, s], argTypes := #[t, t'] }) (v u : Value) (hd : a.eval d = v) (hs : a.eval s = u) {v' : Value} {w' : World}
  (hr : (Builtin.copy_ #[t, t'] o.type #[v, u]).run P w = .ok v' w') (h : K (a.put o.dst v') w') :
  if Region.wanted o (yielded ops a.tmps) = true then Oper.wp P o a w K Q else E := by
 rw [if_pos (by simp [Region.wanted, hgd])]
 unfold Oper.wp
 simp [execOp, ho, resolve, invoke, builtin, hd, hs, hr, Result.andThen]
 exact h
theorem run_copy_two (w : World) (dT sT ty elem : TypeId) (g o dLen dCap : Nat) (a : Addr) (sLen sCap : Nat) (cur : Array Value) (t : TypeId) (cs : List Value)
  (hu : P.underlying dT = some (.slice elem)) (hs : (P.info? elem).map (·.size) = some 2)
  (hg : w.heap[g]? = some (.cells cur t (0, 0))) (hn : cs.length = Nat.min sLen dLen * 2)
  (hsrc : ∀ j v, cs[j]? = some v -> w.cell? (a.add j) = some v) (hfit : o + cs.length <= cur.size) (h1 : ∀ v ∈ cs, v.oneCell' = true) :
  (Builtin.copy_ #[dT, sT] ty #[.slice (some ⟨g, o, none⟩) dLen dCap, .slice (some a) sLen sCap]).run P w =
   .ok (goInt (Nat.min sLen dLen)) (w.setRow g (cur.toList.take o ++ cs ++ cur.toList.drop (o + cs.length)).toArray) := by
 have hl := run_loadCells_list (P := P) w a cs hsrc
 have hst := run_storeCells_at P g o t cs 0 cur w hg (by simpa using hfit) h1
 cases hq : P.info? elem with
 | none => simp [hq] at hs
 | some i =>
  have hi : i.size = 2 := by simpa [hq] using hs
  simp [Builtin.copy_, run_underlying hu, Builtin.lenOf, Builtin.firstCells, sizeOf, typeInfo, hq, hi, <- hn, hl, hst]
end
theorem append_tt (ty : TypeId) (a : Option Addr) (n c : Nat) (a' : Option Addr) (n' c' : Nat) (w : World) : (Builtin.append_ #[53, 52] ty #[.slice a n c, .slice a' n' c']).run Tryz.prog w = (Builtin.append_ #[53, 53] ty #[.slice a n c, .slice a' n' c']).run Tryz.prog w := by
 simp [Builtin.append_, run_underlying Tryz.underlying53, run_underlying Tryz.underlying52, Builtin.lenOf]
theorem setRow_grown (w : World) (g : Nat) (cs : Array Value) : w.grownBy (w.setRow g cs) (some g) :=
 ⟨rfl, rfl, rfl, by simp [World.setRow], fun k _ hk => setRow_other w g k cs (fun e => hk (by rw [e]))⟩
theorem drew_grown {w w' : World} {r : Option Nat} (h : w.drew.grownBy w' r) : w.grownBy w' r := ⟨h.os, h.tape, h.output, h.size, h.block⟩
theorem grown_trans {x y z : World} {r : Option Nat} (h : x.grownBy y r) (g : y.grownBy z r) : x.grownBy z r :=
 ⟨g.os.trans h.os, g.tape.trans h.tape, g.output.trans h.output, Nat.le_trans h.size g.size, fun k hk hb => (g.block k (Nat.lt_of_lt_of_le hk h.size) hb).trans (h.block k hk hb)⟩
def inserted (xs : List Value) (i : Nat) (x u : Value) : List Value := xs.take (i * 2) ++ (x :: u :: xs.drop (i * 2))
def InsPost (g n : Nat) (ys : List Value) (w : World) (e : Ending) (w' : World) : Prop :=
 ∃ g' cap', e = .returned (.slice (some ⟨g', 0, none⟩) (n + 1) cap') /\ Row w' 86 2 g' (n + 1) cap' ys /\ ((g' = g /\ w.grownBy w' (some g)) ∨ (w.heap.size <= g' /\ w.grownBy w' none))
theorem insert_end (g n cap vb : Nat) (xs : List Value) (x u : Value) (w : World) (hr : Row w 86 2 g n cap xs) (hn : n <= 2000) (hvb : w.heap[vb]? = some (.cells #[x, u] 86 (0, 0))) (h1x : x.oneCell' = true) (h1u : u.oneCell' = true) :
  Calls Tryz.prog 87 #[.slice (some ⟨g, 0, none⟩) n cap, .int .i64 n, .slice (some ⟨vb, 0, none⟩) 1 1] w (InsPost g n (xs ++ [x, u]) w) := by
 obtain ⟨i0, hi, hz0, hz1, hz2⟩ := info_parts info_field
 have hnews : ∀ (j : Nat) (v : Value), [x, u][j]? = some v -> w.cell? ((⟨vb, 0, none⟩ : Addr).add j) = some v := by
  intro j v hj
  rw [Addr.add_lit, Nat.zero_add, cell_of_row _ _ _ _ _ _ hvb]
  simpa using hj
 have hone : ∀ v ∈ [x, u], v.oneCell' = true := by
  intro v hv
  simp at hv
  rcases hv with rfl | rfl
  ·exact h1x
  ·exact h1u
 have hcaps := hr.caps
 by_cases hroom : n + 1 <= cap
 ·obtain ⟨w', hrun, ho, hgr⟩ := run_append_fits (P := Tryz.prog) w g 53 53 86 i0 2 Tryz.underlying53 hi hz1 g n cap xs hr.owns ⟨vb, 0, none⟩ 1 1 [x, u] rfl hnews hone hroom
  have hrun2 := (append_tt 53 (some ⟨g, 0, none⟩) n cap (some ⟨vb, 0, none⟩) 1 1 w).trans hrun
  have HP : Hid (InsPost g n (xs ++ [x, u]) w (.returned (.slice (some ⟨g, 0, none⟩) (n + 1) cap)) w') := ⟨g, cap, rfl, Row.of_slice ho, Or.inl ⟨rfl, hgr⟩⟩
  clear hrun ho hgr hr hvb
  go_enter Tryz.func87, Tryz.ntmps87
  go_wp2_with (at_builtin; refine Lib.wpList_append_run _ rfl _ _ 53 52 rfl _ _ rfl rfl _ _ hrun2 ?_)
  go_ret
  exact HP.out
 ·obtain ⟨v', w', hrun, ho, hgr⟩ := run_append_arg_grows (P := Tryz.prog) w 53 53 86 i0 _ 2 32 Tryz.underlying53 hi hz0 hz1 hz2 rfl (by decide) ⟨g, 0, none⟩ n cap xs hr.1
   (fun j v hj => by rw [Addr.add_lit, Nat.zero_add]; exact hr.cell j v hj) ⟨vb, 0, none⟩ 1 1 [x, u] rfl hnews (by omega) (by unfold maxLen; omega) (by omega)
  obtain ⟨g', cap', rfl, hg', hrow⟩ := Row.of_owns ho (by omega)
  have hrun2 := (append_tt 53 (some ⟨g, 0, none⟩) n cap (some ⟨vb, 0, none⟩) 1 1 w).trans hrun
  have HP : Hid (InsPost g n (xs ++ [x, u]) w (.returned (.slice (some ⟨g', 0, none⟩) (n + 1) cap')) w') := ⟨g', cap', rfl, hrow, Or.inr ⟨hg', hgr⟩⟩
  clear hrun ho hgr hr hvb hrow
  go_enter Tryz.func87, Tryz.ntmps87
  go_wp2_with (at_builtin; refine Lib.wpList_append_run _ rfl _ _ 53 52 rfl _ _ rfl rfl _ _ hrun2 ?_)
  go_ret
  exact HP.out
theorem overlaps_no (w : World) (g vb o lb cb : Nat) (cur cv : Array Value) (hg : w.heap[g]? = some (.cells cur 86 (0, 0))) (hv : w.heap[vb]? = some (.cells cv 86 (0, 0))) (hne : vb ≠ g) (h0 : cur.size ≠ 0) :
  Sem.run Tryz.prog (callFunc 101 #[.slice (some ⟨vb, 0, none⟩) 1 1, .slice (some ⟨g, o, none⟩) lb cb]) w = .ok (.value (.bool false)) w := by
 rw [run_callFunc_extern (e := Extern.SlicesOverlaps.overlaps #[52, 52] #[4]) Tryz.func101 (by kernel_rfl) (by kernel_rfl) (by kernel_rfl) (by kernel_rfl),
  Lib.run_overlaps_apart w 52 4 86 Tryz.underlying52 2 Tryz.sizeOf86 ⟨vb, 0, none⟩ ⟨g, o, none⟩ 1 1 lb cb hne 86 86 cv.size cur.size
   (by simp [World.shape?, hv]) (by simp [World.shape?, hg]) h0 (frozen_of_row _ _ _ _ _ hv) (frozen_of_row _ _ _ _ _ hv)]
 rfl
theorem shift_list {cur xs : List Value} {n i : Nat} (x u : Value) (hx : xs.length = n * 2) (ht : cur.take (n * 2) = xs) (hc : (n + 1) * 2 <= cur.length) (hi : i < n) :
  ((cur.take ((i + 1) * 2) ++ xs.drop (i * 2) ++ cur.drop ((i + 1) * 2 + (xs.drop (i * 2)).length)).take (i * 2) ++ [x, u] ++ (cur.take ((i + 1) * 2) ++ xs.drop (i * 2) ++ cur.drop ((i + 1) * 2 + (xs.drop (i * 2)).length)).drop (i * 2 + [x, u].length)).take ((n + 1) * 2) = inserted xs i x u := by
 have hd : (xs.drop (i * 2)).length = n * 2 - i * 2 := by rw [List.length_drop, hx]
 have ha : (cur.take ((i + 1) * 2)).length = (i + 1) * 2 := by rw [List.length_take]; omega
 have e1 : (cur.take ((i + 1) * 2) ++ xs.drop (i * 2) ++ cur.drop ((i + 1) * 2 + (xs.drop (i * 2)).length)).take (i * 2) = xs.take (i * 2) := by
  rw [List.append_assoc, List.take_append_of_le_length (by omega), List.take_take, <- ht, List.take_take]
  congr 1
  omega
 have e2 : (cur.take ((i + 1) * 2) ++ xs.drop (i * 2) ++ cur.drop ((i + 1) * 2 + (xs.drop (i * 2)).length)).drop (i * 2 + [x, u].length) = xs.drop (i * 2) ++ cur.drop ((i + 1) * 2 + (xs.drop (i * 2)).length) := by
  rw [List.append_assoc]
  have : i * 2 + [x, u].length = (cur.take ((i + 1) * 2)).length := by rw [ha]; simp; omega
  rw [this, List.drop_left]
 rw [e1, e2]
 have hl : (xs.take (i * 2) ++ [x, u] ++ xs.drop (i * 2)).length = (n + 1) * 2 := by
  simp only [List.length_append, List.length_take, hd, List.length_cons, List.length_nil, hx]
  omega
 rw [<- List.append_assoc, List.take_append_of_le_length (by omega), List.take_of_length_le (by omega)]
 unfold inserted
 simp
theorem grow_list {R0 xs : List Value} {n i : Nat} (x u : Value) (hx : xs.length = n * 2) (ht : R0.take (i * 2) = xs.take (i * 2)) (hc : (n + 1) * 2 <= R0.length) (hi : i < n) :
  ((R0.take (i * 2) ++ [x, u] ++ R0.drop (i * 2 + [x, u].length)).take ((i + 1) * 2) ++ xs.drop (i * 2) ++ (R0.take (i * 2) ++ [x, u] ++ R0.drop (i * 2 + [x, u].length)).drop ((i + 1) * 2 + (xs.drop (i * 2)).length)).take ((n + 1) * 2) = inserted xs i x u := by
 have hd : (xs.drop (i * 2)).length = n * 2 - i * 2 := by rw [List.length_drop, hx]
 have hl : (xs.take (i * 2)).length = i * 2 := by rw [List.length_take]; omega
 rw [ht]
 have e1 : (xs.take (i * 2) ++ [x, u] ++ R0.drop (i * 2 + [x, u].length)).take ((i + 1) * 2) = xs.take (i * 2) ++ [x, u] := by
  rw [List.take_append_of_le_length (by simp only [List.length_append, hl, List.length_cons, List.length_nil]; omega), List.take_of_length_le (by simp only [List.length_append, hl, List.length_cons, List.length_nil]; omega)]
 rw [e1, List.take_append_of_le_length (by simp only [List.length_append, hl, hd, List.length_cons, List.length_nil]; omega), List.take_of_length_le (by simp only [List.length_append, hl, hd, List.length_cons, List.length_nil]; omega)]
 unfold inserted
 simp
set_option maxRecDepth 100000 in
set_option maxHeartbeats 2000000 in
theorem insert_shift (g n cap i vb : Nat) (xs : List Value) (x u : Value) (w : World) (hr : Row w 86 2 g n cap xs) (hn : n <= 2000) (hi : i < n) (hroom : n + 1 <= cap) (hvb : w.heap[vb]? = some (.cells #[x, u] 86 (0, 0))) (hvg : vb ≠ g) (h1x : x.oneCell' = true) (h1u : u.oneCell' = true) (h1s : ∀ v ∈ xs, v.oneCell' = true) :
  Calls Tryz.prog 87 #[.slice (some ⟨g, 0, none⟩) n cap, .int .i64 i, .slice (some ⟨vb, 0, none⟩) 1 1] w (InsPost g n (inserted xs i x u) w) := by
 obtain ⟨hxl, cur, hg, hnc, hcm, hcs, htk⟩ := hr
 unfold maxLen at hcm
 have hov := fun o lb cb => overlaps_no w g vb o lb cb cur _ hg hvb hvg (by omega)
 have hz2 : ¬ ((i : Int) = (n : Int)) := by omega
 have hb2 : ¬ (cap = i + 1) := by omega
 have hb4 : ¬ (cap = i) := by omega
 have HG : Hid (w.heap[g]? = some (.cells cur 86 (0, 0))) := hg
 have HV : Hid (w.heap[vb]? = some (.cells #[x, u] 86 (0, 0))) := hvb
 have HT : Hid (cur.toList.take (n * 2) = xs) := htk
 have hI1 : (i : Int) + 1 <= (n : Int) + 1 := by omega
 have hw1 : IntKind.i64.wrap ((i : Int) + 1) = (i : Int) + 1 := by rw [IntKind.wrap_i64]; omega
 have hb1 : (0 : Int) <= (i : Int) + 1 := by omega
 have htn : ((i : Int) + 1).toNat = i + 1 := by omega
 have hin : i <= n := by omega
 have hI2 : (i : Int) <= (n : Int) + 1 := by omega
 have hsz : (Tryz.prog.info? 86).map (·.size) = some 2 := by kernel_rfl
 have hdl : (xs.drop (i * 2)).length = (n - i) * 2 := by rw [List.length_drop, hxl]; omega
 obtain ⟨R1, hR1⟩ : ∃ R1 : Array Value, R1 = (cur.toList.take ((i + 1) * 2) ++ xs.drop (i * 2) ++ cur.toList.drop ((i + 1) * 2 + (xs.drop (i * 2)).length)).toArray := ⟨_, rfl⟩
 obtain ⟨m1, hm1⟩ : ∃ m1 : Nat, m1 = Nat.min (n + 1 - i) (n + 1 - (i + 1)) := ⟨_, rfl⟩
 obtain ⟨m2, hm2⟩ : ∃ m2 : Nat, m2 = Nat.min 1 (n + 1 - i) := ⟨_, rfl⟩
 have hm2' : m2 = 1 := by rw [hm2]; show min 1 (n + 1 - i) = 1; omega
 have hR1s : R1.size = cap * 2 := by
  rw [hR1]
  simp only [List.size_toArray, List.length_append, List.length_take, List.length_drop, Array.length_toList, hxl, hcs]
  omega
 obtain ⟨R2, hR2⟩ : ∃ R2 : Array Value, R2 = (R1.toList.take (i * 2) ++ [x, u] ++ R1.toList.drop (i * 2 + [x, u].length)).toArray := ⟨_, rfl⟩
 have hR2s : R2.size = cap * 2 := by
  rw [hR2]
  simp only [List.size_toArray, List.length_append, List.length_take, List.length_drop, Array.length_toList, hR1s, List.length_cons, List.length_nil]
  omega
 have hR2t : R2.toList.take ((n + 1) * 2) = inserted xs i x u := by
  rw [hR2, hR1]
  have := shift_list (cur := cur.toList) x u hxl htk (by rw [Array.length_toList]; omega) hi
  simpa using this
 have HC1 : Hid (∀ ty, (Builtin.copy_ #[53, 53] ty #[.slice (some ⟨g, (i + 1) * 2, none⟩) (n + 1 - (i + 1)) (cap - (i + 1)), .slice (some ⟨g, i * 2, none⟩) (n + 1 - i) (cap - i)]).run Tryz.prog w.drew = .ok (goInt m1) (w.drew.setRow g R1)) := fun ty => by
  rw [hR1, hm1]
  exact run_copy_two w.drew _ _ ty 86 g ((i + 1) * 2) (n + 1 - (i + 1)) _ ⟨g, i * 2, none⟩ (n + 1 - i) _ cur 86 (xs.drop (i * 2)) Tryz.underlying53 hsz hg
   (by rw [hdl]; congr 1; show n - i = min (n + 1 - i) (n + 1 - (i + 1)); omega)
   (fun j v hj => by
    rw [Addr.add_lit]
    have h2 : xs[i * 2 + j]? = some v := by rwa [List.getElem?_drop] at hj
    rw [<- htk, List.getElem?_take] at h2
    split at h2
    ·show w.cell? ⟨g, i * 2 + j, none⟩ = some v
     rw [cell_of_row _ _ _ _ _ _ hg]
     simpa using h2
    ·cases h2)
   (by rw [hdl]; omega) (fun v hv => h1s v (List.mem_of_mem_drop hv))
 have hW1g : (w.drew.setRow g R1).heap[g]? = some (.cells R1 86 (0, 0)) := setRow_heap w.drew g cur R1 86 _ hg
 have hW1v : (w.drew.setRow g R1).heap[vb]? = some (.cells #[x, u] 86 (0, 0)) := (setRow_other w.drew g vb R1 hvg).trans hvb
 have HC2 : Hid (∀ (W : World) ty, W.heap[g]? = some (.cells R1 86 (0, 0)) -> W.heap[vb]? = some (.cells #[x, u] 86 (0, 0)) -> (Builtin.copy_ #[53, 52] ty #[.slice (some ⟨g, i * 2, none⟩) (n + 1 - i) (cap - i), .slice (some ⟨vb, 0, none⟩) 1 1]).run Tryz.prog W = .ok (goInt m2) (W.setRow g R2)) := fun W ty hwg hwv => by
  rw [hR2, hm2]
  exact run_copy_two W _ _ ty 86 g (i * 2) (n + 1 - i) _ ⟨vb, 0, none⟩ 1 _ R1 86 [x, u] Tryz.underlying53 hsz hwg
   (by rw [<- hm2, hm2']; rfl)
   (fun j v hj => by
    rw [Addr.add_lit, Nat.zero_add, cell_of_row _ _ _ _ _ _ hwv]
    simpa using hj)
   (by rw [hR1s]; simp; omega) (fun v hv => by
    simp at hv
    rcases hv with rfl | rfl
    ·exact h1x
    ·exact h1u)
 have HW1g : Hid ((w.drew.setRow g R1).heap[g]? = some (.cells R1 86 (0, 0))) := hW1g
 have HW1v : Hid ((w.drew.setRow g R1).heap[vb]? = some (.cells #[x, u] 86 (0, 0))) := hW1v
 have HGr : Hid (w.grownBy (w.drew.setRow g R1) (some g)) := drew_grown (setRow_grown w.drew g R1)
 have hR2s' : Hid (R2.size = cap * 2) := hR2s
 have hR2t' : Hid (R2.toList.take ((n + 1) * 2) = inserted xs i x u) := hR2t
 have hil : Hid ((inserted xs i x u).length = (n + 1) * 2) := by
  show (inserted xs i x u).length = (n + 1) * 2
  rw [<- hR2t, List.length_take, Array.length_toList, hR2s]
  omega
 clear hg hvb htk hW1g hW1v hR1 hR2 hm1 hm2 hm2' hR1s hR2s hR2t
 go_enter Tryz.func87, Tryz.ntmps87
 go_wp2_with (simp only [hov])
 clear hov
 go_region_law (refine step_copy_eq rfl _ _ 53 53 rfl (.slice (some ⟨g, (i + 1) * 2, none⟩) (n + 1 - (i + 1)) (cap - (i + 1))) (.slice (some ⟨g, i * 2, none⟩) (n + 1 - i) (cap - i)) (by simp [Act.eval, Act.put]) (by simp [Act.eval, Act.put]) (HC1.out _) ?_)
 generalize w.drew.setRow g R1 = W1 at *
 have hc2 := HC2.out W1 3 HW1g.out HW1v.out
 go_wp2_with fail
 go_ret
 exact ⟨g, cap, rfl, ⟨hil.out, R2, setRow_heap W1 g R1 R2 86 _ HW1g.out, hroom, by unfold maxLen; omega, hR2s'.out, hR2t'.out⟩, Or.inl ⟨rfl, grown_trans HGr.out (setRow_grown W1 g R2)⟩⟩
set_option maxRecDepth 100000 in
set_option maxHeartbeats 2000000 in
theorem insert_grow (g n cap i vb : Nat) (xs : List Value) (x u : Value) (w : World) (hr : Row w 86 2 g n cap xs) (hn : n <= 2000) (hi : i < n) (hroom : cap < n + 1) (hvb : w.heap[vb]? = some (.cells #[x, u] 86 (0, 0))) (hvg : vb ≠ g) (h1x : x.oneCell' = true) (h1u : u.oneCell' = true) (h1s : ∀ v ∈ xs, v.oneCell' = true) :
  Calls Tryz.prog 87 #[.slice (some ⟨g, 0, none⟩) n cap, .int .i64 i, .slice (some ⟨vb, 0, none⟩) 1 1] w (InsPost g n (inserted xs i x u) w) := by
 obtain ⟨hxl, cur, hg, hnc, hcm, hcs, htk⟩ := hr
 unfold maxLen at hcm
 obtain ⟨i0, hi0, hz0, hzs, hzb⟩ := info_parts info_field
 have hgw := lt_of_block hg
 have hvw := lt_of_block hvb
 have hsz : (Tryz.prog.info? 86).map (·.size) = some 2 := by kernel_rfl
 have hcell : ∀ (j : Nat) (v : Value), xs[j]? = some v -> w.cell? ⟨g, j, none⟩ = some v := fun j v hj => by
  rw [<- htk, List.getElem?_take] at hj
  split at hj
  ·rw [cell_of_row _ _ _ _ _ _ hg]
   simpa using hj
  ·cases hj
 have hold : (Builtin.firstCells i0.size i (.slice (some ⟨g, 0, none⟩) i cap)).run Tryz.prog w.drew = .ok (xs.take (i * 2)).toArray w.drew := by
  rw [hzs]
  exact run_firstCells_some w.drew 2 i ⟨g, 0, none⟩ i cap (xs.take (i * 2)) (by rw [List.length_take]; omega) (fun j v hj => by
   rw [Addr.add_lit, Nat.zero_add]
   rw [List.getElem?_take] at hj
   split at hj
   ·exact hcell j v hj
   ·cases hj)
 have hik : i + (n + 1 - i) = n + 1 := by omega
 have hkk : ((n + 1 - i : Nat) : Int) = (n : Int) + 1 - (i : Int) := by omega
 have hrz := fun ty => Lib.run_append_grow_zeros (P := Tryz.prog) w 53 3 ty 86 i0 _ .i64 .i64 Tryz.underlying53 Tryz.underlying3 hi0 hz0 (some ⟨g, 0, none⟩) i cap (xs.take (i * 2)) hold (n + 1 - i) (by omega) (by omega) (by omega) (by omega) (by rw [hzb]; omega) (by rw [hzb, hik]; exact growslice_fits hroom (by omega))
 rw [hik, hkk] at hrz
 obtain ⟨GC, hGC⟩ : ∃ GC : Nat, GC = grownCap w (n + 1) cap 86 := ⟨_, rfl⟩
 have hGn : n + 1 <= GC := by rw [hGC]; exact grownCap_ge w _ _ _
 have hGm : GC <= 9223372036854775807 := by
  have := grownCap_le_maxLen w (n + 1) cap 86 (by unfold maxLen; omega)
  rw [<- hGC] at this
  unfold maxLen at this
  omega
 rw [<- hGC] at hrz
 obtain ⟨R0, hR0⟩ : ∃ R0 : Array Value, R0 = (xs.take (i * 2)).toArray ++ Builtin.zeroCells (Value.agg #[.string ⟨#[]⟩, .nilIface]).cells (n + 1 - i) ++ Builtin.zeroCells (Value.agg #[.string ⟨#[]⟩, .nilIface]).cells (GC - (n + 1)) := ⟨_, rfl⟩
 rw [<- hR0] at hrz
 have hR0s : R0.size = GC * 2 := by
  rw [hR0, Array.size_append, Array.size_append, size_zeroCells, size_zeroCells, List.size_toArray, List.length_take]
  show min (i * 2) xs.length + (n + 1 - i) * 2 + (GC - (n + 1)) * 2 = GC * 2
  omega
 have hR0t : R0.toList.take (i * 2) = xs.take (i * 2) := by
  rw [hR0]
  simp only [Array.toList_append, List.append_assoc]
  rw [List.take_append_of_le_length (by simp; omega), List.take_of_length_le (by simp; omega)]
 have hxt : (xs.take (i * 2)).length = i * 2 := by rw [List.length_take]; omega
 obtain ⟨R1, hR1⟩ : ∃ R1 : Array Value, R1 = (R0.toList.take (i * 2) ++ [x, u] ++ R0.toList.drop (i * 2 + [x, u].length)).toArray := ⟨_, rfl⟩
 have hR1s : R1.size = GC * 2 := by
  rw [hR1]
  simp only [List.size_toArray, List.length_append, List.length_take, List.length_drop, Array.length_toList, hR0s, List.length_cons, List.length_nil]
  omega
 obtain ⟨R2, hR2⟩ : ∃ R2 : Array Value, R2 = (R1.toList.take ((i + 1) * 2) ++ xs.drop (i * 2) ++ R1.toList.drop ((i + 1) * 2 + (xs.drop (i * 2)).length)).toArray := ⟨_, rfl⟩
 have hdl : (xs.drop (i * 2)).length = (n - i) * 2 := by rw [List.length_drop, hxl]; omega
 have hR2s : R2.size = GC * 2 := by
  rw [hR2]
  simp only [List.size_toArray, List.length_append, List.length_take, hdl, List.length_drop, Array.length_toList, hR1s, hxl]
  omega
 have hR2t : R2.toList.take ((n + 1) * 2) = inserted xs i x u := by
  rw [hR2, hR1]
  have := grow_list (R0 := R0.toList) x u hxl hR0t (by rw [Array.length_toList]; omega) hi
  simpa using this
 obtain ⟨m1, hm1⟩ : ∃ m1 : Nat, m1 = Nat.min 1 (n + 1 - i) := ⟨_, rfl⟩
 have hm1' : m1 = 1 := by rw [hm1]; show min 1 (n + 1 - i) = 1; omega
 obtain ⟨m2, hm2⟩ : ∃ m2 : Nat, m2 = Nat.min (n - i) (n + 1 - (i + 1)) := ⟨_, rfl⟩
 have hm2' : m2 = n - i := by rw [hm2]; show min (n - i) (n + 1 - (i + 1)) = n - i; omega
 have HCA : Hid (∀ (W : World) ty, W.heap[w.heap.size]? = some (.cells R0 86 (0, 0)) -> W.heap[vb]? = some (.cells #[x, u] 86 (0, 0)) -> (Builtin.copy_ #[53, 52] ty #[.slice (some ⟨w.heap.size, i * 2, none⟩) (n + 1 - i) (GC - i), .slice (some ⟨vb, 0, none⟩) 1 1]).run Tryz.prog W = .ok (goInt m1) (W.setRow w.heap.size R1)) := fun W ty hwg hwv => by
  rw [hR1, hm1]
  exact run_copy_two W _ _ ty 86 w.heap.size (i * 2) (n + 1 - i) _ ⟨vb, 0, none⟩ 1 _ R0 86 [x, u] Tryz.underlying53 hsz hwg
   (by rw [<- hm1, hm1']; rfl)
   (fun j v hj => by
    rw [Addr.add_lit, Nat.zero_add, cell_of_row _ _ _ _ _ _ hwv]
    simpa using hj)
   (by rw [hR0s]; simp; omega) (fun v hv => by
    simp at hv
    rcases hv with rfl | rfl
    ·exact h1x
    ·exact h1u)
 have HCB : Hid (∀ (W : World) ty, W.heap[w.heap.size]? = some (.cells R1 86 (0, 0)) -> W.heap[g]? = some (.cells cur 86 (0, 0)) -> (Builtin.copy_ #[53, 53] ty #[.slice (some ⟨w.heap.size, (i + 1) * 2, none⟩) (n + 1 - (i + 1)) (GC - (i + 1)), .slice (some ⟨g, i * 2, none⟩) (n - i) (cap - i)]).run Tryz.prog W = .ok (goInt m2) (W.setRow w.heap.size R2)) := fun W ty hwg hwv => by
  rw [hR2, hm2]
  exact run_copy_two W _ _ ty 86 w.heap.size ((i + 1) * 2) (n + 1 - (i + 1)) _ ⟨g, i * 2, none⟩ (n - i) _ R1 86 (xs.drop (i * 2)) Tryz.underlying53 hsz hwg
   (by rw [hdl, <- hm2, hm2'])
   (fun j v hj => by
    rw [Addr.add_lit]
    have h2 : xs[i * 2 + j]? = some v := by rwa [List.getElem?_drop] at hj
    rw [<- htk, List.getElem?_take] at h2
    split at h2
    ·rw [cell_of_row _ _ _ _ _ _ hwv]
     simpa using h2
    ·cases h2)
   (by rw [hdl, hR1s]; omega) (fun v hv => h1s v (List.mem_of_mem_drop hv))
 have hW1n : (w.alloc (.cells R0 86)).drew.heap[w.heap.size]? = some (.cells R0 86 (0, 0)) := heap_alloc_new w _
 have hW1o : ∀ c, c < w.heap.size -> (w.alloc (.cells R0 86)).drew.heap[c]? = w.heap[c]? := fun c hc => Below.heap_alloc w _ c hc
 have HW1n : Hid ((w.alloc (.cells R0 86)).drew.heap[w.heap.size]? = some (.cells R0 86 (0, 0))) := hW1n
 have HW1v : Hid ((w.alloc (.cells R0 86)).drew.heap[vb]? = some (.cells #[x, u] 86 (0, 0))) := (hW1o vb hvw).trans hvb
 have HW1g : Hid ((w.alloc (.cells R0 86)).drew.heap[g]? = some (.cells cur 86 (0, 0))) := (hW1o g hgw).trans hg
 have HGr : Hid (w.grownBy (w.alloc (.cells R0 86)).drew (some w.heap.size)) := ⟨rfl, rfl, rfl, by show w.heap.size <= (w.alloc (.cells R0 86)).heap.size; simp, fun c hc _ => hW1o c hc⟩
 have hR2s' : Hid (R2.size = GC * 2) := hR2s
 have hR2t' : Hid (R2.toList.take ((n + 1) * 2) = inserted xs i x u) := hR2t
 have hil : Hid ((inserted xs i x u).length = (n + 1) * 2) := by
  show (inserted xs i x u).length = (n + 1) * 2
  rw [<- hR2t, List.length_take, Array.length_toList, hR2s]
  omega
 have HRZ : Hid (∀ ty, (Builtin.append_ #[53, 3] ty #[.slice (some ⟨g, 0, none⟩) i cap, .int .i64 ((n : Int) + 1 - (i : Int))]).run Tryz.prog w = .ok (.slice (some ⟨w.heap.size, 0, none⟩) (n + 1) GC) (w.drew.alloc (.cells R0 86))) := hrz
 have hz2 : ¬ ((i : Int) = (n : Int)) := by omega
 have hz3 : (cap : Int) < (n : Int) + 1 := by omega
 have hb2 : ¬ (GC = i + 1) := by omega
 have hb4 : ¬ (GC = i) := by omega
 have hb5 : ¬ (cap = i) := by omega
 have hI1 : (i : Int) + 1 <= (n : Int) + 1 := by omega
 have hI2 : (i : Int) <= (n : Int) + 1 := by omega
 have hw1 : IntKind.i64.wrap ((i : Int) + 1) = (i : Int) + 1 := by rw [IntKind.wrap_i64]; omega
 have hb1 : (0 : Int) <= (i : Int) + 1 := by omega
 have htn : ((i : Int) + 1).toNat = i + 1 := by omega
 have hin : i <= n := by omega
 clear hg hvb htk hW1n hW1o hR0 hR1 hR2 hm1 hm2 hm1' hm2' hR0s hR1s hR2s hR2t hrz hcell hold hGC hR0t hxt hkk
 go_enter Tryz.func87, Tryz.ntmps87
 go_wp2_with (at_builtin; refine Lib.wpList_append_run _ rfl _ _ 53 3 rfl _ _ rfl rfl _ _ (HRZ.out _) ?_)
 generalize (w.alloc (.cells R0 86)).drew = W1 at *
 have hca := HCA.out W1 3 HW1n.out HW1v.out
 have HW2n : Hid ((W1.setRow w.heap.size R1).drew.heap[w.heap.size]? = some (.cells R1 86 (0, 0))) := setRow_heap W1 w.heap.size R0 R1 86 _ HW1n.out
 have HW2g : Hid ((W1.setRow w.heap.size R1).drew.heap[g]? = some (.cells cur 86 (0, 0))) := (setRow_other W1 w.heap.size g R1 (by omega)).trans HW1g.out
 have HGr2 : Hid (w.grownBy (W1.setRow w.heap.size R1).drew (some w.heap.size)) := by
  have h := grown_trans HGr.out (setRow_grown W1 w.heap.size R1)
  exact ⟨h.os, h.tape, h.output, h.size, h.block⟩
 rw [hca]
 clear hca
 go_wp2_with fail
 go_region_law (refine step_copy_eq rfl _ _ 53 53 rfl (.slice (some ⟨w.heap.size, (i + 1) * 2, none⟩) (n + 1 - (i + 1)) (GC - (i + 1))) (.slice (some ⟨g, i * 2, none⟩) (n - i) (cap - i)) (by simp [Act.eval, Act.put]) (by simp [Act.eval, Act.put]) (HCB.out _ _ HW2n.out HW2g.out) ?_)
 go_wp2_with fail
 go_ret
 refine ⟨w.heap.size, GC, rfl, ⟨hil.out, R2, setRow_heap _ w.heap.size R1 R2 86 _ HW2n.out, hGn, by unfold maxLen; omega, hR2s'.out, hR2t'.out⟩, Or.inr ⟨Nat.le_refl _, ?_⟩⟩
 have h := grown_trans HGr2.out (setRow_grown _ w.heap.size R2)
 exact ⟨h.os, h.tape, h.output, h.size, fun k hk _ => h.block k hk (fun e => by cases e; omega)⟩
theorem insert_any (g n cap i vb : Nat) (xs : List Value) (x u : Value) (w : World) (hr : Row w 86 2 g n cap xs) (hn : n <= 2000) (hi : i <= n) (hvb : w.heap[vb]? = some (.cells #[x, u] 86 (0, 0))) (hvg : vb ≠ g) (h1x : x.oneCell' = true) (h1u : u.oneCell' = true) (h1s : ∀ v ∈ xs, v.oneCell' = true) :
  Calls Tryz.prog 87 #[.slice (some ⟨g, 0, none⟩) n cap, .int .i64 i, .slice (some ⟨vb, 0, none⟩) 1 1] w (InsPost g n (inserted xs i x u) w) := by
 by_cases h : i = n
 ·subst h
  have e : inserted xs i x u = xs ++ [x, u] := by
   unfold inserted
   rw [List.take_of_length_le (by have := hr.1; omega), List.drop_of_length_le (by have := hr.1; omega)]
  rw [e]
  exact insert_end g i cap vb xs x u w hr hn hvb h1x h1u
 ·by_cases hroom : n + 1 <= cap
  ·exact insert_shift g n cap i vb xs x u w hr hn (by omega) hroom hvb hvg h1x h1u h1s
  ·exact insert_grow g n cap i vb xs x u w hr hn (by omega) (by omega) hvb hvg h1x h1u h1s
def flat {α : Type} : List (Bs × α) -> List Value -> List Value
  | f :: fs, u :: us => .string ⟨f.1.toArray⟩ :: u :: flat fs us
  | _, _ => []
theorem flat_get {α : Type} : ∀ (fs : List (Bs × α)) (us : List Value) (i : Nat) (f : Bs × α) (u : Value), fs[i]? = some f -> us[i]? = some u -> (flat fs us)[i * 2]? = some (.string ⟨f.1.toArray⟩) /\ (flat fs us)[i * 2 + 1]? = some u
  | [], _, _, _, _, h, _ => by simp at h
  | _ :: _, [], _, _, _, _, h => by simp at h
  | g :: fs, v :: us, 0, f, u, h1, h2 => by
    simp at h1 h2
    subst h1
    subst h2
    exact ⟨rfl, rfl⟩
  | g :: fs, v :: us, i + 1, f, u, h1, h2 => by
    have := flat_get fs us i f u (by simpa using h1) (by simpa using h2)
    rw [show (i + 1) * 2 = i * 2 + 1 + 1 by omega]
    simp only [flat, List.getElem?_cons_succ]
    exact this
theorem flat_one {α : Type} : ∀ (fs : List (Bs × α)) (us : List Value), (∀ u ∈ us, u.oneCell' = true) -> ∀ v ∈ flat fs us, v.oneCell' = true
  | [], _, _, v, h => by simp [flat] at h
  | _ :: _, [], _, v, h => by simp [flat] at h
  | f :: fs, u :: us, ho, v, h => by
    simp only [flat, List.mem_cons] at h
    rcases h with rfl | rfl | h
    · rfl
    · exact ho v (by simp)
    · exact flat_one fs us (fun x hx => ho x (by simp [hx])) v h
theorem flat_take {α : Type} : ∀ (fs : List (Bs × α)) (us : List Value) (i : Nat), us.length = fs.length -> (flat fs us).take (i * 2) = flat (fs.take i) (us.take i)
  | [], [], i, _ => by simp [flat]
  | [], _ :: _, _, h => by simp at h
  | _ :: _, [], _, h => by simp at h
  | f :: fs, u :: us, 0, h => by simp [flat]
  | f :: fs, u :: us, i + 1, h => by
    rw [show (i + 1) * 2 = i * 2 + 1 + 1 by omega]
    simp only [flat, List.take_succ_cons]
    rw [flat_take fs us i (by simpa using h)]
theorem flat_drop {α : Type} : ∀ (fs : List (Bs × α)) (us : List Value) (i : Nat), us.length = fs.length -> (flat fs us).drop (i * 2) = flat (fs.drop i) (us.drop i)
  | [], [], i, _ => by simp [flat]
  | [], _ :: _, _, h => by simp at h
  | _ :: _, [], _, h => by simp at h
  | f :: fs, u :: us, 0, h => by simp [flat]
  | f :: fs, u :: us, i + 1, h => by
    rw [show (i + 1) * 2 = i * 2 + 1 + 1 by omega]
    simp only [flat, List.drop_succ_cons]
    exact flat_drop fs us i (by simpa using h)
theorem flat_append {α : Type} : ∀ (fs : List (Bs × α)) (us : List Value) (gs : List (Bs × α)) (vs : List Value), us.length = fs.length -> flat (fs ++ gs) (us ++ vs) = flat fs us ++ flat gs vs
  | [], [], gs, vs, _ => by simp [flat]
  | [], _ :: _, _, _, h => by simp at h
  | _ :: _, [], _, _, h => by simp at h
  | f :: fs, u :: us, gs, vs, h => by
    simp only [flat, List.cons_append]
    rw [flat_append fs us gs vs (by simpa using h)]
def insAt {α : Type} (l : List α) (i : Nat) (x : α) : List α := l.take i ++ x :: l.drop i
theorem insAt_len {α : Type} (l : List α) (i : Nat) (x : α) (h : i <= l.length) : (insAt l i x).length = l.length + 1 := by
  unfold insAt
  simp only [List.length_append, List.length_take, List.length_cons, List.length_drop]
  omega
theorem flat_insert {α : Type} (fs : List (Bs × α)) (us : List Value) (i : Nat) (nm : Bs) (j : α) (u : Value) (h : us.length = fs.length) :
    inserted (flat fs us) i (.string ⟨nm.toArray⟩) u = flat (insAt fs i (nm, j)) (insAt us i u) := by
  unfold inserted insAt
  rw [flat_append _ _ _ _ (by simp only [List.length_take]; omega), flat_take fs us i h, flat_drop fs us i h]
  rfl
theorem ins_get {α : Type} {l : List α} {i k : Nat} {x y : α} (hi : i <= l.length) (h : (insAt l i x)[k]? = some y) : (k < i /\ l[k]? = some y) ∨ (k = i /\ y = x) ∨ (i < k /\ l[k - 1]? = some y) := by
  have hl : (l.take i).length = i := by rw [List.length_take]; omega
  unfold insAt at h
  rcases Nat.lt_trichotomy k i with h' | h' | h'
  · rw [List.getElem?_append_left (by omega), List.getElem?_take, if_pos h'] at h
    exact Or.inl ⟨h', h⟩
  · rw [List.getElem?_append_right (by omega), hl, h', Nat.sub_self] at h
    simp at h
    exact Or.inr (Or.inl ⟨h', h.symm⟩)
  · rw [List.getElem?_append_right (by omega), hl] at h
    obtain ⟨m, hm⟩ : ∃ m, k - i = m + 1 := ⟨k - i - 1, by omega⟩
    rw [hm, List.getElem?_cons_succ, List.getElem?_drop] at h
    refine Or.inr (Or.inr ⟨h', ?_⟩)
    rw [show k - 1 = i + m by omega]
    exact h
theorem insertAt_insAt {α : Type} (fs : List (Bs × α)) (nm : Bs) (v : α) : insertAt fs nm v = insAt fs (placeOfName fs nm) (nm, v) := insert_eq fs nm v
structure OBox (b : Nat) (d : Int) (c0 cf cd : Nat) (w : World) (sl : Value) : Prop where
  h0 : w.heap[c0]? = some (.cells #[.pointer (some ⟨b, 0, none⟩)] 97 (0, 0))
  h1 : w.heap[cd]? = some (.cells #[.int .i64 d] 3 (0, 0))
  h2 : w.heap[cf]? = some (.cells #[sl] 53 (0, 0))
def OInv (b : Nat) (d : Int) (c0 cf cd N0 N1 n : Nat) (s : List (Bs × J n)) (k : Nat) (w : World) : Prop :=
  s.length <= k /\ Rising s /\ ∃ (g cap : Nat) (vs : List Value), OBox b d c0 cf cd w (.slice (some ⟨g, 0, none⟩) s.length cap) /\ Row w 86 2 g s.length cap (flat s vs) /\ vs.length = s.length /\ (∀ u ∈ vs, u.oneCell' = true) /\ N0 <= g /\ g ≠ c0 /\ g ≠ cd /\ g ≠ cf /\
    ∀ (i : Nat) (f : Bs × J n) (u : Value), s[i]? = some f -> vs[i]? = some u -> St (fun c => c < N1 ∨ c = g) w n f.2 u
def OErr (cf : Nat) (w : World) : Prop := ∃ a m cap, w.heap[cf]? = some (.cells #[.slice a m cap] 53 (0, 0))
theorem OInv.err {b : Nat} {d : Int} {c0 cf cd N0 N1 n : Nat} {s : List (Bs × J n)} {k : Nat} {w : World} (h : OInv b d c0 cf cd N0 N1 n s k w) : OErr cf w := by
  obtain ⟨_, _, g, cap, vs, hb, _⟩ := h
  exact ⟨_, _, _, hb.h2⟩
theorem OBox.kept {b : Nat} {d : Int} {c0 cf cd : Nat} {w w' : World} {sl : Value} {row : Option Nat} (h : OBox b d c0 cf cd w sl) (g : w.grownBy w' row) (e0 : row ≠ some c0) (e1 : row ≠ some cd) (e2 : row ≠ some cf) : OBox b d c0 cf cd w' sl :=
  ⟨(g.block c0 (lt_of_block h.h0) (fun e => e0 e.symm)).trans h.h0, (g.block cd (lt_of_block h.h1) (fun e => e1 e.symm)).trans h.h1, (g.block cf (lt_of_block h.h2) (fun e => e2 e.symm)).trans h.h2⟩
theorem OInv.kept {b : Nat} {d : Int} {c0 cf cd N0 N1 n : Nat} {s : List (Bs × J n)} {k : Nat} {w w' : World} (h : OInv b d c0 cf cd N0 N1 n s k w) (g : G b w w') (hb : b < N0) (h0 : N0 <= c0) (h1 : N0 <= cd) (h2 : N0 <= cf) (hN : N0 <= N1) : OInv b d c0 cf cd N0 N1 n s k w' := by
  obtain ⟨hk, hri, gg, cap, vs, hx, hr, hvl, hvo, hg, e0, e1, e2, hel⟩ := h
  refine ⟨hk, hri, gg, cap, vs, hx.kept g (fun e => by cases e; omega) (fun e => by cases e; omega) (fun e => by cases e; omega), hr.kept g (fun e => by cases e; omega), hvl, hvo, hg, e0, e1, e2, fun i x u hx hu => ?_⟩
  exact (hel i x u hx hu).grown g (fun k e => by cases e; exact Or.inl (by omega))
theorem row_fields {α : Type} {w : World} {g n cap : Nat} {fs : List (Bs × α)} {vs : List Value} (h : Row w 86 2 g n cap (flat fs vs)) (hl : vs.length = fs.length) : Fields w g fs vs :=
  ⟨hl, fun i f u hf hu => by
    have := flat_get fs vs i f u hf hu
    exact ⟨h.cell _ _ this.1, h.cell _ _ this.2⟩⟩
theorem oinv_step {b : Nat} {d : Int} {c0 cf cd N0 N1 n g cap g' cap' k' : Nat} {s : List (Bs × J n)} {nm : Bs} {j : J n} {v : Value} {vs : List Value} {w w1 w2 : World} {o : Obj} {row : Option Nat}
    (hri : Rising s) (hnm : (s.any fun f => f.1 == nm) = false)
    (hx : OBox b d c0 cf cd w (.slice (some ⟨g, 0, none⟩) s.length cap)) (hr : Row w 86 2 g s.length cap (flat s vs)) (hvl : vs.length = s.length) (hvo : ∀ u ∈ vs, u.oneCell' = true) (hv1 : v.oneCell' = true) (hg : N0 <= g) (e0 : g ≠ c0) (e1 : g ≠ cd) (e2 : g ≠ cf)
    (hel : ∀ (i : Nat) (f : Bs × J n) (u : Value), s[i]? = some f -> vs[i]? = some u -> St (fun c => c < N1 ∨ c = g) w n f.2 u)
    (hb : b < N0) (k0 : N0 <= c0) (k1 : N0 <= cd) (k2 : N0 <= cf) (l2 : cf < N1) (n01 : c0 ≠ cf) (n12 : cd ≠ cf) (hN : N0 <= N1) (hNw : N1 <= w.heap.size)
    (hG : G b w w1) (hst : St (fun c => c < w.heap.size) w1 n j v) (happ : (w1.alloc o).grownBy w2 row)
    (hrow : Row w2 86 2 g' (s.length + 1) cap' (inserted (flat s vs) (placeOfName s nm) (.string ⟨nm.toArray⟩) v)) (hg' : (row = some g /\ g' = g) ∨ (row = none /\ w1.heap.size < g')) (hk' : s.length < k') :
    OInv b d c0 cf cd N0 N1 n (insertAt s nm j) k' (w2.setCell ⟨cf, 0, none⟩ (.slice (some ⟨g', 0, none⟩) (s.length + 1) cap')) := by
  have hgw : g < w.heap.size := hr.lt
  have hsz := hG.size
  have hA : (w1.alloc o).heap.size = w1.heap.size + 1 := by simp
  have hpl := place_le s nm
  have hg2 : N0 <= g' /\ g' ≠ c0 /\ g' ≠ cd /\ g' ≠ cf := by
    rcases hg' with ⟨_, rfl⟩ | ⟨_, h⟩
    · exact ⟨hg, e0, e1, e2⟩
    · have a0 := lt_of_block hx.h0
      have a1 := lt_of_block hx.h1
      have a2 := lt_of_block hx.h2
      omega
  have hx2 : OBox b d c0 cf cd w2 (.slice (some ⟨g, 0, none⟩) s.length cap) := by
    have h1 := hx.kept hG (fun e => by cases e; omega) (fun e => by cases e; omega) (fun e => by cases e; omega)
    have h2 := h1.kept (World.grownBy_alloc w1 o none) (fun e => by cases e) (fun e => by cases e) (fun e => by cases e)
    refine h2.kept happ ?_ ?_ ?_
    all_goals (rcases hg' with ⟨rfl, _⟩ | ⟨rfl, _⟩)
    all_goals (intro e; cases e; try contradiction)
  have hrow_av : ∀ k, row = some k -> (k < N1 ∨ k = g ∨ k = g') := by
    rcases hg' with ⟨rfl, _⟩ | ⟨rfl, _⟩
    · intro k e; cases e; exact Or.inr (Or.inl rfl)
    · intro k e; cases e
  have hset : ∀ {x : J n} {u : Value}, St (fun c => c < N1 ∨ c = g ∨ c = g') (w1.alloc o) n x u -> St (fun c => c < N1 ∨ c = g') (w2.setCell ⟨cf, 0, none⟩ (.slice (some ⟨g', 0, none⟩) (s.length + 1) cap')) n x u := by
    intro x u h
    have h1 := h.grown happ hrow_av
    have h2 := h1.mono (av' := fun c => c < N1 ∨ c = g') (fun c _ e => by rcases e with e | e
                                                                          · exact Or.inl e
                                                                          · exact Or.inr (Or.inr e))
    exact h2.grown (grownBy_setCell w2 cf 0 _) (fun k e => by cases e; exact Or.inl l2)
  have hold : ∀ (i : Nat) (f : Bs × J n) (u : Value), s[i]? = some f -> vs[i]? = some u -> St (fun c => c < N1 ∨ c = g ∨ c = g') (w1.alloc o) n f.2 u := by
    intro i f u hf hu
    have h1 := (hel i f u hf hu).grown hG (fun k e => by cases e; exact Or.inl (by omega))
    have h2 := h1.grown (World.grownBy_alloc w1 o none) (fun k e => by cases e)
    exact h2.wide (fun c e => by
      rcases e with e | e | e
      · exact Or.inl (Or.inl e)
      · exact Or.inl (Or.inr e)
      · rcases hg' with ⟨_, h⟩ | ⟨_, h⟩
        · exact Or.inl (Or.inr (by omega))
        · exact Or.inr (by omega))
  have hnew : St (fun c => c < N1 ∨ c = g ∨ c = g') (w1.alloc o) n j v := by
    have h2 := hst.grown (World.grownBy_alloc w1 o none) (fun k e => by cases e)
    exact h2.wide (fun c e => by
      rcases e with e | e | e
      · exact Or.inl (by omega)
      · exact Or.inl (by omega)
      · rcases hg' with ⟨_, h⟩ | ⟨_, h⟩
        · exact Or.inl (by omega)
        · exact Or.inr (by omega))
  have hil : (insertAt s nm j).length = s.length + 1 := by rw [insertAt_insAt, insAt_len _ _ _ hpl]
  refine ⟨by rw [hil]; omega, rising_insert hri nm j hnm, g', cap', insAt vs (placeOfName s nm) v, ?_, ?_, ?_, ?_, hg2.1, hg2.2.1, hg2.2.2.1, hg2.2.2.2, ?_⟩
  · rw [hil]
    exact ⟨(heap_setCell_other _ _ _ _ n01).trans hx2.h0, (heap_setCell_other _ _ _ _ n12).trans hx2.h1, one_setCell hx2.h2⟩
  · rw [hil, insertAt_insAt, <- flat_insert s vs (placeOfName s nm) nm j v hvl]
    exact hrow.kept (grownBy_setCell w2 cf 0 _) (fun e => by cases e; exact hg2.2.2.2 rfl)
  · rw [hil, insAt_len _ _ _ (by omega), hvl]
  · intro u hu
    unfold insAt at hu
    rcases List.mem_append.1 hu with hu | hu
    · exact hvo u (List.mem_of_mem_take hu)
    · rcases List.mem_cons.1 hu with rfl | hu
      · exact hv1
      · exact hvo u (List.mem_of_mem_drop hu)
  · intro i f u hf hu
    rw [insertAt_insAt] at hf
    refine hset ?_
    rcases ins_get hpl hf with ⟨h1, hf⟩ | ⟨h1, rfl⟩ | ⟨h1, hf⟩
    · rcases ins_get (by omega) hu with ⟨_, hu⟩ | ⟨h2, _⟩ | ⟨h2, _⟩
      · exact hold i f u hf hu
      · omega
      · omega
    · rcases ins_get (by omega) hu with ⟨h2, _⟩ | ⟨_, rfl⟩ | ⟨h2, _⟩
      · omega
      · exact hnew
      · omega
    · rcases ins_get (by omega) hu with ⟨h2, _⟩ | ⟨h2, _⟩ | ⟨_, hu⟩
      · omega
      · omega
      · exact hold (i - 1) f u hf hu
set_option maxRecDepth 100000 in
set_option maxHeartbeats 8000000 in
theorem object_one (n b : Nat) (t : ByteArray) (d : Int) (c0 cf cd : Nat) (w0 : World) (hV : ValueOK n) (hd : d + n = 10) (hd0 : 0 <= d) (ht : t.size <= 2000) (hb : b < w0.heap.size)
  (k0 : w0.heap.size <= c0) (k1 : w0.heap.size <= cd) (k2 : w0.heap.size <= cf) (l0 : c0 < cf) (l1 : cd < cf) :
  OneOK 85 #[.pointer (some ⟨c0, 0, none⟩), .pointer (some ⟨cf, 0, none⟩), .pointer (some ⟨cd, 0, none⟩)] b t w0 (oneField (value n)) (OInv b d c0 cf cd w0.heap.size (cf + 1) n) (OErr cf) := by
 intro s p k w hI hg hR hp hk
 obtain ⟨hsk, hri, g, cap, vs, hx, hr, hvl, hvo, hgN, e0, e1, e2, hel⟩ := hI
 have a0 := cell_of_one hx.h0
 have a2 := cell_of_one hx.h2
 have hcw := lt_of_block hx.h2
 have hcap := hr.caps
 have hgw := hr.lt
 have HX : Hid (OBox b d c0 cf cd w (.slice (some ⟨g, 0, none⟩) s.length cap)) := hx
 have HRw : Hid (Row w 86 2 g s.length cap (flat s vs)) := hr
 have HEl : Hid (∀ (i : Nat) (f : Bs × J n) (u : Value), s[i]? = some f -> vs[i]? = some u -> St (fun c => c < cf + 1 ∨ c = g) w n f.2 u) := hel
 have HR : Hid (Rd b t p k w) := hR
 have HG : Hid (G b w0 w) := hg
 have HV : Hid (ValueOK n) := hV
 have HRi : Hid (Rising s) := hri
 have HVl : Hid (vs.length = s.length) := hvl
 have HVo : Hid (∀ u ∈ vs, u.oneCell' = true) := hvo
 clear hx hr hel hR hg hV hri hvl hvo
 go_enter Tryz.func85, Tryz.ntmps85
 go_wp2_with fail
 refine (name_any b t p k g cap s vs w HR.out hp ht (row_fields HRw.out HVl.out) hgw (by omega) HRi.out (by omega) hcap.1 hcap.2).mono ?_
 rintro e wn ⟨gn, hn⟩
 have hxn := HX.out.kept gn (fun e => by cases e; omega) (fun e => by cases e; omega) (fun e => by cases e; omega)
 have hrn : Row wn 86 2 g s.length cap (flat s vs) := HRw.out.kept gn (fun e => by cases e; omega)
 have HXn : Hid (OBox b d c0 cf cd wn (.slice (some ⟨g, 0, none⟩) s.length cap)) := hxn
 have HRn : Hid (Row wn 86 2 g s.length cap (flat s vs)) := hrn
 have HEn : Hid (∀ (i : Nat) (f : Bs × J n) (u : Value), s[i]? = some f -> vs[i]? = some u -> St (fun c => c < cf + 1 ∨ c = g) wn n f.2 u) := fun i f u hf hu => (HEl.out i f u hf hu).grown gn (fun k e => by cases e; exact Or.inl (by omega))
 have HGn : Hid (G b w0 wn) := HG.out.trans gn
 have b0 := cell_of_one hxn.h0
 have b1 := cell_of_one hxn.h1
 have hgn := hrn.lt
 have hcn := lt_of_block hxn.h2
 clear gn hxn hrn a0 a2
 rcases hn with ⟨er, hne, her, her2, rfl⟩ | ⟨nm, q0, hne, hpq0, hq0, hany, rfl, hRn⟩
 ·have HNe : Hid (nameE s (rest t p) = .error er) := hne
  have hbe := err_bool her
  clear hne
  go_wp2_with fail
  go_ret
  exact ⟨HGn.out, Or.inl ⟨er, by rw [oneField, HNe.out], her, her2, rfl, ⟨_, _, _, HXn.out.h2⟩⟩⟩
 have HNe : Hid (nameE s (rest t p) = .ok (nm, rest t q0)) := hne
 have HAny : Hid ((s.any fun f => f.1 == nm) = false) := hany
 have HRdn : Hid (Rd b t q0 k wn) := hRn
 have hpl := place_le s nm
 clear hne hany hRn
 go_wp2_with fail
 refine (HV.out b t q0 k d wn HRdn.out hq0 ht hk hd hd0).mono ?_
 rintro e w1 ⟨g1, h1⟩
 have hx1 := HXn.out.kept g1 (fun e => by cases e; omega) (fun e => by cases e; omega) (fun e => by cases e; omega)
 have hr1 : Row w1 86 2 g s.length cap (flat s vs) := HRn.out.kept g1 (fun e => by cases e; omega)
 have b2 := cell_of_one hx1.h2
 have b3 := free_of_one hx1.h2
 have HX1 : Hid (OBox b d c0 cf cd w1 (.slice (some ⟨g, 0, none⟩) s.length cap)) := hx1
 have HR1 : Hid (Row w1 86 2 g s.length cap (flat s vs)) := hr1
 have HG1 : Hid (G b wn w1) := g1
 have HG01 : Hid (G b w0 w1) := HGn.out.trans g1
 have hc2w := lt_of_block hx1.h2
 have hg1w := hr1.lt
 clear hx1 hr1 g1 b0 b1
 rcases h1 with ⟨er, v, hv, her, her2, rfl, hone⟩ | ⟨j, k', q, v, hv, hpq, hq, hkk, hk2, rfl, hone, hR', hst⟩
 ·have HVal : Hid (value n k (rest t q0) = .error er) := hv
  clear hv
  rcases hone with rfl | ⟨T, x, rfl⟩
  ·skip
   go_wp2_with fail
   refine (insert_any g s.length cap (placeOfName s nm) w1.heap.size (flat s vs) (.string ⟨nm.toArray⟩) (.nilIface) _ (HR1.out.kept (World.grownBy_alloc w1 _ none) (fun e => by cases e)) (by omega) hpl (heap_alloc_new w1 _) (by omega) rfl rfl (flat_one s vs HVo.out)).mono ?_
   rintro e w2 ⟨g', cap', rfl, hrow, hgr⟩
   have hgr2 : ∃ row, (w1.alloc (.cells #[.string ⟨nm.toArray⟩, .nilIface] 86)).grownBy w2 row /\ ((row = some g /\ g' = g) ∨ (row = none /\ w1.heap.size < g')) := by
    rcases hgr with ⟨h1, h2⟩ | ⟨h1, h2⟩
    ·exact ⟨_, h2, Or.inl ⟨rfl, h1⟩⟩
    ·exact ⟨_, h2, Or.inr ⟨rfl, by simp at h1; omega⟩⟩
   obtain ⟨row, hgrow, hcase⟩ := hgr2
   have hx2 := (HX1.out.kept (World.grownBy_alloc w1 (.cells #[.string ⟨nm.toArray⟩, .nilIface] 86) none) (fun e => by cases e) (fun e => by cases e) (fun e => by cases e)).kept hgrow
    (fun e => by subst e; rcases hcase with ⟨h, _⟩ | ⟨h, _⟩ <;> cases h; exact e0 rfl) (fun e => by subst e; rcases hcase with ⟨h, _⟩ | ⟨h, _⟩ <;> cases h; exact e1 rfl) (fun e => by subst e; rcases hcase with ⟨h, _⟩ | ⟨h, _⟩ <;> cases h; exact e2 rfl)
   have f2 := cell_of_one hx2.h2
   have f3 := free_of_one hx2.h2
   have HX2 : Hid (OBox b d c0 cf cd w2 (.slice (some ⟨g, 0, none⟩) s.length cap)) := hx2
   have HG2 : Hid (G b w0 w2) := (HG01.out.alloc _).grown hgrow (fun k e => by subst e; rcases hcase with ⟨h, _⟩ | ⟨h, _⟩ <;> cases h; omega)
   clear hgrow hcase hgr hrow hx2 b2 b3
   go_wp2_with fail
   go_ret
   exact ⟨HG2.out.setNew k2 _, Or.inl ⟨er, by rw [oneField, HNe.out]; simp only [HVal.out], her, her2, rfl, ⟨_, _, _, one_setCell HX2.out.h2⟩⟩⟩
  ·skip
   go_wp2_with fail
   refine (insert_any g s.length cap (placeOfName s nm) w1.heap.size (flat s vs) (.string ⟨nm.toArray⟩) (.iface T x) _ (HR1.out.kept (World.grownBy_alloc w1 _ none) (fun e => by cases e)) (by omega) hpl (heap_alloc_new w1 _) (by omega) rfl rfl (flat_one s vs HVo.out)).mono ?_
   rintro e w2 ⟨g', cap', rfl, hrow, hgr⟩
   have hgr2 : ∃ row, (w1.alloc (.cells #[.string ⟨nm.toArray⟩, .iface T x] 86)).grownBy w2 row /\ ((row = some g /\ g' = g) ∨ (row = none /\ w1.heap.size < g')) := by
    rcases hgr with ⟨h1, h2⟩ | ⟨h1, h2⟩
    ·exact ⟨_, h2, Or.inl ⟨rfl, h1⟩⟩
    ·exact ⟨_, h2, Or.inr ⟨rfl, by simp at h1; omega⟩⟩
   obtain ⟨row, hgrow, hcase⟩ := hgr2
   have hx2 := (HX1.out.kept (World.grownBy_alloc w1 (.cells #[.string ⟨nm.toArray⟩, .iface T x] 86) none) (fun e => by cases e) (fun e => by cases e) (fun e => by cases e)).kept hgrow
    (fun e => by subst e; rcases hcase with ⟨h, _⟩ | ⟨h, _⟩ <;> cases h; exact e0 rfl) (fun e => by subst e; rcases hcase with ⟨h, _⟩ | ⟨h, _⟩ <;> cases h; exact e1 rfl) (fun e => by subst e; rcases hcase with ⟨h, _⟩ | ⟨h, _⟩ <;> cases h; exact e2 rfl)
   have f2 := cell_of_one hx2.h2
   have f3 := free_of_one hx2.h2
   have HX2 : Hid (OBox b d c0 cf cd w2 (.slice (some ⟨g, 0, none⟩) s.length cap)) := hx2
   have HG2 : Hid (G b w0 w2) := (HG01.out.alloc _).grown hgrow (fun k e => by subst e; rcases hcase with ⟨h, _⟩ | ⟨h, _⟩ <;> cases h; omega)
   clear hgrow hcase hgr hrow hx2 b2 b3
   go_wp2_with fail
   go_ret
   exact ⟨HG2.out.setNew k2 _, Or.inl ⟨er, by rw [oneField, HNe.out]; simp only [HVal.out], her, her2, rfl, ⟨_, _, _, one_setCell HX2.out.h2⟩⟩⟩
 ·obtain ⟨T, x, rfl⟩ := hone
  have HVal : Hid (value n k (rest t q0) = .ok (j, k', rest t q)) := hv
  have HR' : Hid (Rd b t q k' w1) := hR'
  have HSt : Hid (St (fun c => c < wn.heap.size) w1 n j (.iface T x)) := hst
  clear hv hR' hst
  go_wp2_with fail
  refine (insert_any g s.length cap (placeOfName s nm) w1.heap.size (flat s vs) (.string ⟨nm.toArray⟩) (.iface T x) _ (HR1.out.kept (World.grownBy_alloc w1 _ none) (fun e => by cases e)) (by omega) hpl (heap_alloc_new w1 _) (by omega) rfl rfl (flat_one s vs HVo.out)).mono ?_
  rintro e w2 ⟨g', cap', rfl, hrow, hgr⟩
  have hgr2 : ∃ row, (w1.alloc (.cells #[.string ⟨nm.toArray⟩, .iface T x] 86)).grownBy w2 row /\ ((row = some g /\ g' = g) ∨ (row = none /\ w1.heap.size < g')) := by
   rcases hgr with ⟨h1, h2⟩ | ⟨h1, h2⟩
   ·exact ⟨_, h2, Or.inl ⟨rfl, h1⟩⟩
   ·exact ⟨_, h2, Or.inr ⟨rfl, by simp at h1; omega⟩⟩
  obtain ⟨row, hgrow, hcase⟩ := hgr2
  have hx2 := (HX1.out.kept (World.grownBy_alloc w1 (.cells #[.string ⟨nm.toArray⟩, .iface T x] 86) none) (fun e => by cases e) (fun e => by cases e) (fun e => by cases e)).kept hgrow
   (fun e => by subst e; rcases hcase with ⟨h, _⟩ | ⟨h, _⟩ <;> cases h; exact e0 rfl) (fun e => by subst e; rcases hcase with ⟨h, _⟩ | ⟨h, _⟩ <;> cases h; exact e1 rfl) (fun e => by subst e; rcases hcase with ⟨h, _⟩ | ⟨h, _⟩ <;> cases h; exact e2 rfl)
  have f2 := cell_of_one hx2.h2
  have f3 := free_of_one hx2.h2
  have HX2 : Hid (OBox b d c0 cf cd w2 (.slice (some ⟨g, 0, none⟩) s.length cap)) := hx2
  have HG2 : Hid (G b w0 w2) := (HG01.out.alloc _).grown hgrow (fun k e => by subst e; rcases hcase with ⟨h, _⟩ | ⟨h, _⟩ <;> cases h; omega)
  have HL : Hid (OInv b d c0 cf cd w0.heap.size (cf + 1) n (insertAt s nm j) k' (w2.setCell ⟨cf, 0, none⟩ (.slice (some ⟨g', 0, none⟩) (s.length + 1) cap'))) :=
   oinv_step HRi.out HAny.out HXn.out HRn.out HVl.out HVo.out rfl hgN e0 e1 e2 HEn.out hb k0 k1 k2 (by omega) (by omega) (by omega) (by omega) (by omega) HG1.out HSt.out hgrow hrow hcase (by omega)
  have HR2 : Hid (Rd b t q k' (w2.setCell ⟨cf, 0, none⟩ (.slice (some ⟨g', 0, none⟩) (s.length + 1) cap'))) :=
   (((HR'.out.alloc _).kept hgrow (fun e => by subst e; rcases hcase with ⟨h, _⟩ | ⟨h, _⟩ <;> cases h; omega))).kept (grownBy_setCell w2 cf 0 _) (fun e => by cases e; omega)
  clear hgrow hcase hgr hrow hx2 b2 b3
  go_wp2_with fail
  go_ret
  exact ⟨HG2.out.setNew k2 _, Or.inr ⟨insertAt s nm j, k', q, by rw [oneField, HNe.out]; simp only [HVal.out], by omega, hq, hk2, rfl, HR2.out, HL.out⟩⟩
theorem oinv_start (b : Nat) (d : Int) (n k : Nat) (w : World) (hb : b < w.heap.size) :
  OInv b d w.heap.size (w.heap.size + 1 + 1 + 1) (w.heap.size + 1) w.heap.size (w.heap.size + 1 + 1 + 1 + 1) n [] k ((((w.alloc (.cells #[.pointer (some ⟨b, 0, none⟩)] 97)).alloc (.cells #[.int .i64 d] 3)).alloc (.cells #[] 86)).alloc (.cells #[.slice (some ⟨w.heap.size + 1 + 1, 0, none⟩) 0 0] 53)) := by
 have hz : ∀ (x : World) (o : Obj), (x.alloc o).heap.size = x.heap.size + 1 := fun x o => by simp
 generalize e1 : w.alloc (.cells #[.pointer (some ⟨b, 0, none⟩)] 97) = w1
 generalize e2 : w1.alloc (.cells #[.int .i64 d] 3) = w2
 generalize e3 : w2.alloc (.cells #[] 86) = w3
 have z1 : w1.heap.size = w.heap.size + 1 := by rw [<- e1, hz]
 have z2 : w2.heap.size = w.heap.size + 1 + 1 := by rw [<- e2, hz, z1]
 have z3 : w3.heap.size = w.heap.size + 1 + 1 + 1 := by rw [<- e3, hz, z2]
 have b0 : w1.heap[w.heap.size]? = some (.cells #[.pointer (some ⟨b, 0, none⟩)] 97 (0, 0)) := by rw [<- e1]; exact heap_alloc_new w _
 have b1 : w2.heap[w.heap.size + 1]? = some (.cells #[.int .i64 d] 3 (0, 0)) := by rw [<- e2, <- z1]; exact heap_alloc_new w1 _
 have b2 : w3.heap[w.heap.size + 1 + 1]? = some (.cells #[] 86 (0, 0)) := by rw [<- e3, <- z2]; exact heap_alloc_new w2 _
 have up2 : ∀ c, c < w1.heap.size -> w2.heap[c]? = w1.heap[c]? := fun c hc => by rw [<- e2]; exact Below.heap_alloc w1 _ c hc
 have up3 : ∀ c, c < w2.heap.size -> w3.heap[c]? = w2.heap[c]? := fun c hc => by rw [<- e3]; exact Below.heap_alloc w2 _ c hc
 have up4 : ∀ o c, c < w3.heap.size -> (w3.alloc o).heap[c]? = w3.heap[c]? := fun o c hc => Below.heap_alloc w3 _ c hc
 refine ⟨Nat.zero_le _, List.Pairwise.nil, w.heap.size + 1 + 1, 0, [], ⟨?_, ?_, ?_⟩, ⟨rfl, #[], ?_, Nat.le_refl _, by unfold maxLen; omega, rfl, rfl⟩, rfl, fun u hu => by simp at hu, by omega, by omega, by omega, by omega, fun i x u hx _ => by simp at hx⟩
 ·rw [up4 _ _ (by omega), up3 _ (by omega), up2 _ (by omega)]; exact b0
 ·rw [up4 _ _ (by omega), up3 _ (by omega)]; exact b1
 ·rw [<- z3]; exact heap_alloc_new w3 _
 ·rw [up4 _ _ (by omega)]; exact b2
def ObjPost (b : Nat) (t : ByteArray) (p k n : Nat) (w : World) (e : Ending) (w' : World) : Prop :=
 G b w w' /\ ((∃ (er : Nat) (v : Value), row 125 (oneField (value n)) [] k (rest t p) = .error er /\ er ≠ 0 /\ er < 100 /\ e = .returned (.tuple #[v, .int .i64 er]) /\ (v = .nilIface ∨ ∃ T x, v = .iface T x)) ∨
  ∃ (s : List (Bs × J n)) (k' q : Nat) (v : Value), row 125 (oneField (value n)) [] k (rest t p) = .ok (s, k', rest t q) /\ p < q /\ q <= t.size /\ k' <= 200 /\ e = .returned (.tuple #[v, .int .i64 0]) /\ (∃ T x, v = .iface T x) /\ Rd b t q k' w' /\ St (fun c => c < w.heap.size) w' (n + 1) (Sum.inr (Sum.inr s)) v)
set_option maxRecDepth 100000 in
set_option maxHeartbeats 4000000 in
theorem object_any (n b : Nat) (t : ByteArray) (p k : Nat) (d : Int) (w : World) (hV : ValueOK n) (hd : d + n = 10) (hd0 : 0 <= d) (h : Rd b t p k w) (hlt : p < t.size) (ht : t.size <= 2000) (hk : k <= 200) :
  Calls Tryz.prog 61 #[.pointer (some ⟨b, 0, none⟩), .int .i64 d] w (ObjPost b t p k n w) := by
 have hbw := h.lt
 have HR : Hid (Rd b t p k w) := h
 have HV : Hid (ValueOK n) := hV
 clear h hV
 have HL : Hid (OInv b d w.heap.size (w.heap.size + 1 + 1 + 1) (w.heap.size + 1) w.heap.size (w.heap.size + 1 + 1 + 1 + 1) n [] k ((((w.alloc (.cells #[.pointer (some ⟨b, 0, none⟩)] 97)).alloc (.cells #[.int .i64 d] 3)).alloc (.cells #[] 86)).alloc (.cells #[.slice (some ⟨w.heap.size + 1 + 1, 0, none⟩) 0 0] 53))) := oinv_start b d n k w hbw
 go_enter Tryz.func61, Tryz.ntmps61
 go_wp2_with fail
 refine (row_object b t p k w.heap.size (w.heap.size + 1 + 1 + 1) (w.heap.size + 1) 125 [] w _ (oneField (value n)) (OInv b d w.heap.size (w.heap.size + 1 + 1 + 1) (w.heap.size + 1) w.heap.size (w.heap.size + 1 + 1 + 1 + 1) n) (OErr (w.heap.size + 1 + 1 + 1))
  ((((HR.out.alloc _).alloc _).alloc _).alloc _) hlt ht hk HL.out (((((G.refl b w).alloc _).alloc _).alloc _).alloc _) (by decide)
  (object_one n b t d _ _ _ w HV.out hd hd0 ht hbw (by omega) (by omega) (by omega) (by omega) (by omega))
  (fun s k w1 w2 hi hg => hi.kept hg hbw (by omega) (by omega) (by omega) (by omega)) (fun s k w1 hi => hi.err)).mono ?_
 rintro e w1 ⟨g1, h1⟩
 have HG1 : Hid (G b w w1) := g1
 clear g1 HL
 rcases h1 with ⟨er, hr, her, h100, rfl, he⟩ | ⟨s, k', q, hr, hpq, hq, hk2, rfl, hR, hI⟩
 ·obtain ⟨a, m, cap, hc⟩ := he
  have c2 := cell_of_one hc
  have HRw : Hid (row 125 (oneField (value n)) [] k (rest t p) = .error er) := hr
  clear hr hc
  go_wp2_with fail
  go_ret2
  exact ⟨HG1.out, Or.inl ⟨er, _, HRw.out, her, h100, rfl, Or.inr ⟨_, _, rfl⟩⟩⟩
 ·obtain ⟨hsk, hri, g, cap, vs, hx, hrw, hvl, hvo, hgN, e0, e1, e2, hel⟩ := hI
  have c2 := cell_of_one hx.h2
  have HRw : Hid (row 125 (oneField (value n)) [] k (rest t p) = .ok (s, k', rest t q)) := hr
  have HR1 : Hid (Rd b t q k' w1) := hR
  have HS : Hid (St (fun c => c < w.heap.size) w1 (n + 1) (Sum.inr (Sum.inr s)) (.iface 53 (.slice (some ⟨g, 0, none⟩) s.length cap))) :=
   st_object (vs := vs) hvl hrw.caps.1 hrw.caps.2 (by omega) hrw.lt (row_fields hrw hvl).2 (fun i x u hx hu => (hel i x u hx hu).mono (fun c _ hc => Or.inl (by omega)))
  clear hr hx hrw hel hR hri hvo hvl
  go_wp2_with fail
  go_ret2
  exact ⟨HG1.out, Or.inr ⟨s, k', q, _, HRw.out, hpq, hq, hk2, rfl, ⟨_, _, rfl⟩, HR1.out, HS.out⟩⟩
theorem prefix_short {s p : ByteArray} (h : s.size < p.size) : p.data.toList.isPrefixOf s.data.toList = false := by
 rw [<- Bool.not_eq_true, List.isPrefixOf_iff_prefix]
 intro hp
 have := hp.length_le
 simp at this
 omega
theorem prefix_long {s p : ByteArray} (h : p.size <= s.size) : p.data.toList.isPrefixOf s.data.toList = ((s.extract 0 p.size).toList == p.toList) := by
 rw [Bool.eq_iff_iff, List.isPrefixOf_iff_prefix, beq_iff_eq, ByteArray.toList_eq, ByteArray.toList_eq, List.prefix_iff_eq_take]
 have e : (s.extract 0 p.size).data.toList = s.data.toList.take p.data.toList.length := by simp
 rw [e]
 exact eq_comm
set_option maxRecDepth 100000 in
set_option maxHeartbeats 1000000 in
theorem hasPrefix_any (s p : ByteArray) (w : World) (hs : s.size <= 1000000) (hp : p.size <= 1000000) :
  Calls Tryz.prog 81 #[.string s, .string p] w fun e w' => e = .returned (.bool (p.data.toList.isPrefixOf s.data.toList)) /\ w' = w := by
 by_cases h : p.size <= s.size
 ·have HE : Hid (p.data.toList.isPrefixOf s.data.toList = ((s.extract 0 p.size).toList == p.toList)) := prefix_long h
  have hI : decide ((p.size : Int) <= (s.size : Int)) = true := by simp; omega
  go_enter Tryz.func81, Tryz.ntmps81
  go_wp2
  go_ret
  rw [HE.out]
  exact ⟨rfl, rfl⟩
 ·have HE : Hid (p.data.toList.isPrefixOf s.data.toList = false) := prefix_short (by omega)
  have hI : decide ((p.size : Int) <= (s.size : Int)) = false := by simp; omega
  go_enter Tryz.func81, Tryz.ntmps81
  go_wp2
  go_ret
  rw [HE.out]
  exact ⟨rfl, rfl⟩
theorem extract_rest (t : ByteArray) (p : Nat) : (t.extract p t.size).data.toList = rest t p := by
 unfold rest
 simp
 rw [List.take_of_length_le (by simp)]
set_option maxRecDepth 100000 in
set_option maxHeartbeats 1000000 in
theorem word_yes (b : Nat) (t u : ByteArray) (p k : Nat) (w : World) (h : Rd b t p k w) (hp : p <= t.size) (ht : t.size <= 2000) (hu : u.size <= 2000) (hw : u.data.toList.isPrefixOf (rest t p) = true) :
  Calls Tryz.prog 58 #[.pointer (some ⟨b, 0, none⟩), .string u] w fun e w' => e = .returned (.int .i64 0) /\ G b w w' /\ Rd b t (p + u.size) k w' := by
 have h0 := h.text
 have h1 := h.place
 have HR : Hid (Rd b t p k w) := h
 have HW : Hid (u.data.toList.isPrefixOf (t.extract p t.size).data.toList = true) := by rw [extract_rest]; exact hw
 have hsz : (t.extract p t.size).size <= 1000000 := by simp; omega
 have HZ : Hid ((t.extract p t.size).size <= 1000000) := hsz
 have hI : (p : Int) <= (t.size : Int) := by omega
 have hw2 : u.data.toList.isPrefixOf (List.take (t.size - p) (List.drop p t.data.toList)) = true := by
  have e : List.take (t.size - p) (List.drop p t.data.toList) = rest t p := List.take_of_length_le (by simp)
  rw [e]; exact hw
 clear  h hw hsz
 go_enter Tryz.func58, Tryz.ntmps58
 go_wp2
 go_quiet (first | (go_at_call 81; exact Calls.quiet_of_same (hasPrefix_any _ _ _ (by exact HZ.out) (by omega))))
 rw [HW.out]
 have HR1 : Hid (Rd b t p k (w.drewN nq)) := HR.out.drewN nq
 have HG1 : Hid (G b w (w.drewN nq)) := (G.refl b w).drewN nq
 have c1 := HR1.out.place
 have c2 := HR1.out.free 1
 clear h0 h1
 generalize w.drewN nq = w1 at *
 go_wp2_with fail
 go_ret
 refine ⟨rfl, HG1.out.setCell 1 _, ?_⟩
 exact HR1.out.move (p + u.size)
set_option maxRecDepth 100000 in
set_option maxHeartbeats 1000000 in
theorem word_no (b : Nat) (t u : ByteArray) (p k : Nat) (w : World) (h : Rd b t p k w) (hp : p <= t.size) (ht : t.size <= 2000) (hu : u.size <= 2000) (hw : u.data.toList.isPrefixOf (rest t p) = false) :
  Calls Tryz.prog 58 #[.pointer (some ⟨b, 0, none⟩), .string u] w fun e w' => e = .returned (.int .i64 3) /\ G b w w' := by
 have h0 := h.text
 have h1 := h.place
 have HR : Hid (Rd b t p k w) := h
 have HW : Hid (u.data.toList.isPrefixOf (t.extract p t.size).data.toList = false) := by
  show u.data.toList.isPrefixOf (t.extract p t.size).data.toList = false
  rw [extract_rest]; exact hw
 have hsz : (t.extract p t.size).size <= 1000000 := by simp; omega
 have HZ : Hid ((t.extract p t.size).size <= 1000000) := hsz
 have hI : (p : Int) <= (t.size : Int) := by omega
 have hw2 : u.data.toList.isPrefixOf (List.take (t.size - p) (List.drop p t.data.toList)) = false := by
  have e : List.take (t.size - p) (List.drop p t.data.toList) = rest t p := List.take_of_length_le (by simp)
  rw [e]; exact hw
 clear  h hw hsz
 go_enter Tryz.func58, Tryz.ntmps58
 go_wp2
 go_quiet (first | (go_at_call 81; exact Calls.quiet_of_same (hasPrefix_any _ _ _ (by exact HZ.out) (by omega))))
 rw [HW.out]
 have HG1 : Hid (G b w (w.drewN nq)) := (G.refl b w).drewN nq
 clear h0 h1
 generalize w.drewN nq = w1 at *
 go_wp2_with fail
 go_ret
 exact ⟨rfl, HG1.out⟩
/-! Digits. -/
def digitsAt (t : ByteArray) (p : Nat) : Nat := p + ((rest t p).takeWhile isDigit).length
theorem isDigit_int (c : UInt8) : isDigit c = (decide ((48 : Int) <= (c.toNat : Int)) && decide ((c.toNat : Int) <= 57)) := by
 unfold isDigit
 congr 1
 ·rw [decide_eq_decide, UInt8.le_iff_toNat_le]
  show 48 <= c.toNat ↔ _
  omega
 ·rw [decide_eq_decide, UInt8.le_iff_toNat_le]
  show c.toNat <= 57 ↔ _
  omega
theorem digitsAt_step {t : ByteArray} {p : Nat} (h : isDigit (hd (rest t p)) = true) : p < t.size /\ digitsAt t p = digitsAt t (p + 1) := by
 have hlt : p < t.size := lt_of_hd (fun e => by rw [e] at h; exact absurd h (by decide))
 refine ⟨hlt, ?_⟩
 unfold digitsAt
 rw [hd_lt hlt] at h
 rw [rest_cons hlt, List.takeWhile_cons, if_pos h, List.length_cons]
 omega
theorem digitsAt_stop {t : ByteArray} {p : Nat} (h : isDigit (hd (rest t p)) = false) : digitsAt t p = p := by
 unfold digitsAt
 rcases Nat.lt_or_ge p t.size with h' | h'
 ·rw [hd_lt h'] at h
  rw [rest_cons h', List.takeWhile_cons, if_neg (by simp [h])]
  rfl
 ·rw [rest_nil h']
  rfl
theorem digitsAt_le {t : ByteArray} {p : Nat} (hp : p <= t.size) : digitsAt t p <= t.size := by
 unfold digitsAt
 have h1 := (List.takeWhile_sublist isDigit (l := rest t p)).length_le
 rw [rest_len] at h1
 omega
set_option maxRecDepth 100000 in
set_option maxHeartbeats 1000000 in
theorem digits_any (b : Nat) (t : ByteArray) (p k : Nat) (w : World) (h : Rd b t p k w) (hp : p <= t.size) (ht : t.size <= 2000) :
  Calls Tryz.prog 88 #[.pointer (some ⟨b, 0, none⟩)] w fun e w' => e = .returned (.string (t.extract p (digitsAt t p))) /\ G b w w' /\ Rd b t (digitsAt t p) k w' := by
 have h1 := h.place
 have HR : Hid (Rd b t p k w) := h
 clear h
 go_enter Tryz.func88, Tryz.ntmps88
 go_wp2_with fail
 go_loopw [8] (fun _ wr => ∃ q, p <= q /\ q <= t.size /\ digitsAt t q = digitsAt t p /\ Rd b t q k wr /\ G b w wr) (fun _ wr => t.size - placeOf b wr)
 case atStart => exact ⟨p, Nat.le_refl _, hp, rfl, HR.out, G.refl _ _⟩
 case round =>
  obtain ⟨q, hpq, hq, hs, hR, hG⟩ := hrel
  have HS : Hid (digitsAt t q = digitsAt t p) := hs
  have HR : Hid (Rd b t q k wr) := hR
  have HG : Hid (G b w wr) := hG
  clear hs hR hG h1
  cases hdg : isDigit (hd (rest t q)) with
  | true =>
   have hst := digitsAt_step hdg
   have hlt := hst.1
   have HST : Hid (digitsAt t q = digitsAt t (q + 1)) := hst.2
   rw [isDigit_int, Bool.and_eq_true, decide_eq_true_eq, decide_eq_true_eq] at hdg
   obtain ⟨hd1, hd2⟩ := hdg
   clear hst
   go_wp2_with fail
   refine (next_g b t q k _ HR.out hq ht).mono ?_
   rintro e w1 ⟨rfl, g1, r1⟩
   have HG1 : Hid (G b w w1) := HG.out.trans g1
   have HR1 : Hid (Rd b t q k w1) := r1
   clear g1 r1
   go_wp2_with fail
   refine (next_g b t q k _ HR1.out hq ht).mono ?_
   rintro e w2 ⟨rfl, g1, r1⟩
   have HG2 : Hid (G b w w2) := HG1.out.trans g1
   have HR2 : Hid (Rd b t q k w2) := r1
   have c1 := r1.place
   have c2 := r1.free 1
   clear g1 r1
   go_wp2_with fail
   go_roundw
   case rel => exact ⟨q + 1, by omega, by omega, by rw [<- HS.out, HST.out], HR2.out.move (q + 1), HG2.out.setCell 1 _⟩
   case measure => have e1 := (HR2.out.move (q + 1)).placeOf_eq; have e2 := HR.out.placeOf_eq; rw [e2]; have e3 : placeOf b (w2.setCell ⟨b, 1, none⟩ (.int .i64 ((q : Int) + 1))) = q + 1 := e1; rw [e3]; omega
  | false =>
   have HST : Hid (digitsAt t q = q) := digitsAt_stop hdg
   rw [isDigit_int] at hdg
   by_cases hd1 : (48 : Int) <= ((hd (rest t q)).toNat : Int)
   ·have hd2 : ¬ ((hd (rest t q)).toNat : Int) <= 57 := by
     intro h2
     simp [hd1, h2] at hdg
    clear hdg
    go_wp2_with fail
    refine (next_g b t q k _ HR.out hq ht).mono ?_
    rintro e w1 ⟨rfl, g1, r1⟩
    have HG1 : Hid (G b w w1) := HG.out.trans g1
    have HR1 : Hid (Rd b t q k w1) := r1
    clear g1 r1
    go_wp2_with fail
    refine (next_g b t q k _ HR1.out hq ht).mono ?_
    rintro e w2 ⟨rfl, g1, r1⟩
    have HG2 : Hid (G b w w2) := HG1.out.trans g1
    have HR2 : Hid (Rd b t q k w2) := r1
    have c0 := r1.text
    have c1 := r1.place
    clear g1 r1
    go_wp2_with fail
    go_quiet (fail)
    go_wp2
    go_ret
    refine ⟨?_, HG2.out.drewN _, ?_⟩
    ·rw [<- HS.out, HST.out]; rfl
    ·rw [<- HS.out, HST.out]; exact HR2.out.drewN _
   ·have hd1' : decide ((48 : Int) <= ((hd (rest t q)).toNat : Int)) = false := decide_eq_false hd1
    clear hdg hd1
    go_wp2_with fail
    refine (next_g b t q k _ HR.out hq ht).mono ?_
    rintro e w2 ⟨rfl, g1, r1⟩
    have HG2 : Hid (G b w w2) := HG.out.trans g1
    have HR2 : Hid (Rd b t q k w2) := r1
    have c0 := r1.text
    have c1 := r1.place
    clear g1 r1
    go_wp2_with fail
    go_quiet (fail)
    go_wp2
    go_ret
    refine ⟨?_, HG2.out.drewN _, ?_⟩
    ·rw [<- HS.out, HST.out]; rfl
    ·rw [<- HS.out, HST.out]; exact HR2.out.drewN _
theorem digits_list (t : ByteArray) (p : Nat) (hp : p <= t.size) : (t.extract p (digitsAt t p)).data.toList = (rest t p).takeWhile isDigit := by
 have h1 : (t.extract p (digitsAt t p)).data.toList = (rest t p).take (digitsAt t p - p) := by
  unfold rest
  simp
 rw [h1]
 have h2 : digitsAt t p - p = ((rest t p).takeWhile isDigit).length := by unfold digitsAt; omega
 rw [h2]
 exact (List.prefix_iff_eq_take.1 (List.takeWhile_prefix isDigit)).symm
theorem digits_rest (t : ByteArray) (p : Nat) : (rest t p).dropWhile isDigit = rest t (digitsAt t p) := by
 have h := List.takeWhile_append_dropWhile (p := isDigit) (l := rest t p)
 have h2 : rest t (digitsAt t p) = (rest t p).drop ((rest t p).takeWhile isDigit).length := by
  unfold digitsAt rest
  rw [List.drop_drop]
 rw [h2]
 have h3 : (rest t p).drop ((rest t p).takeWhile isDigit).length = ((rest t p).takeWhile isDigit ++ (rest t p).dropWhile isDigit).drop ((rest t p).takeWhile isDigit).length := by rw [h]
 rw [h3, List.drop_left]
theorem takeWhile_digits (r : Bs) : ∀ c ∈ r.takeWhile isDigit, isDigit c = true := fun c hc => by
 have := List.all_takeWhile (p := isDigit) (l := r)
 rw [List.all_eq_true] at this
 exact this c hc
def signAt (t : ByteArray) (p : Nat) : Nat := if hd (rest t p) = 45 then p + 1 else p
theorem sign_rest (t : ByteArray) (p : Nat) : (if (hd (rest t p) == 45) = true then (rest t p).tail else rest t p) = rest t (signAt t p) := by
 unfold signAt
 by_cases h : hd (rest t p) = 45
 ·rw [if_pos h, if_pos (by simp [h]), rest_tail]
 ·rw [if_neg h, if_neg (by simp [h])]
theorem number_eq (t : ByteArray) (p : Nat) : number (rest t p) =
  (if (rest t (signAt t p)).takeWhile isDigit = [] then .error eSyntax
  else if hd ((rest t (signAt t p)).takeWhile isDigit) = 48 /\ ((hd (rest t p) == 45) = true ∨ 1 < ((rest t (signAt t p)).takeWhile isDigit).length) then .error eSyntax
  else if 18 < ((rest t (signAt t p)).takeWhile isDigit).length then .error eLarge
  else .ok (some (Sum.inr (Sum.inl (numVal (hd (rest t p) == 45) ((rest t (signAt t p)).takeWhile isDigit)))), rest t (digitsAt t (signAt t p)))) := by
 unfold number
 simp only []
 rw [sign_rest, digits_rest]
theorem hd_data {D : ByteArray} {ds : Bs} (h : D.data.toList = ds) (h0 : 0 < D.size) : hd ds = D[0] := by
 have h' : 0 < D.data.toList.length := by simpa using h0
 have e : D.data.toList = D[0] :: D.data.toList.tail := by
  cases hD : D.data.toList with
  | nil => rw [hD] at h'; simp at h'
  | cons c r =>
   have : D.data.toList[0] = D[0] := rfl
   simp only [hD] at this
   rw [<- this]
   rfl
 rw [<- h, e]
 rfl
theorem number_text (t : ByteArray) (p : Nat) (hp : p <= t.size) : (t.extract p (digitsAt t (signAt t p))).data.toList = (if hd (rest t p) == 45 then [45] else []) ++ (rest t (signAt t p)).takeWhile isDigit := by
 have h1 : ∀ q, (t.extract p q).data.toList = (rest t p).take (q - p) := by
  intro q
  unfold rest
  simp
 rw [h1]
 by_cases h : hd (rest t p) = 45
 ·have hlt : p < t.size := lt_of_hd (by rw [h]; decide)
  have e : signAt t p = p + 1 := by unfold signAt; rw [if_pos h]
  rw [e, if_pos (by simp [h])]
  have h2 : digitsAt t (p + 1) - p = ((rest t (p + 1)).takeWhile isDigit).length + 1 := by unfold digitsAt; omega
  rw [h2, rest_cons hlt, List.take_succ_cons]
  rw [hd_lt hlt] at h
  rw [h, <- List.prefix_iff_eq_take.1 (List.takeWhile_prefix isDigit)]
  rfl
 ·have e : signAt t p = p := by unfold signAt; rw [if_neg h]
  rw [e, if_neg (by simp [h])]
  have h2 : digitsAt t p - p = ((rest t p).takeWhile isDigit).length := by unfold digitsAt; omega
  rw [h2, <- List.prefix_iff_eq_take.1 (List.takeWhile_prefix isDigit)]
  rfl
def NumPost (b : Nat) (t : ByteArray) (p k : Nat) (w : World) (e : Ending) (w' : World) : Prop :=
 G b w w' /\ ((∃ er : Nat, number (rest t p) = .error er /\ er ≠ 0 /\ er < 100 /\ e = .returned (.tuple #[.nilIface, .int .i64 er])) ∨
  ∃ l q, number (rest t p) = .ok (l, rest t q) /\ p < q /\ q <= t.size /\ e = .returned (.tuple #[leafV l, .int .i64 0]) /\ Rd b t q k w')
theorem bytesWorld_grown (w : World) (e : TypeId) (x : ByteArray) (row : Option Nat) : w.grownBy (Lib.bytesWorld w e x) row := by
 refine ⟨?_, ?_, ?_, by rw [Lib.bytesWorld_size]; omega, fun k hk _ => Lib.bytesWorld_at_old w e x k hk⟩
 all_goals
  unfold Lib.bytesWorld World.freeze
  split <;> rfl
theorem num_world {b : Nat} {t : ByteArray} {q k : Nat} {w w2 w3 : World} {e : TypeId} (hG : G b w w2) (hR : Rd b t q k w2) (h : w3 = w2.drew ∨ ∃ x, w3 = Lib.bytesWorld w2.drew e x) : G b w w3 /\ Rd b t q k w3 := by
 rcases h with rfl | ⟨x, rfl⟩
 ·exact ⟨hG.drew, hR.drew⟩
 ·exact ⟨hG.drew.trans (bytesWorld_grown _ _ _ _), (hR.drew).kept (bytesWorld_grown _ _ _ none) (fun e => by cases e)⟩
set_option maxRecDepth 100000 in
set_option maxHeartbeats 4000000 in
theorem number_below (b : Nat) (t : ByteArray) (p k : Nat) (w : World) (h : Rd b t p k w) (hp : p <= t.size) (ht : t.size <= 2000) (hc : hd (rest t p) = 45) :
  Calls Tryz.prog 62 #[.pointer (some ⟨b, 0, none⟩)] w (NumPost b t p k w) := by
 have hcb : (hd (rest t p) == 45) = true := by rw [hc]; rfl
 have hs : signAt t p = p + 1 := by unfold signAt; rw [if_pos hc]
 have hlt : p < t.size := lt_of_hd (by rw [hc]; decide)
 have hsp : signAt t p <= t.size := by rw [hs]; omega
 have hpl := h.place
 have hle := digitsAt_le hsp
 have hge : signAt t p <= digitsAt t (signAt t p) := by unfold digitsAt; omega
 have hDl := digits_list t (signAt t p) hsp
 have hDs : (t.extract (signAt t p) (digitsAt t (signAt t p))).size = ((rest t (signAt t p)).takeWhile isDigit).length := by
  rw [<- hDl, Array.length_toList]; rfl
 have hTx := number_text t p hp
 have hdig := takeWhile_digits (rest t (signAt t p))
 have HN : Hid (number (rest t p) = _) := number_eq t p
 rw [hcb] at HN hTx
 have hdA : digitsAt t (signAt t p) = signAt t p + ((rest t (signAt t p)).takeWhile isDigit).length := rfl
 have HR : Hid (Rd b t p k w) := h
 have HC : Hid (hd (rest t p) = 45) := hc
 have HS : Hid (signAt t p = p + 1) := hs
 have hsge : p <= signAt t p := by rw [hs]; omega
 generalize hds : (rest t (signAt t p)).takeWhile isDigit = ds at *
 generalize hQ : digitsAt t (signAt t p) = q at *
 have HQ : Hid (digitsAt t (signAt t p) = q) := hQ
 have HDL : Hid ((t.extract (signAt t p) q).data.toList = ds) := hDl
 have HDS : Hid ((t.extract (signAt t p) q).size = ds.length) := hDs
 have HTX : Hid ((t.extract p q).data.toList = (if true = true then [45] else []) ++ ds) := hTx
 have HDG : Hid (∀ c ∈ ds, isDigit c = true) := hdig
 have HDA : Hid (q = signAt t p + ds.length) := hdA
 clear h hc hcb hs hds hQ hDl hDs hTx hdig hdA
 go_enter Tryz.func62, Tryz.ntmps62
 go_wp2_with fail
 refine (take_yes b t p k 45 _ HR.out ht hlt HC.out).mono ?_
 rintro e w1 ⟨rfl, g1, r1⟩
 have HG1 : Hid (G b w w1) := g1
 have HR1 : Hid (Rd b t (signAt t p) k w1) := by rw [HS.out]; exact r1
 clear g1 r1 hpl
 go_wp2_with fail
 refine (digits_any b t (signAt t p) k _ HR1.out hsp ht).mono ?_
 rintro e w2 ⟨rfl, g1, r1⟩
 rw [HQ.out] at r1 ⊢
 have HG2 : Hid (G b w w2) := HG1.out.trans g1
 have HR2 : Hid (Rd b t q k w2) := r1
 have c0 := r1.text
 have c1 := r1.place
 clear g1 r1
 generalize hD : t.extract (signAt t p) q = D at *
 have HD : Hid (t.extract (signAt t p) q = D) := hD
 clear hD
 by_cases hnil : ds = []
 ·have hb : (D.toList == []) = true := by rw [ByteArray.toList_eq, HDL.out, hnil]; rfl
  go_wp2_with fail
  go_ret2
  exact ⟨HG2.out, Or.inl ⟨3, by rw [HN.out, if_pos hnil], by decide, by decide, rfl⟩⟩
 have hb : (D.toList == []) = false := by rw [ByteArray.toList_eq, HDL.out]; simpa using hnil
 have HNil : Hid (ds ≠ []) := hnil
 have h0 : 0 < D.size := by have := HDS.out; have := List.length_pos_iff.2 hnil; omega
 have HH : Hid (hd ds = D[0]) := hd_data HDL.out h0
 have h0' : (0 : Int) < (D.size : Int) := by omega
 clear hnil
 by_cases hz : D[0] = 48
 ·have hzb : ((D[0].toNat : Int) == 48) = true := by rw [hz]; rfl
  have HZ : Hid (D[0] = 48) := hz
  clear hz
  go_wp2_with fail
  go_ret2
  exact ⟨HG2.out, Or.inl ⟨3, by rw [HN.out, if_neg HNil.out, if_pos ⟨by rw [HH.out, HZ.out], Or.inl trivial⟩], by decide, by decide, rfl⟩⟩
 have hzb : ((D[0].toNat : Int) == 48) = false := ne_bool 48 (by decide) hz
 have HZ : Hid (¬ (hd ds = 48 /\ (true = true ∨ 1 < ds.length))) := fun e => hz (by rw [<- HH.out]; exact e.1)
 clear hz
 by_cases h18 : (18 : Int) < (D.size : Int)
 ·go_wp2_with fail
  go_ret2
  exact ⟨HG2.out, Or.inl ⟨2, by rw [HN.out, if_neg HNil.out, if_neg (by have := HH.out; have := HZ.out; exact HZ.out), if_pos (by have := HDS.out; omega)], by decide, by decide, rfl⟩⟩
 have HP : Hid (Lib.parseIntB 64 (t.extract p q).data.toList = .ok (numVal true ds)) := by
  show Lib.parseIntB 64 (t.extract p q).data.toList = _
  rw [HTX.out]
  exact parse_ok true ds HDG.out HNil.out (by have := HDS.out; omega)
 have hxs : (t.extract p q).size <= 9223372036854775806 := by simp; omega
 have HX : Hid ((t.extract p q).size <= 9223372036854775806) := hxs
 have hI1 : (p : Int) <= (q : Int) := by omega
 have hI2 : (q : Int) <= (t.size : Int) := by omega
 clear hxs
 go_wp2_with fail
 go_region_with (first | (go_at_call 89; refine (Tryz.strconv_ParseInt_10_at64_ok _ (by exact HX.out) _ (by exact HP.out) _).mono ?_; rintro e w3 ⟨rfl, hw3⟩))
 all_goals
  obtain ⟨g3, r3⟩ := num_world HG2.out HR2.out hw3
  have HG3 : Hid (G b w w3) := g3
  have HR3 : Hid (Rd b t q k w3) := r3
  clear hw3 g3 r3
  go_wp2_with fail
  go_ret2
  refine ⟨HG3.out, Or.inr ⟨some (Sum.inr (Sum.inl (numVal true ds))), q, ?_, ?_, hle, rfl, HR3.out⟩⟩
  ·rw [HN.out, if_neg HNil.out, if_neg HZ.out, if_neg (by have := HDS.out; omega)]
  ·have h1 := HDA.out
   have h2 := List.length_pos_iff.2 HNil.out
   omega

set_option maxRecDepth 100000 in
set_option maxHeartbeats 4000000 in
theorem number_plain (b : Nat) (t : ByteArray) (p k : Nat) (w : World) (h : Rd b t p k w) (hp : p <= t.size) (ht : t.size <= 2000) (hc : hd (rest t p) ≠ 45) :
  Calls Tryz.prog 62 #[.pointer (some ⟨b, 0, none⟩)] w (NumPost b t p k w) := by
 have hcb : (hd (rest t p) == 45) = false := beq_eq_false_iff_ne.2 hc
 have hs : signAt t p = p := by unfold signAt; rw [if_neg hc]
 have hsp : signAt t p <= t.size := by rw [hs]; omega
 have hpl := h.place
 have hle := digitsAt_le hsp
 have hge : signAt t p <= digitsAt t (signAt t p) := by unfold digitsAt; omega
 have hDl := digits_list t (signAt t p) hsp
 have hDs : (t.extract (signAt t p) (digitsAt t (signAt t p))).size = ((rest t (signAt t p)).takeWhile isDigit).length := by
  rw [<- hDl, Array.length_toList]; rfl
 have hTx := number_text t p hp
 have hdig := takeWhile_digits (rest t (signAt t p))
 have HN : Hid (number (rest t p) = _) := number_eq t p
 rw [hcb] at HN hTx
 have hdA : digitsAt t (signAt t p) = signAt t p + ((rest t (signAt t p)).takeWhile isDigit).length := rfl
 have HR : Hid (Rd b t p k w) := h
 have HC : Hid (hd (rest t p) ≠ 45) := hc
 have HS : Hid (signAt t p = p) := hs
 have hsge : p <= signAt t p := by rw [hs]; omega
 generalize hds : (rest t (signAt t p)).takeWhile isDigit = ds at *
 generalize hQ : digitsAt t (signAt t p) = q at *
 have HQ : Hid (digitsAt t (signAt t p) = q) := hQ
 have HDL : Hid ((t.extract (signAt t p) q).data.toList = ds) := hDl
 have HDS : Hid ((t.extract (signAt t p) q).size = ds.length) := hDs
 have HTX : Hid ((t.extract p q).data.toList = (if false = true then [45] else []) ++ ds) := hTx
 have HDG : Hid (∀ c ∈ ds, isDigit c = true) := hdig
 have HDA : Hid (q = signAt t p + ds.length) := hdA
 clear h hc hcb hs hds hQ hDl hDs hTx hdig hdA
 go_enter Tryz.func62, Tryz.ntmps62
 go_wp2_with fail
 refine (take_no b t p k 45 _ HR.out hp ht HC.out).mono ?_
 rintro e w1 ⟨rfl, g1, r1⟩
 have HG1 : Hid (G b w w1) := g1
 have HR1 : Hid (Rd b t (signAt t p) k w1) := by rw [HS.out]; exact r1
 clear g1 r1 hpl
 go_wp2_with fail
 refine (digits_any b t (signAt t p) k _ HR1.out hsp ht).mono ?_
 rintro e w2 ⟨rfl, g1, r1⟩
 rw [HQ.out] at r1 ⊢
 have HG2 : Hid (G b w w2) := HG1.out.trans g1
 have HR2 : Hid (Rd b t q k w2) := r1
 have c0 := r1.text
 have c1 := r1.place
 clear g1 r1
 generalize hD : t.extract (signAt t p) q = D at *
 have HD : Hid (t.extract (signAt t p) q = D) := hD
 clear hD
 by_cases hnil : ds = []
 ·have hb : (D.toList == []) = true := by rw [ByteArray.toList_eq, HDL.out, hnil]; rfl
  go_wp2_with fail
  go_ret2
  exact ⟨HG2.out, Or.inl ⟨3, by rw [HN.out, if_pos hnil], by decide, by decide, rfl⟩⟩
 have hb : (D.toList == []) = false := by rw [ByteArray.toList_eq, HDL.out]; simpa using hnil
 have HNil : Hid (ds ≠ []) := hnil
 have h0 : 0 < D.size := by have := HDS.out; have := List.length_pos_iff.2 hnil; omega
 have HH : Hid (hd ds = D[0]) := hd_data HDL.out h0
 have h0' : (0 : Int) < (D.size : Int) := by omega
 clear hnil
 by_cases hz : D[0] = 48
 ·have hzb : ((D[0].toNat : Int) == 48) = true := by rw [hz]; rfl
  have HZ0 : Hid (D[0] = 48) := hz
  clear hz
  by_cases h1 : (1 : Int) < (D.size : Int)
  ·go_wp2_with fail
   go_ret2
   exact ⟨HG2.out, Or.inl ⟨3, by rw [HN.out, if_neg HNil.out, if_pos ⟨by rw [HH.out, HZ0.out], Or.inr (by have := HDS.out; omega)⟩], by decide, by decide, rfl⟩⟩
  have HZ : Hid (¬ (hd ds = 48 /\ (false = true ∨ 1 < ds.length))) := by
   show ¬ (hd ds = 48 /\ (false = true ∨ 1 < ds.length))
   intro e
   rcases e.2 with h | h
   ·cases h
   ·have := HDS.out
    omega
  have h18 : ¬ (18 : Int) < (D.size : Int) := by omega
  have HP : Hid (Lib.parseIntB 64 (t.extract p q).data.toList = .ok (numVal false ds)) := by
   show Lib.parseIntB 64 (t.extract p q).data.toList = _
   rw [HTX.out]
   exact parse_ok false ds HDG.out HNil.out (by have := HDS.out; omega)
  have hxs : (t.extract p q).size <= 9223372036854775806 := by simp; omega
  have HX : Hid ((t.extract p q).size <= 9223372036854775806) := hxs
  have hI1 : (p : Int) <= (q : Int) := by omega
  have hI2 : (q : Int) <= (t.size : Int) := by omega
  clear hxs
  go_wp2_with fail
  go_region_with (first | (go_at_call 89; refine (Tryz.strconv_ParseInt_10_at64_ok _ (by exact HX.out) _ (by exact HP.out) _).mono ?_; rintro e w3 ⟨rfl, hw3⟩))
  all_goals
   obtain ⟨g3, r3⟩ := num_world HG2.out HR2.out hw3
   have HG3 : Hid (G b w w3) := g3
   have HR3 : Hid (Rd b t q k w3) := r3
   clear hw3 g3 r3
   go_wp2_with fail
   go_ret2
   refine ⟨HG3.out, Or.inr ⟨some (Sum.inr (Sum.inl (numVal false ds))), q, ?_, ?_, hle, rfl, HR3.out⟩⟩
   ·rw [HN.out, if_neg HNil.out, if_neg HZ.out, if_neg (by have := HDS.out; omega)]
   ·have h1 := HDA.out
    have h2 := List.length_pos_iff.2 HNil.out
    omega
 have hzb : ((D[0].toNat : Int) == 48) = false := ne_bool 48 (by decide) hz
 have HZ : Hid (¬ (hd ds = 48 /\ (false = true ∨ 1 < ds.length))) := fun e => hz (by rw [<- HH.out]; exact e.1)
 clear hz
 by_cases h18 : (18 : Int) < (D.size : Int)
 ·go_wp2_with fail
  go_ret2
  exact ⟨HG2.out, Or.inl ⟨2, by rw [HN.out, if_neg HNil.out, if_neg (by have := HH.out; have := HZ.out; exact HZ.out), if_pos (by have := HDS.out; omega)], by decide, by decide, rfl⟩⟩
 have HP : Hid (Lib.parseIntB 64 (t.extract p q).data.toList = .ok (numVal false ds)) := by
  show Lib.parseIntB 64 (t.extract p q).data.toList = _
  rw [HTX.out]
  exact parse_ok false ds HDG.out HNil.out (by have := HDS.out; omega)
 have hxs : (t.extract p q).size <= 9223372036854775806 := by simp; omega
 have HX : Hid ((t.extract p q).size <= 9223372036854775806) := hxs
 have hI1 : (p : Int) <= (q : Int) := by omega
 have hI2 : (q : Int) <= (t.size : Int) := by omega
 clear hxs
 go_wp2_with fail
 go_region_with (first | (go_at_call 89; refine (Tryz.strconv_ParseInt_10_at64_ok _ (by exact HX.out) _ (by exact HP.out) _).mono ?_; rintro e w3 ⟨rfl, hw3⟩))
 all_goals
  obtain ⟨g3, r3⟩ := num_world HG2.out HR2.out hw3
  have HG3 : Hid (G b w w3) := g3
  have HR3 : Hid (Rd b t q k w3) := r3
  clear hw3 g3 r3
  go_wp2_with fail
  go_ret2
  refine ⟨HG3.out, Or.inr ⟨some (Sum.inr (Sum.inl (numVal false ds))), q, ?_, ?_, hle, rfl, HR3.out⟩⟩
  ·rw [HN.out, if_neg HNil.out, if_neg HZ.out, if_neg (by have := HDS.out; omega)]
  ·have h1 := HDA.out
   have h2 := List.length_pos_iff.2 HNil.out
   omega

theorem number_any (b : Nat) (t : ByteArray) (p k : Nat) (w : World) (h : Rd b t p k w) (hp : p <= t.size) (ht : t.size <= 2000) :
  Calls Tryz.prog 62 #[.pointer (some ⟨b, 0, none⟩)] w (NumPost b t p k w) := by
 by_cases hc : hd (rest t p) = 45
 ·exact number_below b t p k w h hp ht hc
 ·exact number_plain b t p k w h hp ht hc
end Go.Proofs.YtjcdklbimaclkaaGreatDoor
