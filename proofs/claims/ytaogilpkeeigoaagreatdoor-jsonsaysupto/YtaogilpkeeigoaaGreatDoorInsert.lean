/- Contract of slices.Insert over this translation, at an object's fields and one value. -/
import Derived.Test.YtaogilpkeeigoaaGreatDoorRepr
import Derived.Test.YtaogilpkeeigoaaGreatDoorListPlain
import Derived.WalkKit
import Derived.WalkSpells
import Derived.Laws.CopyRow
import Derived.Laws.OwnMore
import Derived.ArgAppend
import Derived.Lib.AppendZerosOnto
import Derived.Lib.Overlaps
import Derived.Deep.RegionLaw
namespace Go.Proofs.YtaogilpkeeigoaaGreatDoor
open Go.RowKit
set_option linter.unusedVariables false
set_option linter.unusedSimpArgs false
theorem info_field : (Tryz.prog.info? 87).map (fun i => (i.zero, i.size, i.bytes)) = some (some (.agg #[.string ⟨#[]⟩, .nilIface]), 2, 32) := by kernel_rfl
section
variable {P : Program}
/-- a copy whose run is known -/
theorem wpList_copy_eq (w : World) {ops : Array Oper} {rest : List Oper} {o : Oper} {a : Act} {Q : Exit → Act → World → Prop} (hgd : o.guard = none) (d s : Operand) (t t' : TypeId)
    (ho : o.op = .call { callee := .builtin .copy, args := #[d, s], argTypes := #[t, t'] }) (v u : Value) (hd : a.eval d = v) (hs : a.eval s = u) {v' : Value} {w' : World}
    (hr : (Builtin.copy_ #[t, t'] o.type #[v, u]).run P w = .ok v' w') (h : wpList P ops Q rest (a.put o.dst v') w') : wpList P ops Q (o :: rest) a w := by
  refine wpList_plain hgd fun K hK => ?_
  unfold Oper.wp
  simp [execOp, ho, resolve, invoke, builtin, hd, hs, hr, Result.andThen]
  exact hK _ _ h
theorem step_copy_eq {ops : Array Oper} {o : Oper} {a : Act} {w : World} {K : Act → World → Prop} {Q : Exit → Act → World → Prop} {E : Prop} (hgd : o.guard = none) (d s : Operand) (t t' : TypeId)
    (ho : o.op = .call { callee := .builtin .copy, args := #[d, s], argTypes := #[t, t'] }) (v u : Value) (hd : a.eval d = v) (hs : a.eval s = u) {v' : Value} {w' : World}
    (hr : (Builtin.copy_ #[t, t'] o.type #[v, u]).run P w = .ok v' w') (h : K (a.put o.dst v') w') :
    if Region.wanted o (yielded ops a.tmps) = true then Oper.wp P o a w K Q else E := by
  rw [if_pos (by simp [Region.wanted, hgd])]
  unfold Oper.wp
  simp [execOp, ho, resolve, invoke, builtin, hd, hs, hr, Result.andThen]
  exact h
/-- a copy of elements of two cells into a row that is known whole -/
theorem run_copy_two (w : World) (dT sT ty elem : TypeId) (g o dLen dCap : Nat) (a : Addr) (sLen sCap : Nat) (cur : Array Value) (t : TypeId) (cs : List Value)
    (hu : P.underlying dT = some (.slice elem)) (hs : (P.info? elem).map (·.size) = some 2)
    (hg : w.heap[g]? = some (.cells cur t (0, 0))) (hn : cs.length = Nat.min sLen dLen * 2)
    (hsrc : ∀ j v, cs[j]? = some v → w.cell? (a.add j) = some v) (hfit : o + cs.length ≤ cur.size) (h1 : ∀ v ∈ cs, v.oneCell' = true) :
    (Builtin.copy_ #[dT, sT] ty #[.slice (some ⟨g, o, none⟩) dLen dCap, .slice (some a) sLen sCap]).run P w =
      .ok (goInt (Nat.min sLen dLen)) (w.setRow g (cur.toList.take o ++ cs ++ cur.toList.drop (o + cs.length)).toArray) := by
  have hl := run_loadCells_list (P := P) w a cs hsrc
  have hst := run_storeCells_at P g o t cs 0 cur w hg (by simpa using hfit) h1
  cases hq : P.info? elem with
  | none => simp [hq] at hs
  | some i =>
    have hi : i.size = 2 := by simpa [hq] using hs
    simp [Builtin.copy_, run_underlying hu, Builtin.lenOf, Builtin.firstCells, sizeOf, typeInfo, hq, hi, ← hn, hl, hst]
end
theorem append_tt (ty : TypeId) (a : Option Addr) (n c : Nat) (a' : Option Addr) (n' c' : Nat) (w : World) : (Builtin.append_ #[84, 83] ty #[.slice a n c, .slice a' n' c']).run Tryz.prog w = (Builtin.append_ #[84, 84] ty #[.slice a n c, .slice a' n' c']).run Tryz.prog w := by
  simp [Builtin.append_, run_underlying Tryz.underlying84, run_underlying Tryz.underlying83, Builtin.lenOf]
theorem setRow_grown (w : World) (g : Nat) (cs : Array Value) : w.grownBy (w.setRow g cs) (some g) :=
  ⟨rfl, rfl, rfl, by simp [World.setRow], fun k _ hk => setRow_other w g k cs (fun e => hk (by rw [e]))⟩
theorem drew_grown {w w' : World} {r : Option Nat} (h : w.drew.grownBy w' r) : w.grownBy w' r := ⟨h.os, h.tape, h.output, h.size, h.block⟩
theorem grown_trans {x y z : World} {r : Option Nat} (h : x.grownBy y r) (g : y.grownBy z r) : x.grownBy z r :=
  ⟨g.os.trans h.os, g.tape.trans h.tape, g.output.trans h.output, Nat.le_trans h.size g.size, fun k hk hb => (g.block k (Nat.lt_of_lt_of_le hk h.size) hb).trans (h.block k hk hb)⟩
def inserted (xs : List Value) (i : Nat) (x u : Value) : List Value := xs.take (i * 2) ++ (x :: u :: xs.drop (i * 2))
def InsPost (g n : Nat) (ys : List Value) (w : World) (e : Ending) (w' : World) : Prop :=
  ∃ g' cap', e = .returned (.slice (some ⟨g', 0, none⟩) (n + 1) cap') ∧ Row w' 87 2 g' (n + 1) cap' ys ∧ ((g' = g ∧ w.grownBy w' (some g)) ∨ (w.heap.size ≤ g' ∧ w.grownBy w' none))
/-- at the end -/
theorem insert_end (g n cap vb : Nat) (xs : List Value) (x u : Value) (w : World) (hr : Row w 87 2 g n cap xs) (hn : n ≤ 2000) (hvb : w.heap[vb]? = some (.cells #[x, u] 87 (0, 0))) (h1x : x.oneCell' = true) (h1u : u.oneCell' = true) :
    Calls Tryz.prog 83 #[.slice (some ⟨g, 0, none⟩) n cap, .int .i64 n, .slice (some ⟨vb, 0, none⟩) 1 1] w (InsPost g n (xs ++ [x, u]) w) := by
  obtain ⟨i0, hi, hz0, hz1, hz2⟩ := info_parts info_field
  have hnews : ∀ (j : Nat) (v : Value), [x, u][j]? = some v → w.cell? ((⟨vb, 0, none⟩ : Addr).add j) = some v := by
    intro j v hj
    rw [Addr.add_lit, Nat.zero_add, cell_of_row _ _ _ _ _ _ hvb]
    simpa using hj
  have hone : ∀ v ∈ [x, u], v.oneCell' = true := by
    intro v hv
    simp at hv
    rcases hv with rfl | rfl
    · exact h1x
    · exact h1u
  have hcaps := hr.caps
  by_cases hroom : n + 1 ≤ cap
  · obtain ⟨w', hrun, ho, hgr⟩ := run_append_fits (P := Tryz.prog) w g 84 84 87 i0 2 Tryz.underlying84 hi hz1 g n cap xs hr.owns ⟨vb, 0, none⟩ 1 1 [x, u] rfl hnews hone hroom
    have hrun2 := (append_tt 84 (some ⟨g, 0, none⟩) n cap (some ⟨vb, 0, none⟩) 1 1 w).trans hrun
    have HP : Hid (InsPost g n (xs ++ [x, u]) w (.returned (.slice (some ⟨g, 0, none⟩) (n + 1) cap)) w') := ⟨g, cap, rfl, Row.of_slice ho, Or.inl ⟨rfl, hgr⟩⟩
    clear hrun ho hgr hr hvb
    go_enter Tryz.func83, Tryz.ntmps83
    go_wp2_with (at_builtin; refine Lib.wpList_append_run _ rfl _ _ 84 83 rfl _ _ rfl rfl _ _ hrun2 ?_)
    go_ret
    exact HP.out
  · obtain ⟨v', w', hrun, ho, hgr⟩ := run_append_arg_grows (P := Tryz.prog) w 84 84 87 i0 _ 2 32 Tryz.underlying84 hi hz0 hz1 hz2 rfl (by decide) ⟨g, 0, none⟩ n cap xs hr.1
      (fun j v hj => by rw [Addr.add_lit, Nat.zero_add]; exact hr.cell j v hj) ⟨vb, 0, none⟩ 1 1 [x, u] rfl hnews (by omega) (by unfold maxLen; omega) (by omega)
    obtain ⟨g', cap', rfl, hg', hrow⟩ := Row.of_owns ho (by omega)
    have hrun2 := (append_tt 84 (some ⟨g, 0, none⟩) n cap (some ⟨vb, 0, none⟩) 1 1 w).trans hrun
    have HP : Hid (InsPost g n (xs ++ [x, u]) w (.returned (.slice (some ⟨g', 0, none⟩) (n + 1) cap')) w') := ⟨g', cap', rfl, hrow, Or.inr ⟨hg', hgr⟩⟩
    clear hrun ho hgr hr hvb hrow
    go_enter Tryz.func83, Tryz.ntmps83
    go_wp2_with (at_builtin; refine Lib.wpList_append_run _ rfl _ _ 84 83 rfl _ _ rfl rfl _ _ hrun2 ?_)
    go_ret
    exact HP.out
theorem overlaps_no (w : World) (g vb o lb cb : Nat) (cur cv : Array Value) (hg : w.heap[g]? = some (.cells cur 87 (0, 0))) (hv : w.heap[vb]? = some (.cells cv 87 (0, 0))) (hne : vb ≠ g) (h0 : cur.size ≠ 0) :
    Sem.run Tryz.prog (callFunc 111 #[.slice (some ⟨vb, 0, none⟩) 1 1, .slice (some ⟨g, o, none⟩) lb cb]) w = .ok (.value (.bool false)) w := by
  rw [run_callFunc_extern (e := Extern.SlicesOverlaps.overlaps #[83, 83] #[4]) Tryz.func111 (by kernel_rfl) (by kernel_rfl) (by kernel_rfl) (by kernel_rfl),
    Lib.run_overlaps_apart w 83 4 87 Tryz.underlying83 2 Tryz.sizeOf87 ⟨vb, 0, none⟩ ⟨g, o, none⟩ 1 1 lb cb hne 87 87 cv.size cur.size
      (by simp [World.shape?, hv]) (by simp [World.shape?, hg]) h0 (frozen_of_row _ _ _ _ _ hv) (frozen_of_row _ _ _ _ _ hv)]
  rfl
/-- the row behind both copies -/
theorem shift_list {cur xs : List Value} {n i : Nat} (x u : Value) (hx : xs.length = n * 2) (ht : cur.take (n * 2) = xs) (hc : (n + 1) * 2 ≤ cur.length) (hi : i < n) :
    ((cur.take ((i + 1) * 2) ++ xs.drop (i * 2) ++ cur.drop ((i + 1) * 2 + (xs.drop (i * 2)).length)).take (i * 2) ++ [x, u] ++ (cur.take ((i + 1) * 2) ++ xs.drop (i * 2) ++ cur.drop ((i + 1) * 2 + (xs.drop (i * 2)).length)).drop (i * 2 + [x, u].length)).take ((n + 1) * 2) = inserted xs i x u := by
  have hd : (xs.drop (i * 2)).length = n * 2 - i * 2 := by rw [List.length_drop, hx]
  have ha : (cur.take ((i + 1) * 2)).length = (i + 1) * 2 := by rw [List.length_take]; omega
  have e1 : (cur.take ((i + 1) * 2) ++ xs.drop (i * 2) ++ cur.drop ((i + 1) * 2 + (xs.drop (i * 2)).length)).take (i * 2) = xs.take (i * 2) := by
    rw [List.append_assoc, List.take_append_of_le_length (by omega), List.take_take, ← ht, List.take_take]
    congr 1
    omega
  have e2 : (cur.take ((i + 1) * 2) ++ xs.drop (i * 2) ++ cur.drop ((i + 1) * 2 + (xs.drop (i * 2)).length)).drop (i * 2 + [x, u].length) = xs.drop (i * 2) ++ cur.drop ((i + 1) * 2 + (xs.drop (i * 2)).length) := by
    rw [List.append_assoc]
    have : i * 2 + [x, u].length = (cur.take ((i + 1) * 2)).length := by rw [ha]; simp; omega
    rw [this, List.drop_left]
  rw [e1, e2]
  have hl : (xs.take (i * 2) ++ [x, u] ++ xs.drop (i * 2)).length = (n + 1) * 2 := by
    simp only [List.length_append, List.length_take, hd, List.length_cons, List.length_nil, hx]
    omega
  rw [← List.append_assoc, List.take_append_of_le_length (by omega), List.take_of_length_le (by omega)]
  unfold inserted
  simp
theorem grow_list {R0 xs : List Value} {n i : Nat} (x u : Value) (hx : xs.length = n * 2) (ht : R0.take (i * 2) = xs.take (i * 2)) (hc : (n + 1) * 2 ≤ R0.length) (hi : i < n) :
    ((R0.take (i * 2) ++ [x, u] ++ R0.drop (i * 2 + [x, u].length)).take ((i + 1) * 2) ++ xs.drop (i * 2) ++ (R0.take (i * 2) ++ [x, u] ++ R0.drop (i * 2 + [x, u].length)).drop ((i + 1) * 2 + (xs.drop (i * 2)).length)).take ((n + 1) * 2) = inserted xs i x u := by
  have hd : (xs.drop (i * 2)).length = n * 2 - i * 2 := by rw [List.length_drop, hx]
  have hl : (xs.take (i * 2)).length = i * 2 := by rw [List.length_take]; omega
  rw [ht]
  have e1 : (xs.take (i * 2) ++ [x, u] ++ R0.drop (i * 2 + [x, u].length)).take ((i + 1) * 2) = xs.take (i * 2) ++ [x, u] := by
    rw [List.take_append_of_le_length (by simp only [List.length_append, hl, List.length_cons, List.length_nil]; omega), List.take_of_length_le (by simp only [List.length_append, hl, List.length_cons, List.length_nil]; omega)]
  rw [e1, List.take_append_of_le_length (by simp only [List.length_append, hl, hd, List.length_cons, List.length_nil]; omega), List.take_of_length_le (by simp only [List.length_append, hl, hd, List.length_cons, List.length_nil]; omega)]
  unfold inserted
  simp
theorem setRow_size (w : World) (g : Nat) (cs : Array Value) : (w.setRow g cs).heap.size = w.heap.size := by simp [World.setRow]
set_option maxRecDepth 100000 in
set_option maxHeartbeats 2000000 in
theorem insert_shift (g n cap i vb : Nat) (xs : List Value) (x u : Value) (w : World) (hr : Row w 87 2 g n cap xs) (hn : n ≤ 2000) (hi : i < n) (hroom : n + 1 ≤ cap) (hvb : w.heap[vb]? = some (.cells #[x, u] 87 (0, 0))) (hvg : vb ≠ g) (h1x : x.oneCell' = true) (h1u : u.oneCell' = true) (h1s : ∀ v ∈ xs, v.oneCell' = true) :
    Calls Tryz.prog 83 #[.slice (some ⟨g, 0, none⟩) n cap, .int .i64 i, .slice (some ⟨vb, 0, none⟩) 1 1] w (InsPost g n (inserted xs i x u) w) := by
  obtain ⟨hxl, cur, hg, hnc, hcm, hcs, htk⟩ := hr
  unfold maxLen at hcm
  have hov := fun o lb cb => overlaps_no w g vb o lb cb cur _ hg hvb hvg (by omega)
  have hz2 : ¬ ((i : Int) = (n : Int)) := by omega
  have hb2 : ¬ (cap = i + 1) := by omega
  have hb4 : ¬ (cap = i) := by omega
  have HG : Hid (w.heap[g]? = some (.cells cur 87 (0, 0))) := hg
  have HV : Hid (w.heap[vb]? = some (.cells #[x, u] 87 (0, 0))) := hvb
  have HT : Hid (cur.toList.take (n * 2) = xs) := htk
  have hI1 : (i : Int) + 1 ≤ (n : Int) + 1 := by omega
  have hw1 : IntKind.i64.wrap ((i : Int) + 1) = (i : Int) + 1 := by rw [IntKind.wrap_i64]; omega
  have hb1 : (0 : Int) ≤ (i : Int) + 1 := by omega
  have htn : ((i : Int) + 1).toNat = i + 1 := by omega
  have hin : i ≤ n := by omega
  have hI2 : (i : Int) ≤ (n : Int) + 1 := by omega
  have hsz : (Tryz.prog.info? 87).map (·.size) = some 2 := by kernel_rfl
  have hdl : (xs.drop (i * 2)).length = (n - i) * 2 := by rw [List.length_drop, hxl]; omega
  obtain ⟨R1, hR1⟩ : ∃ R1 : Array Value, R1 = (cur.toList.take ((i + 1) * 2) ++ xs.drop (i * 2) ++ cur.toList.drop ((i + 1) * 2 + (xs.drop (i * 2)).length)).toArray := ⟨_, rfl⟩
  obtain ⟨m1, hm1⟩ : ∃ m1 : Nat, m1 = Nat.min (n + 1 - i) (n + 1 - (i + 1)) := ⟨_, rfl⟩
  obtain ⟨m2, hm2⟩ : ∃ m2 : Nat, m2 = Nat.min 1 (n + 1 - i) := ⟨_, rfl⟩
  have hm2' : m2 = 1 := by rw [hm2]; show min 1 (n + 1 - i) = 1; omega
  have hR1s : R1.size = cap * 2 := by
    rw [hR1]
    simp only [List.size_toArray, List.length_append, List.length_take, List.length_drop, Array.length_toList, hxl, hcs]
    omega
  obtain ⟨R2, hR2⟩ : ∃ R2 : Array Value, R2 = (R1.toList.take (i * 2) ++ [x, u] ++ R1.toList.drop (i * 2 + [x, u].length)).toArray := ⟨_, rfl⟩
  have hR2s : R2.size = cap * 2 := by
    rw [hR2]
    simp only [List.size_toArray, List.length_append, List.length_take, List.length_drop, Array.length_toList, hR1s, List.length_cons, List.length_nil]
    omega
  have hR2t : R2.toList.take ((n + 1) * 2) = inserted xs i x u := by
    rw [hR2, hR1]
    have := shift_list (cur := cur.toList) x u hxl htk (by rw [Array.length_toList]; omega) hi
    simpa using this
  have HC1 : Hid (∀ ty, (Builtin.copy_ #[84, 84] ty #[.slice (some ⟨g, (i + 1) * 2, none⟩) (n + 1 - (i + 1)) (cap - (i + 1)), .slice (some ⟨g, i * 2, none⟩) (n + 1 - i) (cap - i)]).run Tryz.prog w.drew = .ok (goInt m1) (w.drew.setRow g R1)) := fun ty => by
    rw [hR1, hm1]
    exact run_copy_two w.drew _ _ ty 87 g ((i + 1) * 2) (n + 1 - (i + 1)) _ ⟨g, i * 2, none⟩ (n + 1 - i) _ cur 87 (xs.drop (i * 2)) Tryz.underlying84 hsz hg
      (by rw [hdl]; congr 1; show n - i = min (n + 1 - i) (n + 1 - (i + 1)); omega)
      (fun j v hj => by
        rw [Addr.add_lit]
        have h2 : xs[i * 2 + j]? = some v := by rwa [List.getElem?_drop] at hj
        rw [← htk, List.getElem?_take] at h2
        split at h2
        · show w.cell? ⟨g, i * 2 + j, none⟩ = some v
          rw [cell_of_row _ _ _ _ _ _ hg]
          simpa using h2
        · cases h2)
      (by rw [hdl]; omega) (fun v hv => h1s v (List.mem_of_mem_drop hv))
  have hW1g : (w.drew.setRow g R1).heap[g]? = some (.cells R1 87 (0, 0)) := setRow_heap w.drew g cur R1 87 _ hg
  have hW1v : (w.drew.setRow g R1).heap[vb]? = some (.cells #[x, u] 87 (0, 0)) := (setRow_other w.drew g vb R1 hvg).trans hvb
  have HC2 : Hid (∀ (W : World) ty, W.heap[g]? = some (.cells R1 87 (0, 0)) → W.heap[vb]? = some (.cells #[x, u] 87 (0, 0)) → (Builtin.copy_ #[84, 83] ty #[.slice (some ⟨g, i * 2, none⟩) (n + 1 - i) (cap - i), .slice (some ⟨vb, 0, none⟩) 1 1]).run Tryz.prog W = .ok (goInt m2) (W.setRow g R2)) := fun W ty hwg hwv => by
    rw [hR2, hm2]
    exact run_copy_two W _ _ ty 87 g (i * 2) (n + 1 - i) _ ⟨vb, 0, none⟩ 1 _ R1 87 [x, u] Tryz.underlying84 hsz hwg
      (by rw [← hm2, hm2']; rfl)
      (fun j v hj => by
        rw [Addr.add_lit, Nat.zero_add, cell_of_row _ _ _ _ _ _ hwv]
        simpa using hj)
      (by rw [hR1s]; simp; omega) (fun v hv => by
        simp at hv
        rcases hv with rfl | rfl
        · exact h1x
        · exact h1u)
  have HW1g : Hid ((w.drew.setRow g R1).heap[g]? = some (.cells R1 87 (0, 0))) := hW1g
  have HW1v : Hid ((w.drew.setRow g R1).heap[vb]? = some (.cells #[x, u] 87 (0, 0))) := hW1v
  have HGr : Hid (w.grownBy (w.drew.setRow g R1) (some g)) := drew_grown (setRow_grown w.drew g R1)
  have hR2s' : Hid (R2.size = cap * 2) := hR2s
  have hR2t' : Hid (R2.toList.take ((n + 1) * 2) = inserted xs i x u) := hR2t
  have hil : Hid ((inserted xs i x u).length = (n + 1) * 2) := by
    show (inserted xs i x u).length = (n + 1) * 2
    rw [← hR2t, List.length_take, Array.length_toList, hR2s]
    omega
  clear hg hvb htk hW1g hW1v hR1 hR2 hm1 hm2 hm2' hR1s hR2s hR2t
  go_enter Tryz.func83, Tryz.ntmps83
  go_wp2_with (simp only [hov])
  clear hov
  go_region_law (refine step_copy_eq rfl _ _ 84 84 rfl (.slice (some ⟨g, (i + 1) * 2, none⟩) (n + 1 - (i + 1)) (cap - (i + 1))) (.slice (some ⟨g, i * 2, none⟩) (n + 1 - i) (cap - i)) (by simp [Act.eval, Act.put]) (by simp [Act.eval, Act.put]) (HC1.out _) ?_)
  generalize w.drew.setRow g R1 = W1 at *
  have hc2 := HC2.out W1 3 HW1g.out HW1v.out
  go_wp2_with fail
  go_ret
  exact ⟨g, cap, rfl, ⟨hil.out, R2, setRow_heap W1 g R1 R2 87 _ HW1g.out, hroom, by unfold maxLen; omega, hR2s'.out, hR2t'.out⟩, Or.inl ⟨rfl, grown_trans HGr.out (setRow_grown W1 g R2)⟩⟩
set_option maxRecDepth 100000 in
set_option maxHeartbeats 2000000 in
theorem insert_grow (g n cap i vb : Nat) (xs : List Value) (x u : Value) (w : World) (hr : Row w 87 2 g n cap xs) (hn : n ≤ 2000) (hi : i < n) (hroom : cap < n + 1) (hvb : w.heap[vb]? = some (.cells #[x, u] 87 (0, 0))) (hvg : vb ≠ g) (h1x : x.oneCell' = true) (h1u : u.oneCell' = true) (h1s : ∀ v ∈ xs, v.oneCell' = true) :
    Calls Tryz.prog 83 #[.slice (some ⟨g, 0, none⟩) n cap, .int .i64 i, .slice (some ⟨vb, 0, none⟩) 1 1] w (InsPost g n (inserted xs i x u) w) := by
  obtain ⟨hxl, cur, hg, hnc, hcm, hcs, htk⟩ := hr
  unfold maxLen at hcm
  obtain ⟨i0, hi0, hz0, hzs, hzb⟩ := info_parts info_field
  have hgw := lt_of_block hg
  have hvw := lt_of_block hvb
  have hsz : (Tryz.prog.info? 87).map (·.size) = some 2 := by kernel_rfl
  have hcell : ∀ (j : Nat) (v : Value), xs[j]? = some v → w.cell? ⟨g, j, none⟩ = some v := fun j v hj => by
    rw [← htk, List.getElem?_take] at hj
    split at hj
    · rw [cell_of_row _ _ _ _ _ _ hg]
      simpa using hj
    · cases hj
  have hold : (Builtin.firstCells i0.size i (.slice (some ⟨g, 0, none⟩) i cap)).run Tryz.prog w.drew = .ok (xs.take (i * 2)).toArray w.drew := by
    rw [hzs]
    exact run_firstCells_some w.drew 2 i ⟨g, 0, none⟩ i cap (xs.take (i * 2)) (by rw [List.length_take]; omega) (fun j v hj => by
      rw [Addr.add_lit, Nat.zero_add]
      rw [List.getElem?_take] at hj
      split at hj
      · exact hcell j v hj
      · cases hj)
  have hik : i + (n + 1 - i) = n + 1 := by omega
  have hkk : ((n + 1 - i : Nat) : Int) = (n : Int) + 1 - (i : Int) := by omega
  have hrz := fun ty => Lib.run_append_grow_zeros (P := Tryz.prog) w 84 3 ty 87 i0 _ .i64 .i64 Tryz.underlying84 Tryz.underlying3 hi0 hz0 (some ⟨g, 0, none⟩) i cap (xs.take (i * 2)) hold (n + 1 - i) (by omega) (by omega) (by omega) (by omega) (by rw [hzb]; omega) (by rw [hzb, hik]; exact growslice_fits hroom (by omega))
  rw [hik, hkk] at hrz
  obtain ⟨GC, hGC⟩ : ∃ GC : Nat, GC = grownCap w (n + 1) cap 87 := ⟨_, rfl⟩
  have hGn : n + 1 ≤ GC := by rw [hGC]; exact grownCap_ge w _ _ _
  have hGm : GC ≤ 9223372036854775807 := by
    have := grownCap_le_maxLen w (n + 1) cap 87 (by unfold maxLen; omega)
    rw [← hGC] at this
    unfold maxLen at this
    omega
  rw [← hGC] at hrz
  obtain ⟨R0, hR0⟩ : ∃ R0 : Array Value, R0 = (xs.take (i * 2)).toArray ++ Builtin.zeroCells (Value.agg #[.string ⟨#[]⟩, .nilIface]).cells (n + 1 - i) ++ Builtin.zeroCells (Value.agg #[.string ⟨#[]⟩, .nilIface]).cells (GC - (n + 1)) := ⟨_, rfl⟩
  rw [← hR0] at hrz
  have hR0s : R0.size = GC * 2 := by
    rw [hR0, Array.size_append, Array.size_append, size_zeroCells, size_zeroCells, List.size_toArray, List.length_take]
    show min (i * 2) xs.length + (n + 1 - i) * 2 + (GC - (n + 1)) * 2 = GC * 2
    omega
  have hR0t : R0.toList.take (i * 2) = xs.take (i * 2) := by
    rw [hR0]
    simp only [Array.toList_append, List.append_assoc]
    rw [List.take_append_of_le_length (by simp; omega), List.take_of_length_le (by simp; omega)]
  have hxt : (xs.take (i * 2)).length = i * 2 := by rw [List.length_take]; omega
  obtain ⟨R1, hR1⟩ : ∃ R1 : Array Value, R1 = (R0.toList.take (i * 2) ++ [x, u] ++ R0.toList.drop (i * 2 + [x, u].length)).toArray := ⟨_, rfl⟩
  have hR1s : R1.size = GC * 2 := by
    rw [hR1]
    simp only [List.size_toArray, List.length_append, List.length_take, List.length_drop, Array.length_toList, hR0s, List.length_cons, List.length_nil]
    omega
  obtain ⟨R2, hR2⟩ : ∃ R2 : Array Value, R2 = (R1.toList.take ((i + 1) * 2) ++ xs.drop (i * 2) ++ R1.toList.drop ((i + 1) * 2 + (xs.drop (i * 2)).length)).toArray := ⟨_, rfl⟩
  have hdl : (xs.drop (i * 2)).length = (n - i) * 2 := by rw [List.length_drop, hxl]; omega
  have hR2s : R2.size = GC * 2 := by
    rw [hR2]
    simp only [List.size_toArray, List.length_append, List.length_take, hdl, List.length_drop, Array.length_toList, hR1s, hxl]
    omega
  have hR2t : R2.toList.take ((n + 1) * 2) = inserted xs i x u := by
    rw [hR2, hR1]
    have := grow_list (R0 := R0.toList) x u hxl hR0t (by rw [Array.length_toList]; omega) hi
    simpa using this
  obtain ⟨m1, hm1⟩ : ∃ m1 : Nat, m1 = Nat.min 1 (n + 1 - i) := ⟨_, rfl⟩
  have hm1' : m1 = 1 := by rw [hm1]; show min 1 (n + 1 - i) = 1; omega
  obtain ⟨m2, hm2⟩ : ∃ m2 : Nat, m2 = Nat.min (n - i) (n + 1 - (i + 1)) := ⟨_, rfl⟩
  have hm2' : m2 = n - i := by rw [hm2]; show min (n - i) (n + 1 - (i + 1)) = n - i; omega
  have HCA : Hid (∀ (W : World) ty, W.heap[w.heap.size]? = some (.cells R0 87 (0, 0)) → W.heap[vb]? = some (.cells #[x, u] 87 (0, 0)) → (Builtin.copy_ #[84, 83] ty #[.slice (some ⟨w.heap.size, i * 2, none⟩) (n + 1 - i) (GC - i), .slice (some ⟨vb, 0, none⟩) 1 1]).run Tryz.prog W = .ok (goInt m1) (W.setRow w.heap.size R1)) := fun W ty hwg hwv => by
    rw [hR1, hm1]
    exact run_copy_two W _ _ ty 87 w.heap.size (i * 2) (n + 1 - i) _ ⟨vb, 0, none⟩ 1 _ R0 87 [x, u] Tryz.underlying84 hsz hwg
      (by rw [← hm1, hm1']; rfl)
      (fun j v hj => by
        rw [Addr.add_lit, Nat.zero_add, cell_of_row _ _ _ _ _ _ hwv]
        simpa using hj)
      (by rw [hR0s]; simp; omega) (fun v hv => by
        simp at hv
        rcases hv with rfl | rfl
        · exact h1x
        · exact h1u)
  have HCB : Hid (∀ (W : World) ty, W.heap[w.heap.size]? = some (.cells R1 87 (0, 0)) → W.heap[g]? = some (.cells cur 87 (0, 0)) → (Builtin.copy_ #[84, 84] ty #[.slice (some ⟨w.heap.size, (i + 1) * 2, none⟩) (n + 1 - (i + 1)) (GC - (i + 1)), .slice (some ⟨g, i * 2, none⟩) (n - i) (cap - i)]).run Tryz.prog W = .ok (goInt m2) (W.setRow w.heap.size R2)) := fun W ty hwg hwv => by
    rw [hR2, hm2]
    exact run_copy_two W _ _ ty 87 w.heap.size ((i + 1) * 2) (n + 1 - (i + 1)) _ ⟨g, i * 2, none⟩ (n - i) _ R1 87 (xs.drop (i * 2)) Tryz.underlying84 hsz hwg
      (by rw [hdl, ← hm2, hm2'])
      (fun j v hj => by
        rw [Addr.add_lit]
        have h2 : xs[i * 2 + j]? = some v := by rwa [List.getElem?_drop] at hj
        rw [← htk, List.getElem?_take] at h2
        split at h2
        · rw [cell_of_row _ _ _ _ _ _ hwv]
          simpa using h2
        · cases h2)
      (by rw [hdl, hR1s]; omega) (fun v hv => h1s v (List.mem_of_mem_drop hv))
  have hW1n : (w.alloc (.cells R0 87)).drew.heap[w.heap.size]? = some (.cells R0 87 (0, 0)) := heap_alloc_new w _
  have hW1o : ∀ c, c < w.heap.size → (w.alloc (.cells R0 87)).drew.heap[c]? = w.heap[c]? := fun c hc => Below.heap_alloc w _ c hc
  have HW1n : Hid ((w.alloc (.cells R0 87)).drew.heap[w.heap.size]? = some (.cells R0 87 (0, 0))) := hW1n
  have HW1v : Hid ((w.alloc (.cells R0 87)).drew.heap[vb]? = some (.cells #[x, u] 87 (0, 0))) := (hW1o vb hvw).trans hvb
  have HW1g : Hid ((w.alloc (.cells R0 87)).drew.heap[g]? = some (.cells cur 87 (0, 0))) := (hW1o g hgw).trans hg
  have HGr : Hid (w.grownBy (w.alloc (.cells R0 87)).drew (some w.heap.size)) := ⟨rfl, rfl, rfl, by show w.heap.size ≤ (w.alloc (.cells R0 87)).heap.size; simp, fun c hc _ => hW1o c hc⟩
  have hR2s' : Hid (R2.size = GC * 2) := hR2s
  have hR2t' : Hid (R2.toList.take ((n + 1) * 2) = inserted xs i x u) := hR2t
  have hil : Hid ((inserted xs i x u).length = (n + 1) * 2) := by
    show (inserted xs i x u).length = (n + 1) * 2
    rw [← hR2t, List.length_take, Array.length_toList, hR2s]
    omega
  have HRZ : Hid (∀ ty, (Builtin.append_ #[84, 3] ty #[.slice (some ⟨g, 0, none⟩) i cap, .int .i64 ((n : Int) + 1 - (i : Int))]).run Tryz.prog w = .ok (.slice (some ⟨w.heap.size, 0, none⟩) (n + 1) GC) (w.drew.alloc (.cells R0 87))) := hrz
  have hz2 : ¬ ((i : Int) = (n : Int)) := by omega
  have hz3 : (cap : Int) < (n : Int) + 1 := by omega
  have hb2 : ¬ (GC = i + 1) := by omega
  have hb4 : ¬ (GC = i) := by omega
  have hb5 : ¬ (cap = i) := by omega
  have hI1 : (i : Int) + 1 ≤ (n : Int) + 1 := by omega
  have hI2 : (i : Int) ≤ (n : Int) + 1 := by omega
  have hw1 : IntKind.i64.wrap ((i : Int) + 1) = (i : Int) + 1 := by rw [IntKind.wrap_i64]; omega
  have hb1 : (0 : Int) ≤ (i : Int) + 1 := by omega
  have htn : ((i : Int) + 1).toNat = i + 1 := by omega
  have hin : i ≤ n := by omega
  clear hg hvb htk hW1n hW1o hR0 hR1 hR2 hm1 hm2 hm1' hm2' hR0s hR1s hR2s hR2t hrz hcell hold hGC hR0t hxt hkk
  go_enter Tryz.func83, Tryz.ntmps83
  go_wp2_with (at_builtin; refine Lib.wpList_append_run _ rfl _ _ 84 3 rfl _ _ rfl rfl _ _ (HRZ.out _) ?_)
  generalize (w.alloc (.cells R0 87)).drew = W1 at *
  have hca := HCA.out W1 3 HW1n.out HW1v.out
  have HW2n : Hid ((W1.setRow w.heap.size R1).drew.heap[w.heap.size]? = some (.cells R1 87 (0, 0))) := setRow_heap W1 w.heap.size R0 R1 87 _ HW1n.out
  have HW2g : Hid ((W1.setRow w.heap.size R1).drew.heap[g]? = some (.cells cur 87 (0, 0))) := (setRow_other W1 w.heap.size g R1 (by omega)).trans HW1g.out
  have HGr2 : Hid (w.grownBy (W1.setRow w.heap.size R1).drew (some w.heap.size)) := by
    have h := grown_trans HGr.out (setRow_grown W1 w.heap.size R1)
    exact ⟨h.os, h.tape, h.output, h.size, h.block⟩
  rw [hca]
  clear hca
  go_wp2_with fail
  go_region_law (refine step_copy_eq rfl _ _ 84 84 rfl (.slice (some ⟨w.heap.size, (i + 1) * 2, none⟩) (n + 1 - (i + 1)) (GC - (i + 1))) (.slice (some ⟨g, i * 2, none⟩) (n - i) (cap - i)) (by simp [Act.eval, Act.put]) (by simp [Act.eval, Act.put]) (HCB.out _ _ HW2n.out HW2g.out) ?_)
  go_wp2_with fail
  go_ret
  refine ⟨w.heap.size, GC, rfl, ⟨hil.out, R2, setRow_heap _ w.heap.size R1 R2 87 _ HW2n.out, hGn, by unfold maxLen; omega, hR2s'.out, hR2t'.out⟩, Or.inr ⟨Nat.le_refl _, ?_⟩⟩
  have h := grown_trans HGr2.out (setRow_grown _ w.heap.size R2)
  exact ⟨h.os, h.tape, h.output, h.size, fun k hk _ => h.block k hk (fun e => by cases e; omega)⟩
theorem insert_any (g n cap i vb : Nat) (xs : List Value) (x u : Value) (w : World) (hr : Row w 87 2 g n cap xs) (hn : n ≤ 2000) (hi : i ≤ n) (hvb : w.heap[vb]? = some (.cells #[x, u] 87 (0, 0))) (hvg : vb ≠ g) (h1x : x.oneCell' = true) (h1u : u.oneCell' = true) (h1s : ∀ v ∈ xs, v.oneCell' = true) :
    Calls Tryz.prog 83 #[.slice (some ⟨g, 0, none⟩) n cap, .int .i64 i, .slice (some ⟨vb, 0, none⟩) 1 1] w (InsPost g n (inserted xs i x u) w) := by
  by_cases h : i = n
  · subst h
    have e : inserted xs i x u = xs ++ [x, u] := by
      unfold inserted
      rw [List.take_of_length_le (by have := hr.1; omega), List.drop_of_length_le (by have := hr.1; omega)]
    rw [e]
    exact insert_end g i cap vb xs x u w hr hn hvb h1x h1u
  · by_cases hroom : n + 1 ≤ cap
    · exact insert_shift g n cap i vb xs x u w hr hn (by omega) hroom hvb hvg h1x h1u h1s
    · exact insert_grow g n cap i vb xs x u w hr hn (by omega) (by omega) hvb hvg h1x h1u h1s
end Go.Proofs.YtaogilpkeeigoaaGreatDoor
