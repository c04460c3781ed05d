/- Plain facts on a Hash: what it has become by bytes that come one by one; how it lies in memory. -/
import Derived.Test.YtmbpjbghhimedaaGreatDoorSlEnd
import Derived.Laws.CopyRow
import Derived.Lib.Strings
import Derived.Deep.MidRow
import Derived.StillTailTactics
namespace Go.Proofs.YtmbpjbghhimedaaGreatDoor
open Go.RowKit
set_option linter.unusedVariables false
set_option linter.unusedSimpArgs false
/-- a Hash: the state, the rest, how many bytes -/
abbrev HS := List Nat × Bs × Nat
abbrev big : Nat := 18446744073709551616
def HOk (h : HS) : Prop := St8 h.1 ∧ h.2.1.length = 64 ∧ h.2.2 < big
def feed (h : HS) (c : UInt8) : HS :=
  (if (h.2.2 + 1) % big % 64 = 0 then mixP h.1 (h.2.1.set (h.2.2 % 64) c) else h.1, h.2.1.set (h.2.2 % 64) c, (h.2.2 + 1) % big)
/-- what becomes of it by some bytes -/
def feedP (h : HS) (s : Bs) : HS := s.foldl feed h
theorem feedP_append (h : HS) (a b : Bs) : feedP h (a ++ b) = feedP (feedP h a) b := List.foldl_append
theorem feed_ok {h : HS} (hh : HOk h) (c : UInt8) : HOk (feed h c) := by
  refine ⟨?_, by show (h.2.1.set _ _).length = 64; rw [List.length_set]; exact hh.2.1, Nat.mod_lt _ (by decide)⟩
  show St8 (if _ then _ else _)
  split
  · exact mix_st hh.1 _
  · exact hh.1
theorem feedP_ok : ∀ (s : Bs) {h : HS}, HOk h → HOk (feedP h s)
  | [], _, hh => hh
  | c :: s, _, hh => feedP_ok s (feed_ok hh c)
/-- bytes laid over a rest, from some place on -/
def over (r p : Bs) (l : Nat) : Bs := r.take l ++ p ++ r.drop (l + p.length)
theorem over_len {r p : Bs} {l : Nat} (h : l + p.length ≤ r.length) : (over r p l).length = r.length := by
  unfold over
  simp only [List.length_append, List.length_take, List.length_drop]
  omega
theorem over_one {r : Bs} {l : Nat} (h : l < r.length) (c : UInt8) : over r [c] l = r.set l c := by
  unfold over
  rw [List.set_eq_take_append_cons_drop, if_pos h]
  simp
theorem over_cons {r : Bs} {l : Nat} (h : l < r.length) (c : UInt8) (q : Bs) : over (r.set l c) q (l + 1) = over r (c :: q) l := by
  unfold over
  have h1 : (r.set l c).take (l + 1) = r.take l ++ [c] := by
    rw [List.set_eq_take_append_cons_drop, if_pos h, List.take_append, List.length_take, List.take_take]
    rw [show min (l + 1) l = l by omega, show min l r.length = l by omega, show l + 1 - l = 1 by omega]
    rfl
  have h2 : (r.set l c).drop (l + 1 + q.length) = r.drop (l + 1 + q.length) := List.drop_set_of_lt (by omega)
  rw [h1, h2, List.length_cons, show l + (q.length + 1) = l + 1 + q.length by omega]
  simp
theorem feed_over : ∀ (p : Bs) (st : List Nat) (r : Bs) (m : Nat), p ≠ [] → r.length = 64 → m < big → m % 64 + p.length ≤ 64 →
    feedP (st, r, m) p = (if (m + p.length) % big % 64 = 0 then mixP st (over r p (m % 64)) else st, over r p (m % 64), (m + p.length) % big)
  | [], _, _, _, h, _, _, _ => absurd rfl h
  | [c], st, r, m, _, hr, hm, hl => by
    rw [over_one (by omega)]
    rfl
  | c :: d :: q, st, r, m, _, hr, hm, hl => by
    simp only [List.length_cons] at hl
    have hd : (m + 1) % big % 64 = m % 64 + 1 := by simp only [big]; omega
    have hf : feed (st, r, m) c = (st, r.set (m % 64) c, (m + 1) % big) := by
      unfold feed
      rw [if_neg (by show ¬ (m + 1) % big % 64 = 0; omega)]
    have ih := feed_over (d :: q) st (r.set (m % 64) c) ((m + 1) % big) (by simp) (by rw [List.length_set]; exact hr) (Nat.mod_lt _ (by decide)) (by rw [hd]; simp only [List.length_cons]; omega)
    show feedP (feed (st, r, m) c) (d :: q) = _
    rw [hf, ih, hd, over_cons (by omega)]
    have he : ((m + 1) % big + (d :: q).length) % big = (m + (c :: d :: q).length) % big := by
      simp only [List.length_cons, big]
      omega
    rw [he]
/-- its cells -/
def hashC (h : HS) : Array Value := (Vw h.1 ++ Lib.byteCells h.2.1 ++ [Value.int .u64 (h.2.2 : Nat)]).toArray
theorem hashC_size {h : HS} (hh : HOk h) : (hashC h).size = 73 := by
  unfold hashC
  rw [List.size_toArray, List.length_append, List.length_append, List.length_map, Lib.byteCells_length, hh.1.1, hh.2.1]
  rfl
theorem hashC_many {h : HS} (hh : HOk h) : (hashC h)[72]? = some (.int .u64 (h.2.2 : Nat)) := by
  have l1 : (Vw h.1).length = 8 := by rw [List.length_map]; exact hh.1.1
  have l2 : (Lib.byteCells h.2.1).length = 64 := by rw [Lib.byteCells_length]; exact hh.2.1
  unfold hashC
  rw [List.getElem?_toArray, List.getElem?_append_right (by rw [List.length_append, l1, l2]; decide), List.length_append, l1, l2]
  rfl
theorem hashC_st {h : HS} (hh : HOk h) {j : Nat} {v : Value} (hv : (Vw h.1)[j]? = some v) : (hashC h)[0 + j]? = some v := by
  have hj := (List.getElem?_eq_some_iff.1 hv).1
  unfold hashC
  rw [List.getElem?_toArray, Nat.zero_add, List.getElem?_append_left (by rw [List.length_append]; omega), List.getElem?_append_left hj]
  exact hv
theorem hashC_rest {h : HS} (hh : HOk h) {j : Nat} {v : Value} (hv : (Lib.byteCells h.2.1)[j]? = some v) : (hashC h)[8 + j]? = some v := by
  have l1 : (Vw h.1).length = 8 := by rw [List.length_map]; exact hh.1.1
  have hj := (List.getElem?_eq_some_iff.1 hv).1
  unfold hashC
  rw [List.getElem?_toArray, List.getElem?_append_left (by rw [List.length_append, l1]; omega), List.getElem?_append_right (by omega), l1, show 8 + j - 8 = j by omega]
  exact hv
def HashAt (b : Nat) (h : HS) (w : World) : Prop := w.heap[b]? = some (.cells (hashC h) 130 (0, 0))
theorem HashAt.many {b : Nat} {h : HS} {w : World} (ha : HashAt b h w) (hh : HOk h) : w.cell? ⟨b, 72, none⟩ = some (.int .u64 (h.2.2 : Nat)) := cell_at ha (hashC_many hh)
theorem HashAt.loadSt {b : Nat} {h : HS} {w : World} (ha : HashAt b h w) (hh : HOk h) : (loadCellsFrom ⟨b, 0, none⟩ 0 8 #[]).run Tryz.prog w = .ok (Vw h.1).toArray w := by
  have := run_loadCells_list (P := Tryz.prog) w ⟨b, 0, none⟩ (Vw h.1) (fun j v hv => by
    have hadd : (⟨b, 0, none⟩ : Addr).add j = ⟨b, 0 + j, none⟩ := by unfold Addr.add; split <;> simp_all
    rw [hadd]
    exact cell_at ha (hashC_st hh hv))
  rw [List.length_map, hh.1.1] at this
  exact this
theorem HashAt.loadRest {b : Nat} {h : HS} {w : World} (ha : HashAt b h w) (hh : HOk h) : (loadCellsFrom ⟨b, 8, none⟩ 0 64 #[]).run Tryz.prog w = .ok (Lib.byteCells h.2.1).toArray w := by
  have := run_loadCells_list (P := Tryz.prog) w ⟨b, 8, none⟩ (Lib.byteCells h.2.1) (fun j v hv => by
    have hadd : (⟨b, 8, none⟩ : Addr).add j = ⟨b, 8 + j, none⟩ := by unfold Addr.add; split <;> simp_all
    rw [hadd]
    exact cell_at ha (hashC_rest hh hv))
  rw [Lib.byteCells_length, hh.2.1] at this
  exact this
theorem HashAt.varSt {b : Nat} {h : HS} {w : World} (ha : HashAt b h w) (hh : HOk h) : (loadVar 127 ⟨b, 0, none⟩).run Tryz.prog w = .ok (.agg (Vw h.1).toArray) w :=
  run_loadVar_mid w b 0 127 (Vw h.1) _ (fun j v hv => cell_at ha (hashC_st hh hv)) Tryz.underlying127 rfl (by rw [List.length_map, hh.1.1]; kernel_rfl)
theorem HashAt.varRest {b : Nat} {h : HS} {w : World} (ha : HashAt b h w) (hh : HOk h) : (loadVar 78 ⟨b, 8, none⟩).run Tryz.prog w = .ok (.agg (Lib.byteCells h.2.1).toArray) w :=
  run_loadVar_mid w b 8 78 (Lib.byteCells h.2.1) _ (fun j v hv => cell_at ha (hashC_rest hh hv)) Tryz.underlying78 rfl (by rw [Lib.byteCells_length, hh.2.1]; kernel_rfl)
theorem wpStill_load {P : Program} {ops : Array Oper} {w : World} {Q : Act → Prop} {a : Act} {o : Oper} {rest : List Oper} (hw : Region.wanted o (yielded ops a.tmps) = true) (ty : TypeId) (x : Operand) (ho : o.op = .load ty x)
    (p : Addr) (hx : a.eval x = .pointer (some p)) (v : Value) (hrun : (loadVar ty p).run P w = .ok v w) (h : wpStill P ops w Q rest (a.put o.dst v)) : wpStill P ops w Q (o :: rest) a := by
  unfold wpStill
  rw [if_pos hw]
  unfold Oper.still execOp
  simp only [ho, hx, Instr.loadAt, Instr.sureAddr, Sem.run_bind, Sem.run_pure, Result.andThen_ok, hrun]
  rw [Oper.stillUpon_value]
  exact h
theorem load_run {P : Program} {ρ : Operand → Value} {o : Oper} {ty : TypeId} {x : Operand} {p : Addr} {v : Value} {w : World} (ho : o.op = .load ty x) (hx : ρ x = .pointer (some p)) (h : (loadVar ty p).run P w = .ok v w) : (execOp ρ o).run P w = .ok (.value v) w := by
  unfold execOp
  simp only [ho, hx, Instr.loadAt, Instr.sureAddr, Sem.run_bind, Sem.run_pure, Result.andThen_ok, h]
/-- only block b and new ones have turned -/
structure G (b : Nat) (w w' : World) : Prop where
  os : w'.os = w.os
  tape : w'.tape = w.tape
  output : w'.output = w.output
  size : w.heap.size ≤ w'.heap.size
  block : ∀ k, k < w.heap.size → k ≠ b → w'.heap[k]? = w.heap[k]?
theorem G.refl (b : Nat) (w : World) : G b w w := ⟨rfl, rfl, rfl, Nat.le_refl _, fun _ _ _ => rfl⟩
theorem G.trans {b : Nat} {a c d : World} (h : G b a c) (k : G b c d) : G b a d :=
  ⟨k.os.trans h.os, k.tape.trans h.tape, k.output.trans h.output, Nat.le_trans h.size k.size, fun i hi hb => (k.block i (Nat.lt_of_lt_of_le hi h.size) hb).trans (h.block i hi hb)⟩
theorem G.of {b : Nat} {w w' : World} (h : Below w.heap.size w w') : G b w w' := ⟨h.os, h.tape, h.output, h.size, fun k hk _ => h.block k hk⟩
theorem G.setRow {b : Nat} (w : World) (cs : Array Value) : G b w (w.setRow b cs) := ⟨rfl, rfl, rfl, by simp, fun k _ hb => setRow_other w b k cs hb⟩
theorem G.drew {b : Nat} {w w' : World} (h : G b w w') : G b w w'.drew := ⟨h.os, h.tape, h.output, h.size, h.block⟩
theorem G.below {b n : Nat} {w w' : World} (h : G b w w') (hn : n ≤ b) (hs : n ≤ w.heap.size) : Below n w w' := ⟨h.os, h.tape, h.output, h.size, fun k hk => h.block k (by omega) (by omega)⟩
theorem HashAt.below {b : Nat} {h : HS} {w w' : World} (ha : HashAt b h w) (hb : Below w.heap.size w w') : HashAt b h w' := (hb.block b (lt_of_block ha)).trans ha
theorem Cub.g {b : Nat} {w w' : World} (h : Cub w) (hg : G b w w') (hb : b ≠ 6) : Cub w' :=
  ⟨by have := hg.size; have := h.1; omega, fun i hi => by
    have hk := hg.block 6 h.1 (fun e => hb e.symm)
    rw [World.cell?_of_block (w := w) hk]
    exact h.2 i hi⟩
/-- a copy of a text into a row -/
theorem copy_str (w : World) (g o dLen dCap : Nat) (s : Bs) (cur : Array Value) (t : TypeId) (n : Nat) (hn : n = min s.length dLen)
    (hg : w.heap[g]? = some (.cells cur t (0, 0))) (hfit : o + n ≤ cur.size) :
    (Builtin.copy_ #[56, 9] 3 #[.slice (some ⟨g, o, none⟩) dLen dCap, .string (Ba s)]).run Tryz.prog w =
      .ok (.int .i64 (n : Nat)) (w.setRow g (cur.toList.take o ++ Lib.byteCells (s.take n) ++ cur.toList.drop (o + n)).toArray) := by
  have hlen : (Lib.byteCells (s.take n)).length = n := by rw [Lib.byteCells_length, List.length_take]; omega
  have h1 : ∀ v ∈ Lib.byteCells (s.take n), v.oneCell' = true := by
    intro v hv
    simp only [Lib.byteCells, List.mem_map] at hv
    obtain ⟨b, _, rfl⟩ := hv
    rfl
  have hst := run_storeCells_at Tryz.prog g o t (Lib.byteCells (s.take n)) 0 cur w hg (by rw [hlen]; simpa using hfit) h1
  rw [hlen] at hst
  simp only [Nat.add_zero] at hst
  have hmin : Nat.min s.length dLen = n := hn.symm
  have hsz : (Tryz.prog.info? 5).map (·.size) = some 1 := by kernel_rfl
  cases hq : Tryz.prog.info? 5 with
  | none => simp [hq] at hsz
  | some i =>
    have hi1 : i.size = 1 := by simpa [hq] using hsz
    simp [Builtin.copy_, run_underlying Tryz.underlying56, Builtin.lenOf, Builtin.firstCells, sizeOf, typeInfo, hq, ba_size, hmin]
    have htk : List.take n (List.map (fun b : UInt8 => Value.int IntKind.u8 (b.toNat : Int)) s) = Lib.byteCells (s.take n) := by simp [Lib.byteCells, List.map_take]
    rw [htk, hst]
    simp [Result.andThen, goInt]
/-- a store of a whole array within a row -/
theorem run_storeVar_at {P : Program} (w : World) (g o : Nat) (t ty : TypeId) (cur cells : Array Value) (hg : w.heap[g]? = some (.cells cur t (0, 0))) (hi : (P.info? ty).map (·.size) = some cells.size)
    (ho : o + cells.size ≤ cur.size) (h1 : cells.all (·.oneCell') = true) :
    (storeVar ty ⟨g, o, none⟩ (.agg cells)).run P w = .ok () (w.setRow g (cur.toList.take o ++ cells.toList ++ cur.toList.drop (o + cells.size)).toArray) := by
  have := run_storeCells_at P g o t cells.toList 0 cur w hg (by simp; omega) (fun v hv => (Array.all_eq_true_iff_forall_mem.1 h1) v (by simpa using hv))
  simp only [Nat.add_zero, Array.length_toList] at this
  cases hq : P.info? ty with
  | none => simp [hq] at hi
  | some i =>
    have hs : cells.size = i.size := by simp [hq] at hi; omega
    rw [hs] at this ⊢
    have hsz2 : cells.toList.length = i.size := by simpa using hs
    generalize (List.take o cur.toList ++ cells.toList ++ List.drop (o + i.size) cur.toList).toArray = res at *
    simp [storeVar, sizeOf, typeInfo, hq, Value.cells, hs, this]
theorem wpList_store_at {P : Program} {ops : Array Oper} {rest : List Oper} {o : Oper} {a : Act} {w : World} {Q : Exit → Act → World → Prop} (hgd : o.guard = none) (ty : TypeId) (x y : Operand) (ho : o.op = .store ty x y)
    (g off : Nat) (cells : Array Value) (hx : a.eval x = .pointer (some ⟨g, off, none⟩)) (hy : a.eval y = .agg cells)
    (t : TypeId) (cur : Array Value) (hg : w.heap[g]? = some (.cells cur t (0, 0))) (hi : (P.info? ty).map (·.size) = some cells.size)
    (hfit : off + cells.size ≤ cur.size) (h1 : cells.all (·.oneCell') = true)
    (h : wpList P ops Q rest (a.put o.dst undef) (w.setRow g (cur.toList.take off ++ cells.toList ++ cur.toList.drop (off + cells.size)).toArray)) : wpList P ops Q (o :: rest) a w :=
  wpList_plain hgd fun _ hK => by
    unfold Oper.wp execOp
    simp only [ho, hx, hy, Instr.storeAt, Instr.sureAddr, Sem.run_bind, Sem.run_pure, Result.andThen_ok, run_storeVar_at w g off t ty cur cells hg hi hfit h1]
    exact hK _ _ h
theorem hashC_over {h : HS} (hh : HOk h) {p : Bs} {l : Nat} (hl : l + p.length ≤ 64) :
    ((hashC h).toList.take (8 + l) ++ Lib.byteCells p ++ (hashC h).toList.drop (8 + l + p.length)).toArray = hashC (h.1, over h.2.1 p l, h.2.2) := by
  have l1 : (Vw h.1).length = 8 := by rw [List.length_map]; exact hh.1.1
  have l2 : (Lib.byteCells h.2.1).length = 64 := by rw [Lib.byteCells_length]; exact hh.2.1
  unfold hashC
  congr 1
  rw [List.toList_toArray]
  have t1 : (Vw h.1 ++ Lib.byteCells h.2.1 ++ [Value.int .u64 (h.2.2 : Nat)]).take (8 + l) = Vw h.1 ++ Lib.byteCells (h.2.1.take l) := by
    rw [List.take_append_of_le_length (by rw [List.length_append, l1, l2]; omega), List.take_append, l1, List.take_of_length_le (by omega), show 8 + l - 8 = l by omega]
    simp [Lib.byteCells, List.map_take]
  have t2 : (Vw h.1 ++ Lib.byteCells h.2.1 ++ [Value.int .u64 (h.2.2 : Nat)]).drop (8 + l + p.length) = Lib.byteCells (h.2.1.drop (l + p.length)) ++ [Value.int .u64 (h.2.2 : Nat)] := by
    rw [List.drop_append_of_le_length (by rw [List.length_append, l1, l2]; omega), List.drop_append, l1, List.drop_of_length_le (by omega), show 8 + l + p.length - 8 = l + p.length by omega]
    simp [Lib.byteCells, List.map_drop]
  rw [t1, t2]
  show _ = Vw h.1 ++ Lib.byteCells (over h.2.1 p l) ++ _
  unfold over
  simp [Lib.byteCells]
theorem hashC_count {h : HS} (hh : HOk h) (m : Nat) : (hashC h).setIfInBounds 72 (.int .u64 (m : Int)) = hashC (h.1, h.2.1, m) := by
  have l1 : (Vw h.1).length = 8 := by rw [List.length_map]; exact hh.1.1
  have l2 : (Lib.byteCells h.2.1).length = 64 := by rw [Lib.byteCells_length]; exact hh.2.1
  unfold hashC
  rw [List.setIfInBounds_toArray]
  congr 1
  rw [List.set_append_right _ _ (by rw [List.length_append, l1, l2]; decide), List.length_append, l1, l2]
  rfl
theorem hashC_state {h : HS} (hh : HOk h) {v : List Nat} (hv : v.length = 8) :
    ((hashC h).toList.take 0 ++ (Vw v).toArray.toList ++ (hashC h).toList.drop (0 + (Vw v).toArray.size)).toArray = hashC (v, h.2.1, h.2.2) := by
  have l1 : (Vw h.1).length = 8 := by rw [List.length_map]; exact hh.1.1
  have l3 : (Vw v).toArray.size = 8 := by rw [List.size_toArray, List.length_map]; exact hv
  rw [l3]
  unfold hashC
  congr 1
  rw [List.toList_toArray, List.toList_toArray, List.take_zero, List.nil_append, List.append_assoc, List.drop_append_of_le_length (by omega), List.drop_of_length_le (by omega), List.append_assoc]
  rfl
end Go.Proofs.YtmbpjbghhimedaaGreatDoor
