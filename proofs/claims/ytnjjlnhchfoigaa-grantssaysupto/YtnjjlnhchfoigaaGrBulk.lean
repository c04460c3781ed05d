/- Grants that come in: how they lie in memory, and how many things they hold. -/
import Derived.Test.YtnjjlnhchfoigaaGrArgs
import Derived.Test.YtnjjlnhchfoigaaGrFlC
namespace Go.Proofs.Ytnjjlnhchfoigaa
open Go.ChangeShapes Go.WideShapes Go.ChangeAt Go.RowKit Go.Deep
set_option linter.unusedVariables false
set_option linter.unusedSimpArgs false
theorem bulk_pos {H : Type} (d : DataW H) : 1 ≤ Rows.uptoBulk d := by
  cases d with
  | lit x => cases x <;> simp [Rows.uptoBulk]
  | nil => simp [Rows.uptoBulk]
  | ptr d => simp [Rows.uptoBulk]
  | slice a b => simp [Rows.uptoBulk]
  | agg a => simp [Rows.uptoBulk]
  | iface t d => simp [Rows.uptoBulk]
  | map e => simp [Rows.uptoBulk]
  | held h => simp [Rows.uptoBulk]
theorem bulk_len {H : Type} : ∀ (l : List (DataW H)), l.length ≤ Rows.uptoBulkAll l
  | [] => Nat.zero_le _
  | d :: r => by
    have h1 := bulk_pos d
    have h2 := bulk_len r
    simp only [Rows.uptoBulkAll, List.length_cons]
    omega
theorem bulk_append {H : Type} : ∀ (l m : List (DataW H)), Rows.uptoBulkAll (l ++ m) = Rows.uptoBulkAll l + Rows.uptoBulkAll m
  | [], m => by simp [Rows.uptoBulkAll]
  | d :: r, m => by
    have := bulk_append r m
    simp only [List.cons_append, Rows.uptoBulkAll, this]
    omega
theorem bulk_sum {H : Type} (D : Nat → DataW H) (f : Nat → Nat) : ∀ n, (∀ i, i < n → f i ≤ Rows.uptoBulk (D i)) → ((List.range n).map f).sum ≤ Rows.uptoBulkAll ((List.range n).map D)
  | 0, _ => by simp [Rows.uptoBulkAll]
  | n + 1, h => by
    have ih := bulk_sum D f n (fun i hi => h i (by omega))
    have hn := h n (by omega)
    rw [List.range_succ, List.map_append, List.map_append, List.sum_append, bulk_append]
    simp only [List.map_cons, List.map_nil, List.sum_cons, List.sum_nil, Rows.uptoBulkAll]
    omega
section
variable {H : Type} {enc : TypeId × Value → H} {W : World} {base : Nat}
set_option maxRecDepth 100000
theorem strs_trodB {fuel : Nat} {cs : List Value} {x : DataW H × List MemPlace} (h : DataW.trod enc Try.prog W base (fun _ => true) true fuel 32 cs = some x) :
    ∃ (u : Value) (l : List Bs), cs = [u] ∧ Strs W u l ∧ FitS l ∧ l.length + 1 ≤ Rows.uptoBulk x.1 := by
  rcases open_strs Try.underlying32 Try.underlying9 cellsStr h with ⟨hcs, hx⟩ | ⟨a, len, cap, m, Sx, hcs, _, hl, hm, hmm, hx, hcell⟩
  · exact ⟨_, [], hcs, Or.inl ⟨rfl, _, _, rfl⟩, fun s hs => by simp at hs, by rw [hx]; simp [Rows.uptoBulk]⟩
  · simp only [if_true] at hmm
    have hmm' : cap = m := hmm.symm
    subst hmm'
    obtain ⟨b, off, spot⟩ := a
    have hbk : len + 1 ≤ Rows.uptoBulk x.1 := by
      rw [hx]
      have := bulk_len ((List.range len).map fun i => (DataW.lit (.string (Sx i).data.toList) : DataW H))
      simp only [List.length_map, List.length_range] at this
      simp only [Rows.uptoBulk]
      omega
    by_cases hc0 : cap = 0
    · subst hc0
      have hlen0 : len = 0 := by omega
      subst hlen0
      exact ⟨_, [], hcs, Or.inl ⟨rfl, _, _, rfl⟩, fun s hs => by simp at hs, hbk⟩
    · have hspot : spot = none := by simpa [Addr.add] using World.cell?_spot (hcell 0 (by omega)).1
      subst hspot
      have hcell' : ∀ j, j < cap → W.cell? ⟨b, off + j, none⟩ = some (.string (Sx j)) := fun j hj => by rw [← plain_add]; exact (hcell j hj).1
      refine ⟨_, (List.range len).map fun i => (Sx i).data.toList, hcs, Or.inr ⟨b, off, cap, by simp, by simpa using hl, hm, cell_lt (hcell' 0 (by omega)), fun i s hs => ?_⟩, fun s hs => ?_, by simpa using hbk⟩
      · rw [List.getElem?_map] at hs
        obtain ⟨k, hk, rfl⟩ := Option.map_eq_some_iff.1 hs
        obtain ⟨hk1, hk2⟩ := List.getElem?_eq_some_iff.1 hk
        have hki : i = k := by simpa using hk2
        subst hki
        have hk3 : i < len := by simpa using hk1
        rw [hcell' i (by omega)]
      · obtain ⟨i, hi, rfl⟩ := List.mem_map.1 hs
        have := (hcell i (by have := List.mem_range.1 hi; omega)).2
        simpa using this
theorem strs1_trodB {fuel : Nat} {c : Value} {x : DataW H × List MemPlace} (h : DataW.trod enc Try.prog W base (fun _ => true) true fuel 32 [c] = some x) : ∃ l : List Bs, Strs W c l ∧ FitS l ∧ l.length + 1 ≤ Rows.uptoBulk x.1 := by
  obtain ⟨u, l, e, h1, h2⟩ := strs_trodB h
  injection e with e
  subst e
  exact ⟨l, h1, h2⟩
theorem sqB_trod {α : Type} [Inhabited α] (st : Nat) (P : World → Nat → Nat → α → Prop) (F : α → Prop) (wt : α → Nat) {ts te : TypeId} (hu : Try.prog.underlying ts = some (.slice te)) (hc : Try.prog.cellsOf te = st) (hst : 0 < st)
    (each : ∀ (n : Nat) (cs : List Value) (y : DataW H × List MemPlace), DataW.trod enc Try.prog W base (fun _ => true) true n te cs = some y → ∃ r : α, (F r ∧ wt r ≤ Rows.uptoBulk y.1) ∧ ∀ g o, (∀ j u, cs[j]? = some u → W.cell? ⟨g, o + j, none⟩ = some u) → P W g o r)
    {fuel : Nat} {c : Value} {x : DataW H × List MemPlace} (h : DataW.trod enc Try.prog W base (fun _ => true) true fuel ts [c] = some x) :
    ∃ (l : List α), Sq st P W c l ∧ (∀ r ∈ l, F r) ∧ (l.map wt).sum + 1 ≤ Rows.uptoBulk x.1 ∧ l.length + 1 ≤ Rows.uptoBulk x.1 := by
  rcases open_slice hu h with ⟨hcs, hx⟩ | ⟨a, len, cap, m, n, D, Pl, hcs, _, hl, hm, hmm, hx, hel⟩
  · injection hcs with hcs
    subst hcs
    exact ⟨[], Or.inl ⟨rfl, _, _, rfl, fun _ => rfl⟩, fun s hs => by simp at hs, by rw [hx]; simp [Rows.uptoBulk], by rw [hx]; simp [Rows.uptoBulk]⟩
  · simp only [if_true] at hmm
    have hmm' : cap = m := hmm.symm
    subst hmm'
    injection hcs with hcs
    subst hcs
    obtain ⟨b, off, spot⟩ := a
    rw [hc] at hel
    have hbk : len + 1 ≤ Rows.uptoBulk x.1 := by
      rw [hx]
      have := bulk_len ((List.range len).map D)
      simp only [List.length_map, List.length_range] at this
      simp only [Rows.uptoBulk]
      omega
    by_cases hc0 : cap = 0
    · subst hc0
      have hlen0 : len = 0 := by omega
      subst hlen0
      exact ⟨[], Or.inl ⟨rfl, _, _, rfl, fun e => by cases e⟩, fun s hs => by simp at hs, by simpa using hbk, by simpa using hbk⟩
    · have h00 : ∃ u, W.cell? (⟨b, off, spot⟩ : Addr) = some u := by
        obtain ⟨cs', h1, h2⟩ := hel 0 (by omega)
        obtain ⟨_, hlen, hcell⟩ := World.cells?_some h1
        have e0 := hcell 0 (by omega)
        rw [add_add] at e0
        have hk : 0 < cs'.length := by omega
        exact ⟨cs'[0], by simpa [Addr.add, hk] using e0⟩
      obtain ⟨u0, hu0⟩ := h00
      have hspot : spot = none := by simpa using World.cell?_spot hu0
      subst hspot
      have hb : b < W.heap.size := cell_lt hu0
      have each' : ∀ i, i < cap → ∃ q : α, (F q ∧ wt q ≤ Rows.uptoBulk (D i)) ∧ P W b (off + i * st) q := by
        intro i hi
        obtain ⟨cs', h1, h2⟩ := hel i hi
        obtain ⟨_, hlen, hcell⟩ := World.cells?_some h1
        obtain ⟨r, hf, hp⟩ := each n cs' _ h2
        refine ⟨r, hf, hp b _ (fun j u hj => ?_)⟩
        have hjl : j < cs'.length := (List.getElem?_eq_some_iff.1 hj).1
        have e0 := hcell j (by omega)
        rw [add_add, plain_add] at e0
        rw [← Nat.add_assoc] at e0
        rw [e0]
        simpa using hj
      obtain ⟨q, hq⟩ := choose_lt each'
      refine ⟨(List.range len).map q, Or.inr ⟨b, off, cap, by simp, by simpa using hl, hm, hb, fun i r hr => ?_⟩, fun r hr => ?_, ?_, by simpa using hbk⟩
      · rw [List.getElem?_map] at hr
        obtain ⟨k, hk, rfl⟩ := Option.map_eq_some_iff.1 hr
        obtain ⟨hk1, hk2⟩ := List.getElem?_eq_some_iff.1 hk
        have hki : i = k := by simpa using hk2
        subst hki
        have hk3 : i < len := by simpa using hk1
        exact (hq i (by omega)).2
      · obtain ⟨i, hi, rfl⟩ := List.mem_map.1 hr
        exact (hq i (by have := List.mem_range.1 hi; omega)).1.1
      · rw [hx]
        have := bulk_sum D (fun i => wt (q i)) len (fun i hi => (hq i (by omega)).1.2)
        rw [List.map_map]
        simp only [Rows.uptoBulk]
        have e : (List.map (wt ∘ q) (List.range len)).sum = ((List.range len).map fun i => wt (q i)).sum := rfl
        omega
theorem rules_trodB {n : Nat} {c : Value} {y : DataW H × List MemPlace} (h : DataW.trod enc Try.prog W base (fun _ => true) true n 35 [c] = some y) : ∃ l : List Rl, Rls W c l ∧ (∀ r ∈ l, FitR r) ∧ rulesN l ≤ Rows.uptoBulk y.1 := by
  obtain ⟨l, h1, h2, h3, _⟩ := sqB_trod 3 RlAt FitR ruleN Try.underlying35 cellsRule (by omega) (fun n cs y h => by
    obtain ⟨y0, y1, y2, n, rfl, hlen, h0, h1, h2⟩ := trod_struct3 Try.underlying42 h
    rw [cellsRule] at hlen
    obtain ⟨c0, c1, c2, rfl⟩ := len3 hlen
    obtain ⟨l0, s0, f0, b0⟩ := strs1_trodB (cell_of 0 rfl cellsStrs h0)
    obtain ⟨l1, s1, f1, b1⟩ := strs1_trodB (cell_of 1 rfl cellsStrs h1)
    obtain ⟨l2, s2, f2, b2⟩ := strs1_trodB (cell_of 2 rfl cellsStrs h2)
    refine ⟨(l0, l1, l2), ⟨⟨f0, f1, f2⟩, ?_⟩, fun g o hc => ⟨c0, c1, c2, hc 0 _ rfl, hc 1 _ rfl, hc 2 _ rfl, s0, s1, s2⟩⟩
    simp only [ruleN, Rows.uptoBulk, Rows.uptoBulkAll]
    omega) h
  exact ⟨l, h1, h2, by unfold rulesN; omega⟩
theorem roles_trodB {n : Nat} {c : Value} {y : DataW H × List MemPlace} (h : DataW.trod enc Try.prog W base (fun _ => true) true n 22 [c] = some y) : ∃ l : List Ro, Ros W c l ∧ (∀ r ∈ l, FitO r) ∧ (l.map fun r => 2 + rulesN r.2.2).sum ≤ Rows.uptoBulk y.1 ∧ l.length ≤ Rows.uptoBulk y.1 := by
  obtain ⟨l, h1, h2, h3, h4⟩ := sqB_trod 3 RoAt FitO (fun r => 2 + rulesN r.2.2) Try.underlying22 cellsRole (by omega) (fun n cs y h => by
    obtain ⟨y0, y1, y2, n, rfl, hlen, h0, h1, h2⟩ := trod_struct3 Try.underlying47 h
    rw [cellsRole] at hlen
    obtain ⟨c0, c1, c2, rfl⟩ := len3 hlen
    obtain ⟨a, rfl, fa⟩ := str_trod (cell_of 0 rfl cellsStr h0)
    obtain ⟨b, rfl, fb⟩ := str_trod (cell_of 1 rfl cellsStr h1)
    obtain ⟨l2, s2, f2, b2⟩ := rules_trodB (cell_of 2 rfl cellsRules h2)
    refine ⟨(a, b, l2), ⟨⟨fa, fb, f2⟩, ?_⟩, fun g o hc => ⟨hc 0 _ rfl, hc 1 _ rfl, c2, hc 2 _ rfl, s2⟩⟩
    have p0 := bulk_pos y0.1
    have p1 := bulk_pos y1.1
    simp only [Rows.uptoBulk, Rows.uptoBulkAll]
    omega) h
  exact ⟨l, h1, h2, by omega, by omega⟩
theorem trod_struct6B {P : Program} {t : TypeId} {f0 f1 f2 f3 f4 f5 : Field} {fuel : Nat} {cs : List Value} {x : DataW H × List MemPlace} {held : Bool} {spare : Nat → Bool} (ht : P.underlying t = some (.struct #[f0, f1, f2, f3, f4, f5])) (h : DataW.trod enc P W base spare held fuel t cs = some x) :
    ∃ y0 y1 y2 y3 y4 y5 n, x.1 = .agg [y0.1, y1.1, y2.1, y3.1, y4.1, y5.1] ∧ cs.length = P.cellsOf t ∧ DataW.trod enc P W base spare held n f0.type ((cs.drop f0.offset).take (P.cellsOf f0.type)) = some y0 ∧ DataW.trod enc P W base spare held n f1.type ((cs.drop f1.offset).take (P.cellsOf f1.type)) = some y1 ∧
      DataW.trod enc P W base spare held n f2.type ((cs.drop f2.offset).take (P.cellsOf f2.type)) = some y2 ∧ DataW.trod enc P W base spare held n f3.type ((cs.drop f3.offset).take (P.cellsOf f3.type)) = some y3 ∧
      DataW.trod enc P W base spare held n f4.type ((cs.drop f4.offset).take (P.cellsOf f4.type)) = some y4 ∧ DataW.trod enc P W base spare held n f5.type ((cs.drop f5.offset).take (P.cellsOf f5.type)) = some y5 := by
  obtain ⟨xs, n, _, rfl, hl, hlen, hf⟩ := DataW.trod_struct ht h
  match xs, hlen with
  | [y0, y1, y2, y3, y4, y5], _ => exact ⟨y0, y1, y2, y3, y4, y5, n, rfl, hl, by simpa using hf 0 f0 rfl, by simpa using hf 1 f1 rfl, by simpa using hf 2 f2 rfl, by simpa using hf 3 f3 rfl, by simpa using hf 4 f4 rfl, by simpa using hf 5 f5 rfl⟩
theorem binds_trodB {n : Nat} {c : Value} {y : DataW H × List MemPlace} (h : DataW.trod enc Try.prog W base (fun _ => true) true n 23 [c] = some y) : ∃ l : List Bi, Bis W c l ∧ (∀ r ∈ l, FitB r) ∧ (l.map fun b => 6 + b.2.2.2.2.1.length + b.2.2.2.2.2.length).sum ≤ Rows.uptoBulk y.1 ∧ l.length ≤ Rows.uptoBulk y.1 := by
  obtain ⟨l, h1, h2, h3, h4⟩ := sqB_trod 6 BiAt FitB (fun b => 6 + b.2.2.2.2.1.length + b.2.2.2.2.2.length) Try.underlying23 cellsBind (by omega) (fun n cs y h => by
    obtain ⟨y0, y1, y2, y3, y4, y5, n, hx, hlen, h0, h1, h2, h3, h4, h5⟩ := trod_struct6B Try.underlying49 h
    rw [cellsBind] at hlen
    obtain ⟨c0, c1, c2, c3, c4, c5, rfl⟩ := len6 hlen
    obtain ⟨a, rfl, fa⟩ := str_trod (cell_of 0 rfl cellsStr h0)
    obtain ⟨b, rfl, fb⟩ := str_trod (cell_of 1 rfl cellsStr h1)
    obtain ⟨c, rfl, fc⟩ := str_trod (cell_of 2 rfl cellsStr h2)
    obtain ⟨k, e3, _⟩ := DataW.trod_bool Try.underlying4 (cell_of 3 rfl cellsBool h3)
    injection e3 with e3
    subst e3
    obtain ⟨l4, s4, f4, b4⟩ := strs1_trodB (cell_of 4 rfl cellsStrs h4)
    obtain ⟨l5, s5, f5, b5⟩ := strs1_trodB (cell_of 5 rfl cellsStrs h5)
    refine ⟨(a, b, c, k, l4, l5), ⟨⟨fa, fb, fc, f4, f5⟩, ?_⟩, fun g o hc => ⟨hc 0 _ rfl, hc 1 _ rfl, hc 2 _ rfl, hc 3 _ rfl, c4, c5, hc 4 _ rfl, hc 5 _ rfl, s4, s5⟩⟩
    have p0 := bulk_pos y0.1
    have p1 := bulk_pos y1.1
    have p2 := bulk_pos y2.1
    have p3 := bulk_pos y3.1
    rw [hx]
    simp only [Rows.uptoBulk, Rows.uptoBulkAll]
    omega) h
  exact ⟨l, h1, h2, by omega, by omega⟩
theorem sum_split {α : Type} (f : α → Nat) (m : Nat) : ∀ l : List α, (l.map fun x => m + f x).sum = m * l.length + (l.map f).sum
  | [] => by simp
  | x :: r => by
    have := sum_split f m r
    simp only [List.map_cons, List.sum_cons, List.length_cons, this, Nat.mul_add, Nat.mul_one]
    omega
theorem grants_argB {v : Value} {d : DataW H} {p : List MemPlace} (hval : Value.okWide Try.prog W .any base 25 v) (h : DataW.Trod enc Try.prog W 0 (fun _ => true) true 25 v d p) (hd : Rows.uptoBulk d ≤ 1048576) :
    ∃ (a b : Value) (rs : List Ro) (bs : List Bi), v = .agg #[a, b] ∧ Grs W a b rs bs ∧ grN rs bs ≤ 10000000000000 := by
  obtain ⟨cs, rfl, _⟩ := okWide_struct Try.underlying25 hval
  obtain ⟨fuel, hf⟩ := h
  obtain ⟨y0, y1, n, hx, hlen, h0, h1⟩ := trod_struct2 Try.underlying25 hf
  rw [cellsGrants] at hlen
  obtain ⟨c0, c1, hcs⟩ := len2 hlen
  have hcs' : cs.toList = [c0, c1] := hcs
  rw [hcs] at h0 h1
  obtain ⟨rs, s0, f0, b0, n0⟩ := roles_trodB (cell_of 0 rfl cellsRoles h0)
  obtain ⟨bs, s1, f1, b1, n1⟩ := binds_trodB (cell_of 1 rfl cellsBinds h1)
  refine ⟨c0, c1, rs, bs, by rw [show cs = #[c0, c1] from Array.toList_inj.1 hcs'], ⟨s0, s1, f0, f1⟩, ?_⟩
  have hdd : d = .agg [y0.1, y1.1] := congrArg Prod.fst hx
  rw [hdd] at hd
  simp only [Rows.uptoBulk, Rows.uptoBulkAll] at hd
  have e1 : (rs.map (roN rs.length)).sum = rs.length * rs.length + (rs.map fun r => 2 + rulesN r.2.2).sum := by
    rw [← sum_split]
    refine congrArg List.sum (List.map_congr_left fun r _ => ?_)
    unfold roN; omega
  have e2 : (bs.map (biN bs.length)).sum = bs.length * bs.length + (bs.map fun b => 6 + b.2.2.2.2.1.length + b.2.2.2.2.2.length).sum := by
    rw [← sum_split]
    refine congrArg List.sum (List.map_congr_left fun b _ => ?_)
    unfold biN; omega
  have m1 : rs.length * rs.length ≤ 1048576 * 1048576 := Nat.mul_le_mul (by omega) (by omega)
  have m2 : bs.length * bs.length ≤ 1048576 * 1048576 := Nat.mul_le_mul (by omega) (by omega)
  unfold grN
  rw [e1, e2]
  omega
end
end Go.Proofs.Ytnjjlnhchfoigaa
