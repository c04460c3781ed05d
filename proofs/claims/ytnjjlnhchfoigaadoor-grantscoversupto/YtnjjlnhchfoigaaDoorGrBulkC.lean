/- Rules that come in, where what comes in is of bounded bulk: how they lie in memory, and how much they hold. -/
import Derived.Test.YtnjjlnhchfoigaaDoorGrArgsD
import Derived.Test.YtnjjlnhchfoigaaDoorGrPlaces
namespace Go.Proofs.YtnjjlnhchfoigaaDoor
open Go.ChangeShapes Go.WideShapes Go.ChangeAt Go.RowKit Go.Deep
set_option linter.unusedVariables false
set_option linter.unusedSimpArgs false
theorem bulk_pos {H : Type} (d : DataW H) : 1 ≤ Rows.uptoBulk d := by
  cases d with
  | lit x => cases x <;> simp [Rows.uptoBulk]
  | nil => simp [Rows.uptoBulk]
  | ptr d => simp [Rows.uptoBulk]
  | slice a b => simp [Rows.uptoBulk]
  | agg a => simp [Rows.uptoBulk]
  | iface t d => simp [Rows.uptoBulk]
  | map e => simp [Rows.uptoBulk]
  | held h => simp [Rows.uptoBulk]
theorem bulk_len {H : Type} : ∀ (l : List (DataW H)), l.length ≤ Rows.uptoBulkAll l
  | [] => Nat.zero_le _
  | d :: r => by
    have h1 := bulk_pos d
    have h2 := bulk_len r
    simp only [Rows.uptoBulkAll, List.length_cons]
    omega
theorem bulk_append {H : Type} : ∀ (l m : List (DataW H)), Rows.uptoBulkAll (l ++ m) = Rows.uptoBulkAll l + Rows.uptoBulkAll m
  | [], m => by simp [Rows.uptoBulkAll]
  | d :: r, m => by
    have := bulk_append r m
    simp only [List.cons_append, Rows.uptoBulkAll, this]
    omega
theorem bulk_sum {H : Type} (D : Nat → DataW H) (f : Nat → Nat) : ∀ n, (∀ i, i < n → f i ≤ Rows.uptoBulk (D i)) → ((List.range n).map f).sum ≤ Rows.uptoBulkAll ((List.range n).map D)
  | 0, _ => by simp [Rows.uptoBulkAll]
  | n + 1, h => by
    have ih := bulk_sum D f n (fun i hi => h i (by omega))
    have hn := h n (by omega)
    rw [List.range_succ, List.map_append, List.map_append, List.sum_append, bulk_append]
    simp only [List.map_cons, List.map_nil, List.sum_cons, List.sum_nil, Rows.uptoBulkAll]
    omega
/-- what texts hold -/
def textN (l : List Bs) : Nat := (l.map fun s => s.length + 1).sum
theorem textN_len : ∀ l : List Bs, l.length ≤ textN l
  | [] => Nat.zero_le _
  | s :: r => by
    have := textN_len r
    unfold textN at *
    simp only [List.map_cons, List.sum_cons, List.length_cons]
    omega
theorem textN_mem : ∀ {l : List Bs} {s : Bs}, s ∈ l → s.length ≤ textN l
  | s :: r, t, h => by
    rcases List.mem_cons.1 h with rfl | h
    · unfold textN
      simp only [List.map_cons, List.sum_cons]
      omega
    · have := textN_mem h
      unfold textN at *
      simp only [List.map_cons, List.sum_cons]
      omega
def ruleT (r : Rl) : Nat := textN r.1 + textN r.2.1 + textN r.2.2
theorem sum_mem {α : Type} (f : α → Nat) : ∀ {l : List α} {x : α}, x ∈ l → f x ≤ (l.map f).sum
  | y :: r, x, h => by
    rcases List.mem_cons.1 h with rfl | h
    · simp only [List.map_cons, List.sum_cons]
      omega
    · have := sum_mem f h
      simp only [List.map_cons, List.sum_cons]
      omega
theorem ruleT_small {r : Rl} (hf : FitR r) (h : ruleT r ≤ 1048576) : SmR r := by
  have h0 := textN_len r.1
  have h1 := textN_len r.2.1
  have h2 := textN_len r.2.2
  unfold ruleT at h
  exact ⟨hf, by omega, by omega, by omega⟩
section
variable {H : Type} {enc : TypeId × Value → H} {W : World} {base : Nat}
set_option maxRecDepth 100000
theorem strs_trodC {fuel : Nat} {c : Value} {x : DataW H × List MemPlace} (h : DataW.trod enc Tryd.prog W base (fun _ => true) true fuel 26 [c] = some x) :
    ∃ l : List Bs, Strs W c l ∧ FitS l ∧ textN l + 1 ≤ Rows.uptoBulk x.1 := by
  rcases open_strs Tryd.underlying26 Tryd.underlying9 cellsStr h with ⟨hcs, hx⟩ | ⟨a, len, cap, m, Sx, hcs, _, hl, hm, hmm, hx, hcell⟩
  · injection hcs with hcs
    subst hcs
    exact ⟨[], Or.inl ⟨rfl, _, _, rfl⟩, fun s hs => by simp at hs, by rw [hx]; simp [Rows.uptoBulk, textN]⟩
  · simp only [if_true] at hmm
    have hmm' : cap = m := hmm.symm
    subst hmm'
    injection hcs with hcs
    subst hcs
    obtain ⟨b, off, spot⟩ := a
    have hbk : textN ((List.range len).map fun i => (Sx i).data.toList) + 1 ≤ Rows.uptoBulk x.1 := by
      rw [hx]
      have := bulk_sum (H := H) (fun i => (DataW.lit (.string (Sx i).data.toList) : DataW H)) (fun i => (Sx i).data.toList.length + 1) len (fun i hi => by simp [Rows.uptoBulk])
      unfold textN
      rw [List.map_map]
      simp only [Rows.uptoBulk]
      have e : (List.map ((fun s : Bs => s.length + 1) ∘ fun i => (Sx i).data.toList) (List.range len)).sum = ((List.range len).map fun i => (Sx i).data.toList.length + 1).sum := rfl
      omega
    by_cases hc0 : cap = 0
    · subst hc0
      have hlen0 : len = 0 := by omega
      subst hlen0
      exact ⟨[], Or.inl ⟨rfl, _, _, rfl⟩, fun s hs => by simp at hs, by simpa using hbk⟩
    · have hspot : spot = none := by simpa [Addr.add] using World.cell?_spot (hcell 0 (by omega)).1
      subst hspot
      have hcell' : ∀ j, j < cap → W.cell? ⟨b, off + j, none⟩ = some (.string (Sx j)) := fun j hj => by rw [← plain_add]; exact (hcell j hj).1
      refine ⟨(List.range len).map fun i => (Sx i).data.toList, Or.inr ⟨b, off, cap, by simp, by simpa using hl, hm, cell_lt (hcell' 0 (by omega)), fun i s hs => ?_⟩, fun s hs => ?_, hbk⟩
      · rw [List.getElem?_map] at hs
        obtain ⟨k, hk, rfl⟩ := Option.map_eq_some_iff.1 hs
        obtain ⟨hk1, hk2⟩ := List.getElem?_eq_some_iff.1 hk
        have hki : i = k := by simpa using hk2
        subst hki
        have hk3 : i < len := by simpa using hk1
        rw [hcell' i (by omega)]
      · obtain ⟨i, hi, rfl⟩ := List.mem_map.1 hs
        have := (hcell i (by have := List.mem_range.1 hi; omega)).2
        simpa using this
theorem sqB_trod {α : Type} [Inhabited α] (st : Nat) (P : World → Nat → Nat → α → Prop) (F : α → Prop) (wt : α → Nat) {ts te : TypeId} (hu : Tryd.prog.underlying ts = some (.slice te)) (hc : Tryd.prog.cellsOf te = st) (hst : 0 < st)
    (each : ∀ (n : Nat) (cs : List Value) (y : DataW H × List MemPlace), DataW.trod enc Tryd.prog W base (fun _ => true) true n te cs = some y → ∃ r : α, (F r ∧ wt r ≤ Rows.uptoBulk y.1) ∧ ∀ g o, (∀ j u, cs[j]? = some u → W.cell? ⟨g, o + j, none⟩ = some u) → P W g o r)
    {fuel : Nat} {c : Value} {x : DataW H × List MemPlace} (h : DataW.trod enc Tryd.prog W base (fun _ => true) true fuel ts [c] = some x) :
    ∃ (l : List α), Sq st P W c l ∧ (∀ r ∈ l, F r) ∧ (l.map wt).sum + 1 ≤ Rows.uptoBulk x.1 ∧ l.length + 1 ≤ Rows.uptoBulk x.1 := by
  rcases open_slice hu h with ⟨hcs, hx⟩ | ⟨a, len, cap, m, n, D, Pl, hcs, _, hl, hm, hmm, hx, hel⟩
  · injection hcs with hcs
    subst hcs
    exact ⟨[], Or.inl ⟨rfl, _, _, rfl, fun _ => rfl⟩, fun s hs => by simp at hs, by rw [hx]; simp [Rows.uptoBulk], by rw [hx]; simp [Rows.uptoBulk]⟩
  · simp only [if_true] at hmm
    have hmm' : cap = m := hmm.symm
    subst hmm'
    injection hcs with hcs
    subst hcs
    obtain ⟨b, off, spot⟩ := a
    rw [hc] at hel
    have hbk : len + 1 ≤ Rows.uptoBulk x.1 := by
      rw [hx]
      have := bulk_len ((List.range len).map D)
      simp only [List.length_map, List.length_range] at this
      simp only [Rows.uptoBulk]
      omega
    by_cases hc0 : cap = 0
    · subst hc0
      have hlen0 : len = 0 := by omega
      subst hlen0
      exact ⟨[], Or.inl ⟨rfl, _, _, rfl, fun e => by cases e⟩, fun s hs => by simp at hs, by simpa using hbk, by simpa using hbk⟩
    · have h00 : ∃ u, W.cell? (⟨b, off, spot⟩ : Addr) = some u := by
        obtain ⟨cs', h1, h2⟩ := hel 0 (by omega)
        obtain ⟨_, hlen, hcell⟩ := World.cells?_some h1
        have e0 := hcell 0 (by omega)
        rw [add_add] at e0
        have hk : 0 < cs'.length := by omega
        exact ⟨cs'[0], by simpa [Addr.add, hk] using e0⟩
      obtain ⟨u0, hu0⟩ := h00
      have hspot : spot = none := by simpa using World.cell?_spot hu0
      subst hspot
      have hb : b < W.heap.size := cell_lt hu0
      have each' : ∀ i, i < cap → ∃ q : α, (F q ∧ wt q ≤ Rows.uptoBulk (D i)) ∧ P W b (off + i * st) q := by
        intro i hi
        obtain ⟨cs', h1, h2⟩ := hel i hi
        obtain ⟨_, hlen, hcell⟩ := World.cells?_some h1
        obtain ⟨r, hf, hp⟩ := each n cs' _ h2
        refine ⟨r, hf, hp b _ (fun j u hj => ?_)⟩
        have hjl : j < cs'.length := (List.getElem?_eq_some_iff.1 hj).1
        have e0 := hcell j (by omega)
        rw [add_add, plain_add] at e0
        rw [← Nat.add_assoc] at e0
        rw [e0]
        simpa using hj
      obtain ⟨q, hq⟩ := choose_lt each'
      refine ⟨(List.range len).map q, Or.inr ⟨b, off, cap, by simp, by simpa using hl, hm, hb, fun i r hr => ?_⟩, fun r hr => ?_, ?_, by simpa using hbk⟩
      · rw [List.getElem?_map] at hr
        obtain ⟨k, hk, rfl⟩ := Option.map_eq_some_iff.1 hr
        obtain ⟨hk1, hk2⟩ := List.getElem?_eq_some_iff.1 hk
        have hki : i = k := by simpa using hk2
        subst hki
        have hk3 : i < len := by simpa using hk1
        exact (hq i (by omega)).2
      · obtain ⟨i, hi, rfl⟩ := List.mem_map.1 hr
        exact (hq i (by have := List.mem_range.1 hi; omega)).1.1
      · rw [hx]
        have := bulk_sum D (fun i => wt (q i)) len (fun i hi => (hq i (by omega)).1.2)
        rw [List.map_map]
        simp only [Rows.uptoBulk]
        have e : (List.map (wt ∘ q) (List.range len)).sum = ((List.range len).map fun i => wt (q i)).sum := rfl
        omega
theorem rule_trodC {n : Nat} {cs : List Value} {y : DataW H × List MemPlace} (h : DataW.trod enc Tryd.prog W base (fun _ => true) true n 31 cs = some y) :
    ∃ (r : Rl) (a b c : Value), cs = [a, b, c] ∧ Strs W a r.1 ∧ Strs W b r.2.1 ∧ Strs W c r.2.2 ∧ FitR r ∧ ruleT r ≤ Rows.uptoBulk y.1 := by
  obtain ⟨y0, y1, y2, n, rfl, hlen, h0, h1, h2⟩ := trod_struct3 Tryd.underlying31 h
  rw [cellsRule] at hlen
  obtain ⟨c0, c1, c2, rfl⟩ := len3 hlen
  obtain ⟨l0, s0, f0, b0⟩ := strs_trodC (cell_of 0 rfl cellsStrs h0)
  obtain ⟨l1, s1, f1, b1⟩ := strs_trodC (cell_of 1 rfl cellsStrs h1)
  obtain ⟨l2, s2, f2, b2⟩ := strs_trodC (cell_of 2 rfl cellsStrs h2)
  refine ⟨(l0, l1, l2), c0, c1, c2, rfl, s0, s1, s2, ⟨f0, f1, f2⟩, ?_⟩
  simp only [ruleT, Rows.uptoBulk, Rows.uptoBulkAll]
  omega
theorem rules_trodC {n : Nat} {c : Value} {y : DataW H × List MemPlace} (h : DataW.trod enc Tryd.prog W base (fun _ => true) true n 29 [c] = some y) :
    ∃ l : List Rl, Rls W c l ∧ (∀ r ∈ l, FitR r) ∧ (∀ r ∈ l, ruleT r ≤ Rows.uptoBulk y.1) ∧ l.length ≤ Rows.uptoBulk y.1 := by
  obtain ⟨l, h1, h2, h3, h4⟩ := sqB_trod 3 RlAt FitR ruleT Tryd.underlying29 cellsRule (by omega) (fun n cs y h => by
    obtain ⟨r, a, b, c, rfl, s0, s1, s2, f, g⟩ := rule_trodC h
    exact ⟨r, ⟨f, g⟩, fun g o hc => ⟨a, b, c, hc 0 a rfl, hc 1 b rfl, hc 2 c rfl, s0, s1, s2⟩⟩) h
  exact ⟨l, h1, h2, fun r hr => by have := sum_mem ruleT hr; omega, by omega⟩
theorem rules_argC {v : Value} {d : DataW H} {p : List MemPlace} (hval : Value.okWide Tryd.prog W .any base 29 v) (h : DataW.Trod enc Tryd.prog W 0 (fun _ => true) true 29 v d p) (hd : Rows.uptoBulk d ≤ 1048576) :
    ∃ l : List Rl, Rls W v l ∧ l.length ≤ 1048576 ∧ ∀ r ∈ l, SmR r ∧ ruleT r ≤ 1048576 := by
  obtain ⟨fuel, hf⟩ := h
  have hc : v.cells.toList = [v] := by
    obtain ⟨a0, len, cap, rfl⟩ := okWide_slice Tryd.underlying29 hval
    rfl
  rw [hc] at hf
  obtain ⟨l, h1, h2, h3, h4⟩ := rules_trodC hf
  exact ⟨l, h1, by simp only at h4; omega, fun r hr => by have h5 := h3 r hr; simp only at h5; exact ⟨ruleT_small (h2 r hr) (by omega), by omega⟩⟩
theorem rule_argC {v : Value} {d : DataW H} {p : List MemPlace} (hval : Value.okWide Tryd.prog W .any base 31 v) (h : DataW.Trod enc Tryd.prog W 0 (fun _ => true) true 31 v d p) (hd : Rows.uptoBulk d ≤ 1048576) :
    ∃ (r : Rl) (a b c : Value), v = .agg #[a, b, c] ∧ Strs W a r.1 ∧ Strs W b r.2.1 ∧ Strs W c r.2.2 ∧ SmR r ∧ ruleT r ≤ 1048576 := by
  obtain ⟨cs, rfl, _⟩ := okWide_struct Tryd.underlying31 hval
  obtain ⟨fuel, hf⟩ := h
  obtain ⟨r, a, b, c, e, h1, h2, h3, h4, h5⟩ := rule_trodC hf
  have e' : cs.toList = [a, b, c] := e
  simp only at h5
  exact ⟨r, a, b, c, by rw [show cs = #[a, b, c] from Array.toList_inj.1 e'], h1, h2, h3, ruleT_small h4 (by omega), by omega⟩
end
end Go.Proofs.YtnjjlnhchfoigaaDoor
