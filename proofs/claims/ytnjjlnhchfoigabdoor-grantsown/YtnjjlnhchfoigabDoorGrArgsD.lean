/- Grants, users, asks, rules that come in: how they lie in memory. -/
import Derived.Test.YtnjjlnhchfoigabDoorRows
import Derived.Test.YtnjjlnhchfoigabDoorGrTop
import Derived.Test.YtnjjlnhchfoigabDoorGrAllows
import Derived.Deep.SlicePairs
import Derived.Deep.Strs
import Derived.Carry
import Derived.ProofKit
import Derived.OpenShut
import Derived.ShutString
namespace Go.Proofs.YtnjjlnhchfoigabDoor
open Go.ChangeShapes Go.WideShapes Go.ChangeAt Go.RowKit Go.Deep
set_option linter.unusedVariables false
set_option linter.unusedSimpArgs false
theorem laidOutA : laidOutB Tryd.prog = true := by kernel_rfl
theorem cellsStr : Tryd.prog.cellsOf 9 = 1 := by kernel_rfl
theorem cellsBool : Tryd.prog.cellsOf 4 = 1 := by kernel_rfl
theorem cellsStrs : Tryd.prog.cellsOf 26 = 1 := by kernel_rfl
theorem cellsRules : Tryd.prog.cellsOf 29 = 1 := by kernel_rfl
theorem cellsRoles : Tryd.prog.cellsOf 22 = 1 := by kernel_rfl
theorem cellsBinds : Tryd.prog.cellsOf 23 = 1 := by kernel_rfl
theorem cellsRule : Tryd.prog.cellsOf 40 = 3 := by kernel_rfl
theorem cellsRole : Tryd.prog.cellsOf 59 = 3 := by kernel_rfl
theorem cellsBind : Tryd.prog.cellsOf 61 = 6 := by kernel_rfl
theorem cellsUser : Tryd.prog.cellsOf 28 = 2 := by kernel_rfl
theorem cellsGrants : Tryd.prog.cellsOf 25 = 2 := by kernel_rfl
theorem cellsAsk : Tryd.prog.cellsOf 31 = 4 := by kernel_rfl
theorem len2 : ∀ {l : List Value}, l.length = 2 → ∃ a b, l = [a, b]
  | [a, b], _ => ⟨a, b, rfl⟩
theorem len3 : ∀ {l : List Value}, l.length = 3 → ∃ a b c, l = [a, b, c]
  | [a, b, c], _ => ⟨a, b, c, rfl⟩
theorem len4 : ∀ {l : List Value}, l.length = 4 → ∃ a b c d, l = [a, b, c, d]
  | [a, b, c, d], _ => ⟨a, b, c, d, rfl⟩
theorem len6 : ∀ {l : List Value}, l.length = 6 → ∃ a b c d e f, l = [a, b, c, d, e, f]
  | [a, b, c, d, e, f], _ => ⟨a, b, c, d, e, f, rfl⟩
section
variable {H : Type} {enc : TypeId × Value → H} {W : World} {base : Nat}
set_option maxRecDepth 100000
/-- one cell of a thing, read as what it is -/
theorem cell_of {n : Nat} {cs : List Value} {t : TypeId} {y : DataW H × List MemPlace} (k : Nat) {c : Value} (hc : cs[k]? = some c) (h1 : Tryd.prog.cellsOf t = 1)
    (h : DataW.trod enc Tryd.prog W base (fun _ => true) true n t ((cs.drop k).take (Tryd.prog.cellsOf t)) = some y) : DataW.trod enc Tryd.prog W base (fun _ => true) true n t [c] = some y := by
  have e : (cs.drop k).take (Tryd.prog.cellsOf t) = [c] := by
    have hk : k < cs.length := (List.getElem?_eq_some_iff.1 hc).1
    rw [h1, List.drop_eq_getElem_cons hk, List.take_succ_cons, List.take_zero]
    rw [List.getElem?_eq_getElem hk] at hc
    rw [Option.some.inj hc]
  rw [← e]; exact h
theorem str_trod {fuel : Nat} {c : Value} {y : DataW H × List MemPlace} (h : DataW.trod enc Tryd.prog W base (fun _ => true) true fuel 9 [c] = some y) : ∃ s : Bs, c = .string (Ba s) ∧ s.length ≤ maxLen := by
  obtain ⟨s, e0, _, hs⟩ := DataW.trod_string Tryd.underlying9 h
  injection e0 with e0
  subst e0
  exact ⟨s.data.toList, rfl, by simpa using hs⟩
theorem strs_trod {fuel : Nat} {cs : List Value} {x : DataW H × List MemPlace} (h : DataW.trod enc Tryd.prog W base (fun _ => true) true fuel 26 cs = some x) :
    ∃ (u : Value) (l : List Bs), cs = [u] ∧ Strs W u l ∧ FitS l := by
  rcases open_strs Tryd.underlying26 Tryd.underlying9 cellsStr h with ⟨hcs, hx⟩ | ⟨a, len, cap, m, Sx, hcs, _, hl, hm, hmm, hx, hcell⟩
  · exact ⟨_, [], hcs, Or.inl ⟨rfl, _, _, rfl⟩, fun s hs => by simp at hs⟩
  · simp only [if_true] at hmm
    have hmm' : cap = m := hmm.symm
    subst hmm'
    obtain ⟨b, off, spot⟩ := a
    by_cases hc0 : cap = 0
    · subst hc0
      have hlen0 : len = 0 := by omega
      subst hlen0
      exact ⟨_, [], hcs, Or.inl ⟨rfl, _, _, rfl⟩, fun s hs => by simp at hs⟩
    · have hspot : spot = none := by simpa [Addr.add] using World.cell?_spot (hcell 0 (by omega)).1
      subst hspot
      have hcell' : ∀ j, j < cap → W.cell? ⟨b, off + j, none⟩ = some (.string (Sx j)) := fun j hj => by rw [← plain_add]; exact (hcell j hj).1
      refine ⟨_, (List.range len).map fun i => (Sx i).data.toList, hcs, Or.inr ⟨b, off, cap, by simp, by simpa using hl, hm, cell_lt (hcell' 0 (by omega)), fun i s hs => ?_⟩, fun s hs => ?_⟩
      · rw [List.getElem?_map] at hs
        obtain ⟨k, hk, rfl⟩ := Option.map_eq_some_iff.1 hs
        obtain ⟨hk1, hk2⟩ := List.getElem?_eq_some_iff.1 hk
        have hki : i = k := by simpa using hk2
        subst hki
        have hk3 : i < len := by simpa using hk1
        rw [hcell' i (by omega)]
      · obtain ⟨i, hi, rfl⟩ := List.mem_map.1 hs
        have := (hcell i (by have := List.mem_range.1 hi; omega)).2
        simpa using this
theorem strs1_trod {fuel : Nat} {c : Value} {x : DataW H × List MemPlace} (h : DataW.trod enc Tryd.prog W base (fun _ => true) true fuel 26 [c] = some x) : ∃ l : List Bs, Strs W c l ∧ FitS l := by
  obtain ⟨u, l, e, h1, h2⟩ := strs_trod h
  injection e with e
  subst e
  exact ⟨l, h1, h2⟩
/-- a slice of things of some cells each -/
theorem sq_trod {α : Type} [Inhabited α] (st : Nat) (P : World → Nat → Nat → α → Prop) (F : α → Prop) {ts te : TypeId} (hu : Tryd.prog.underlying ts = some (.slice te)) (hc : Tryd.prog.cellsOf te = st) (hst : 0 < st)
    (each : ∀ (n : Nat) (cs : List Value) (y : DataW H × List MemPlace), DataW.trod enc Tryd.prog W base (fun _ => true) true n te cs = some y → ∃ r : α, F r ∧ ∀ g o, (∀ j u, cs[j]? = some u → W.cell? ⟨g, o + j, none⟩ = some u) → P W g o r)
    {fuel : Nat} {cs : List Value} {x : DataW H × List MemPlace} (h : DataW.trod enc Tryd.prog W base (fun _ => true) true fuel ts cs = some x) :
    ∃ (v : Value) (l : List α), cs = [v] ∧ Sq st P W v l ∧ ∀ r ∈ l, F r := by
  rcases open_slice hu h with ⟨hcs, hx⟩ | ⟨a, len, cap, m, n, D, Pl, hcs, _, hl, hm, hmm, hx, hel⟩
  · exact ⟨_, [], hcs, Or.inl ⟨rfl, _, _, rfl, fun _ => rfl⟩, fun s hs => by simp at hs⟩
  · simp only [if_true] at hmm
    have hmm' : cap = m := hmm.symm
    subst hmm'
    obtain ⟨b, off, spot⟩ := a
    rw [hc] at hel
    by_cases hc0 : cap = 0
    · subst hc0
      have hlen0 : len = 0 := by omega
      subst hlen0
      exact ⟨_, [], hcs, Or.inl ⟨rfl, _, _, rfl, fun e => by cases e⟩, fun s hs => by simp at hs⟩
    · have h00 : ∃ u, W.cell? (⟨b, off, spot⟩ : Addr) = some u := by
        obtain ⟨cs', h1, h2⟩ := hel 0 (by omega)
        obtain ⟨_, hlen, hcell⟩ := World.cells?_some h1
        have e0 := hcell 0 (by omega)
        rw [add_add] at e0
        have hk : 0 < cs'.length := by omega
        exact ⟨cs'[0], by simpa [Addr.add, hk] using e0⟩
      obtain ⟨u0, hu0⟩ := h00
      have hspot : spot = none := by simpa using World.cell?_spot hu0
      subst hspot
      have hb : b < W.heap.size := cell_lt hu0
      have each' : ∀ i, i < cap → ∃ q : α, F q ∧ P W b (off + i * st) q := by
        intro i hi
        obtain ⟨cs', h1, h2⟩ := hel i hi
        obtain ⟨_, hlen, hcell⟩ := World.cells?_some h1
        obtain ⟨r, hf, hp⟩ := each n cs' _ h2
        refine ⟨r, hf, hp b _ (fun j u hj => ?_)⟩
        have hjl : j < cs'.length := (List.getElem?_eq_some_iff.1 hj).1
        have e0 := hcell j (by omega)
        rw [add_add, plain_add] at e0
        rw [← Nat.add_assoc] at e0
        rw [e0]
        simpa using hj
      obtain ⟨q, hq⟩ := choose_lt each'
      refine ⟨_, (List.range len).map q, hcs, Or.inr ⟨b, off, cap, by simp, by simpa using hl, hm, hb, fun i r hr => ?_⟩, fun r hr => ?_⟩
      · rw [List.getElem?_map] at hr
        obtain ⟨k, hk, rfl⟩ := Option.map_eq_some_iff.1 hr
        obtain ⟨hk1, hk2⟩ := List.getElem?_eq_some_iff.1 hk
        have hki : i = k := by simpa using hk2
        subst hki
        have hk3 : i < len := by simpa using hk1
        exact (hq i (by omega)).2
      · obtain ⟨i, hi, rfl⟩ := List.mem_map.1 hr
        exact (hq i (by have := List.mem_range.1 hi; omega)).1
theorem rule_trod {n : Nat} {cs : List Value} {y : DataW H × List MemPlace} (h : DataW.trod enc Tryd.prog W base (fun _ => true) true n 40 cs = some y) :
    ∃ (r : Rl) (a b c : Value), cs = [a, b, c] ∧ Strs W a r.1 ∧ Strs W b r.2.1 ∧ Strs W c r.2.2 ∧ FitR r := by
  obtain ⟨y0, y1, y2, n, rfl, hlen, h0, h1, h2⟩ := trod_struct3 Tryd.underlying40 h
  rw [cellsRule] at hlen
  obtain ⟨c0, c1, c2, rfl⟩ := len3 hlen
  obtain ⟨l0, s0, f0⟩ := strs1_trod (cell_of 0 rfl cellsStrs h0)
  obtain ⟨l1, s1, f1⟩ := strs1_trod (cell_of 1 rfl cellsStrs h1)
  obtain ⟨l2, s2, f2⟩ := strs1_trod (cell_of 2 rfl cellsStrs h2)
  exact ⟨(l0, l1, l2), c0, c1, c2, rfl, s0, s1, s2, f0, f1, f2⟩
theorem rules_trod {n : Nat} {c : Value} {y : DataW H × List MemPlace} (h : DataW.trod enc Tryd.prog W base (fun _ => true) true n 29 [c] = some y) : ∃ l : List Rl, Rls W c l ∧ ∀ r ∈ l, FitR r := by
  obtain ⟨v, l, e, h1, h2⟩ := sq_trod 3 RlAt FitR Tryd.underlying29 cellsRule (by omega) (fun n cs y h => by
    obtain ⟨r, a, b, c, rfl, s0, s1, s2, f⟩ := rule_trod h
    exact ⟨r, f, fun g o hc => ⟨a, b, c, hc 0 a rfl, hc 1 b rfl, hc 2 c rfl, s0, s1, s2⟩⟩) h
  injection e with e
  subst e
  exact ⟨l, h1, h2⟩
theorem role_trod {n : Nat} {cs : List Value} {y : DataW H × List MemPlace} (h : DataW.trod enc Tryd.prog W base (fun _ => true) true n 59 cs = some y) :
    ∃ (r : Ro) (c : Value), cs = [.string (Ba r.1), .string (Ba r.2.1), c] ∧ Rls W c r.2.2 ∧ FitO r := by
  obtain ⟨y0, y1, y2, n, rfl, hlen, h0, h1, h2⟩ := trod_struct3 Tryd.underlying59 h
  rw [cellsRole] at hlen
  obtain ⟨c0, c1, c2, rfl⟩ := len3 hlen
  obtain ⟨a, rfl, fa⟩ := str_trod (cell_of 0 rfl cellsStr h0)
  obtain ⟨b, rfl, fb⟩ := str_trod (cell_of 1 rfl cellsStr h1)
  obtain ⟨l2, s2, f2⟩ := rules_trod (cell_of 2 rfl cellsRules h2)
  exact ⟨(a, b, l2), c2, rfl, s2, fa, fb, f2⟩
theorem roles_trod {n : Nat} {c : Value} {y : DataW H × List MemPlace} (h : DataW.trod enc Tryd.prog W base (fun _ => true) true n 22 [c] = some y) : ∃ l : List Ro, Ros W c l ∧ ∀ r ∈ l, FitO r := by
  obtain ⟨v, l, e, h1, h2⟩ := sq_trod 3 RoAt FitO Tryd.underlying22 cellsRole (by omega) (fun n cs y h => by
    obtain ⟨r, c, rfl, s, f⟩ := role_trod h
    exact ⟨r, f, fun g o hc => ⟨hc 0 _ rfl, hc 1 _ rfl, c, hc 2 c rfl, s⟩⟩) h
  injection e with e
  subst e
  exact ⟨l, h1, h2⟩
theorem trod_struct4 {P : Program} {t : TypeId} {f0 f1 f2 f3 : Field} {fuel : Nat} {cs : List Value} {x : DataW H × List MemPlace} {held : Bool} {spare : Nat → Bool} (ht : P.underlying t = some (.struct #[f0, f1, f2, f3])) (h : DataW.trod enc P W base spare held fuel t cs = some x) :
    ∃ y0 y1 y2 y3 n, cs.length = P.cellsOf t ∧ DataW.trod enc P W base spare held n f0.type ((cs.drop f0.offset).take (P.cellsOf f0.type)) = some y0 ∧ DataW.trod enc P W base spare held n f1.type ((cs.drop f1.offset).take (P.cellsOf f1.type)) = some y1 ∧
      DataW.trod enc P W base spare held n f2.type ((cs.drop f2.offset).take (P.cellsOf f2.type)) = some y2 ∧ DataW.trod enc P W base spare held n f3.type ((cs.drop f3.offset).take (P.cellsOf f3.type)) = some y3 := by
  obtain ⟨xs, n, _, rfl, hl, hlen, hf⟩ := DataW.trod_struct ht h
  match xs, hlen with
  | [y0, y1, y2, y3], _ => exact ⟨y0, y1, y2, y3, n, hl, by simpa using hf 0 f0 rfl, by simpa using hf 1 f1 rfl, by simpa using hf 2 f2 rfl, by simpa using hf 3 f3 rfl⟩
theorem trod_struct6 {P : Program} {t : TypeId} {f0 f1 f2 f3 f4 f5 : Field} {fuel : Nat} {cs : List Value} {x : DataW H × List MemPlace} {held : Bool} {spare : Nat → Bool} (ht : P.underlying t = some (.struct #[f0, f1, f2, f3, f4, f5])) (h : DataW.trod enc P W base spare held fuel t cs = some x) :
    ∃ y0 y1 y2 y3 y4 y5 n, cs.length = P.cellsOf t ∧ DataW.trod enc P W base spare held n f0.type ((cs.drop f0.offset).take (P.cellsOf f0.type)) = some y0 ∧ DataW.trod enc P W base spare held n f1.type ((cs.drop f1.offset).take (P.cellsOf f1.type)) = some y1 ∧
      DataW.trod enc P W base spare held n f2.type ((cs.drop f2.offset).take (P.cellsOf f2.type)) = some y2 ∧ DataW.trod enc P W base spare held n f3.type ((cs.drop f3.offset).take (P.cellsOf f3.type)) = some y3 ∧
      DataW.trod enc P W base spare held n f4.type ((cs.drop f4.offset).take (P.cellsOf f4.type)) = some y4 ∧ DataW.trod enc P W base spare held n f5.type ((cs.drop f5.offset).take (P.cellsOf f5.type)) = some y5 := by
  obtain ⟨xs, n, _, rfl, hl, hlen, hf⟩ := DataW.trod_struct ht h
  match xs, hlen with
  | [y0, y1, y2, y3, y4, y5], _ => exact ⟨y0, y1, y2, y3, y4, y5, n, hl, by simpa using hf 0 f0 rfl, by simpa using hf 1 f1 rfl, by simpa using hf 2 f2 rfl, by simpa using hf 3 f3 rfl, by simpa using hf 4 f4 rfl, by simpa using hf 5 f5 rfl⟩
theorem bind_trod {n : Nat} {cs : List Value} {y : DataW H × List MemPlace} (h : DataW.trod enc Tryd.prog W base (fun _ => true) true n 61 cs = some y) :
    ∃ (b : Bi) (u v : Value), cs = [.string (Ba b.1), .string (Ba b.2.1), .string (Ba b.2.2.1), .bool b.2.2.2.1, u, v] ∧ Strs W u b.2.2.2.2.1 ∧ Strs W v b.2.2.2.2.2 ∧ FitB b := by
  obtain ⟨y0, y1, y2, y3, y4, y5, n, hlen, h0, h1, h2, h3, h4, h5⟩ := trod_struct6 Tryd.underlying61 h
  rw [cellsBind] at hlen
  obtain ⟨c0, c1, c2, c3, c4, c5, rfl⟩ := len6 hlen
  obtain ⟨a, rfl, fa⟩ := str_trod (cell_of 0 rfl cellsStr h0)
  obtain ⟨b, rfl, fb⟩ := str_trod (cell_of 1 rfl cellsStr h1)
  obtain ⟨c, rfl, fc⟩ := str_trod (cell_of 2 rfl cellsStr h2)
  obtain ⟨k, e3, _⟩ := DataW.trod_bool Tryd.underlying4 (cell_of 3 rfl cellsBool h3)
  injection e3 with e3
  subst e3
  obtain ⟨l4, s4, f4⟩ := strs1_trod (cell_of 4 rfl cellsStrs h4)
  obtain ⟨l5, s5, f5⟩ := strs1_trod (cell_of 5 rfl cellsStrs h5)
  exact ⟨(a, b, c, k, l4, l5), c4, c5, rfl, s4, s5, fa, fb, fc, f4, f5⟩
theorem binds_trod {n : Nat} {c : Value} {y : DataW H × List MemPlace} (h : DataW.trod enc Tryd.prog W base (fun _ => true) true n 23 [c] = some y) : ∃ l : List Bi, Bis W c l ∧ ∀ r ∈ l, FitB r := by
  obtain ⟨v, l, e, h1, h2⟩ := sq_trod 6 BiAt FitB Tryd.underlying23 cellsBind (by omega) (fun n cs y h => by
    obtain ⟨r, u, v, rfl, s, s', f⟩ := bind_trod h
    exact ⟨r, f, fun g o hc => ⟨hc 0 _ rfl, hc 1 _ rfl, hc 2 _ rfl, hc 3 _ rfl, u, v, hc 4 _ rfl, hc 5 _ rfl, s, s'⟩⟩) h
  injection e with e
  subst e
  exact ⟨l, h1, h2⟩
theorem grants_arg {v : Value} {d : DataW H} {p : List MemPlace} (hval : Value.okWide Tryd.prog W .any base 25 v) (h : DataW.Trod enc Tryd.prog W 0 (fun _ => true) true 25 v d p) :
    ∃ (a b : Value) (rs : List Ro) (bs : List Bi), v = .agg #[a, b] ∧ Grs W a b rs bs := by
  obtain ⟨cs, rfl, _⟩ := okWide_struct Tryd.underlying25 hval
  obtain ⟨fuel, hf⟩ := h
  obtain ⟨y0, y1, n, _, hlen, h0, h1⟩ := trod_struct2 Tryd.underlying25 hf
  rw [cellsGrants] at hlen
  obtain ⟨c0, c1, hcs⟩ := len2 hlen
  have hcs' : cs.toList = [c0, c1] := hcs
  rw [hcs] at h0 h1
  obtain ⟨rs, s0, f0⟩ := roles_trod (cell_of 0 rfl cellsRoles h0)
  obtain ⟨bs, s1, f1⟩ := binds_trod (cell_of 1 rfl cellsBinds h1)
  exact ⟨c0, c1, rs, bs, by rw [show cs = #[c0, c1] from Array.toList_inj.1 hcs'], ⟨s0, s1, f0, f1⟩⟩
theorem user_arg {v : Value} {d : DataW H} {p : List MemPlace} (hval : Value.okWide Tryd.prog W .any base 28 v) (h : DataW.Trod enc Tryd.prog W 0 (fun _ => true) true 28 v d p) :
    ∃ (n : Bs) (u : Value) (l : List Bs), v = .agg #[.string (Ba n), u] ∧ Strs W u l ∧ n.length ≤ maxLen ∧ FitS l := by
  obtain ⟨cs, rfl, _⟩ := okWide_struct Tryd.underlying28 hval
  obtain ⟨fuel, hf⟩ := h
  obtain ⟨y0, y1, n, _, hlen, h0, h1⟩ := trod_struct2 Tryd.underlying28 hf
  rw [cellsUser] at hlen
  obtain ⟨c0, c1, hcs⟩ := len2 hlen
  have hcs' : cs.toList = [c0, c1] := hcs
  rw [hcs] at h0 h1
  obtain ⟨a, rfl, fa⟩ := str_trod (cell_of 0 rfl cellsStr h0)
  obtain ⟨l, s1, f1⟩ := strs1_trod (cell_of 1 rfl cellsStrs h1)
  exact ⟨a, c1, l, by rw [show cs = #[.string (Ba a), c1] from Array.toList_inj.1 hcs'], s1, fa, f1⟩
theorem ask_arg {v : Value} {d : DataW H} {p : List MemPlace} (hval : Value.okWide Tryd.prog W .any base 31 v) (h : DataW.Trod enc Tryd.prog W 0 (fun _ => true) true 31 v d p) :
    ∃ a : Ak, v = askV a ∧ FitA a := by
  obtain ⟨cs, rfl, _⟩ := okWide_struct Tryd.underlying31 hval
  obtain ⟨fuel, hf⟩ := h
  obtain ⟨y0, y1, y2, y3, n, hlen, h0, h1, h2, h3⟩ := trod_struct4 Tryd.underlying31 hf
  rw [cellsAsk] at hlen
  obtain ⟨c0, c1, c2, c3, hcs⟩ := len4 hlen
  have hcs' : cs.toList = [c0, c1, c2, c3] := hcs
  rw [hcs] at h0 h1 h2 h3
  obtain ⟨a, rfl, fa⟩ := str_trod (cell_of 0 rfl cellsStr h0)
  obtain ⟨b, rfl, fb⟩ := str_trod (cell_of 1 rfl cellsStr h1)
  obtain ⟨c, rfl, fc⟩ := str_trod (cell_of 2 rfl cellsStr h2)
  obtain ⟨e, rfl, fe⟩ := str_trod (cell_of 3 rfl cellsStr h3)
  exact ⟨(a, b, c, e), by rw [show cs = #[.string (Ba a), .string (Ba b), .string (Ba c), .string (Ba e)] from Array.toList_inj.1 hcs']; rfl, fa, fb, fc, fe⟩
theorem role_arg {v : Value} {d : DataW H} {p : List MemPlace} (hval : Value.okWide Tryd.prog W .any base 59 v) (h : DataW.Trod enc Tryd.prog W 0 (fun _ => true) true 59 v d p) :
    ∃ (r : Ro) (c : Value), v = .agg #[.string (Ba r.1), .string (Ba r.2.1), c] ∧ Rls W c r.2.2 ∧ FitO r := by
  obtain ⟨cs, rfl, _⟩ := okWide_struct Tryd.underlying59 hval
  obtain ⟨fuel, hf⟩ := h
  obtain ⟨r, c, e, h1, h2⟩ := role_trod hf
  have e' : cs.toList = [.string (Ba r.1), .string (Ba r.2.1), c] := e
  exact ⟨r, c, by rw [show cs = #[.string (Ba r.1), .string (Ba r.2.1), c] from Array.toList_inj.1 e'], h1, h2⟩
theorem bind_arg {v : Value} {d : DataW H} {p : List MemPlace} (hval : Value.okWide Tryd.prog W .any base 61 v) (h : DataW.Trod enc Tryd.prog W 0 (fun _ => true) true 61 v d p) :
    ∃ (b : Bi) (x y : Value), v = bindV b x y ∧ Strs W x b.2.2.2.2.1 ∧ Strs W y b.2.2.2.2.2 ∧ FitB b := by
  obtain ⟨cs, rfl, _⟩ := okWide_struct Tryd.underlying61 hval
  obtain ⟨fuel, hf⟩ := h
  obtain ⟨b, x, y, e, h1, h2, h3⟩ := bind_trod hf
  have e' : cs.toList = [.string (Ba b.1), .string (Ba b.2.1), .string (Ba b.2.2.1), .bool b.2.2.2.1, x, y] := e
  exact ⟨b, x, y, by rw [show cs = #[.string (Ba b.1), .string (Ba b.2.1), .string (Ba b.2.2.1), .bool b.2.2.2.1, x, y] from Array.toList_inj.1 e']; rfl, h1, h2, h3⟩
end
end Go.Proofs.YtnjjlnhchfoigabDoor
