/- Selectors and labels that come in: how they lie in memory. -/
import Derived.Test.YtgaopmdpcjcooaaGreatDoorRows
import Derived.Test.YtgaopmdpcjcooaaGreatDoorQMem
import Derived.Deep.SlicePairs
import Derived.Deep.Strs
import Derived.Carry
import Derived.ProofKit
import Derived.OpenShut
import Derived.ShutString
namespace Go.Proofs.YtgaopmdpcjcooaaGreatDoor
open Go.ChangeShapes Go.WideShapes Go.ChangeAt Go.RowKit Go.Deep
set_option linter.unusedVariables false
set_option linter.unusedSimpArgs false
theorem laidOutA : laidOutB Tryz.prog = true := by kernel_rfl
theorem cellsStr : Tryz.prog.cellsOf 9 = 1 := by kernel_rfl
theorem cellsInt : Tryz.prog.cellsOf 3 = 1 := by kernel_rfl
theorem cellsStrs : Tryz.prog.cellsOf 33 = 1 := by kernel_rfl
theorem cellsReq : Tryz.prog.cellsOf 35 = 3 := by kernel_rfl
theorem cellsLabel : Tryz.prog.cellsOf 31 = 2 := by kernel_rfl
theorem lt_of_cell {W : World} {a : Addr} {v : Value} (h : W.cell? a = some v) : a.block < W.heap.size := by
  rcases Nat.lt_or_ge a.block W.heap.size with h1 | h1
  · exact h1
  · simp [World.cell?, Array.getElem?_eq_none h1] at h
theorem len3 : ∀ {l : List Value}, l.length = 3 → ∃ a b c, l = [a, b, c]
  | [a, b, c], _ => ⟨a, b, c, rfl⟩
theorem len2 : ∀ {l : List Value}, l.length = 2 → ∃ a b, l = [a, b]
  | [a, b], _ => ⟨a, b, rfl⟩
section
variable {H : Type} {enc : TypeId × Value → H} {W : World} {base : Nat}
set_option maxRecDepth 100000
theorem strs_trod {fuel : Nat} {cs : List Value} {x : DataW H × List MemPlace} (h : DataW.trod enc Tryz.prog W base (fun _ => true) true fuel 33 cs = some x) :
    ∃ (u : Value) (l : List Bs), cs = [u] ∧ Strs W u l ∧ ∀ s ∈ l, s.length ≤ maxLen := by
  rcases open_strs Tryz.underlying33 Tryz.underlying9 cellsStr h with ⟨hcs, hx⟩ | ⟨a, len, cap, m, Sx, hcs, _, hl, hm, hmm, hx, hcell⟩
  · exact ⟨_, [], hcs, Or.inl ⟨rfl, _, _, rfl⟩, fun s hs => by simp at hs⟩
  · simp only [if_true] at hmm
    have hmm' : cap = m := hmm.symm
    subst hmm'
    obtain ⟨b, off, spot⟩ := a
    by_cases hc0 : cap = 0
    · subst hc0
      have hlen0 : len = 0 := by omega
      subst hlen0
      exact ⟨_, [], hcs, Or.inl ⟨rfl, _, _, rfl⟩, fun s hs => by simp at hs⟩
    · have hspot : spot = none := by simpa [Addr.add] using World.cell?_spot (hcell 0 (by omega)).1
      subst hspot
      have hcell' : ∀ j, j < cap → W.cell? ⟨b, off + j, none⟩ = some (.string (Sx j)) := fun j hj => by rw [← add_plain]; exact (hcell j hj).1
      refine ⟨_, (List.range len).map fun i => (Sx i).data.toList, hcs, Or.inr ⟨b, off, cap, by simp, by simpa using hl, hm, lt_of_cell (hcell' 0 (by omega)), fun i s hs => ?_⟩, fun s hs => ?_⟩
      · rw [List.getElem?_map] at hs
        obtain ⟨k, hk, rfl⟩ := Option.map_eq_some_iff.1 hs
        obtain ⟨hk1, hk2⟩ := List.getElem?_eq_some_iff.1 hk
        have hki : i = k := by simpa using hk2
        subst hki
        have hk3 : i < len := by simpa using hk1
        rw [hcell' i (by omega)]
      · obtain ⟨i, hi, rfl⟩ := List.mem_map.1 hs
        have := (hcell i (by have := List.mem_range.1 hi; omega)).2
        simpa using this
theorem req_trod {fuel : Nat} {cs : List Value} {x : DataW H × List MemPlace} (h : DataW.trod enc Tryz.prog W base (fun _ => true) true fuel 35 cs = some x) :
    ∃ (r : Rq) (u : Value), cs = [.string (Ba r.1), .int .i64 r.2.1, u] ∧ Strs W u r.2.2 ∧ Fit r := by
  obtain ⟨y0, y1, y2, n, rfl, hlen, h0, h1, h2⟩ := trod_struct3 Tryz.underlying35 h
  rw [cellsReq] at hlen
  obtain ⟨c0, c1, c2, rfl⟩ := len3 hlen
  have h0' : DataW.trod enc Tryz.prog W base (fun _ => true) true n 9 [c0] = some y0 := by
    have e : (([c0, c1, c2] : List Value).drop 0).take (Tryz.prog.cellsOf 9) = [c0] := by rw [cellsStr]; rfl
    rw [← e]; exact h0
  have h1' : DataW.trod enc Tryz.prog W base (fun _ => true) true n 3 [c1] = some y1 := by
    have e : (([c0, c1, c2] : List Value).drop 1).take (Tryz.prog.cellsOf 3) = [c1] := by rw [cellsInt]; rfl
    rw [← e]; exact h1
  have h2' : DataW.trod enc Tryz.prog W base (fun _ => true) true n 33 [c2] = some y2 := by
    have e : (([c0, c1, c2] : List Value).drop 2).take (Tryz.prog.cellsOf 33) = [c2] := by rw [cellsStrs]; rfl
    rw [← e]; exact h2
  obtain ⟨s, e0, _, hs⟩ := DataW.trod_string Tryz.underlying9 h0'
  obtain ⟨k, e1, _⟩ := DataW.trod_int Tryz.underlying3 h1'
  obtain ⟨u, l, e2, hu, hl⟩ := strs_trod h2'
  injection e0 with e0
  injection e1 with e1
  injection e2 with e2
  subst e0 e1 e2
  exact ⟨(s.data.toList, k, l), _, rfl, hu, by simpa using hs, hl⟩
theorem reqs_trod {fuel : Nat} {cs : List Value} {x : DataW H × List MemPlace} (h : DataW.trod enc Tryz.prog W base (fun _ => true) true fuel 22 cs = some x) :
    ∃ (v : Value) (l : List Rq), cs = [v] ∧ Reqs W v l ∧ ∀ r ∈ l, Fit r := by
  rcases open_slice Tryz.underlying22 h with ⟨hcs, hx⟩ | ⟨a, len, cap, m, n, D, Pl, hcs, _, hl, hm, hmm, hx, hel⟩
  · exact ⟨_, [], hcs, Or.inl ⟨rfl, _, _, rfl⟩, fun s hs => by simp at hs⟩
  · simp only [if_true] at hmm
    have hmm' : cap = m := hmm.symm
    subst hmm'
    obtain ⟨b, off, spot⟩ := a
    rw [cellsReq] at hel
    have each : ∀ i, i < cap → ∃ q : Rq × Value, W.cell? ((⟨b, off, spot⟩ : Addr).add (i * 3)) = some (.string (Ba q.1.1)) ∧ W.cell? ((⟨b, off, spot⟩ : Addr).add (i * 3 + 1)) = some (.int .i64 q.1.2.1) ∧ W.cell? ((⟨b, off, spot⟩ : Addr).add (i * 3 + 2)) = some q.2 ∧ Strs W q.2 q.1.2.2 ∧ Fit q.1 := by
      intro i hi
      obtain ⟨cs', h1, h2⟩ := hel i hi
      obtain ⟨_, hlen, hcell⟩ := World.cells?_some h1
      obtain ⟨r, u, rfl, hu, hf⟩ := req_trod h2
      have e0 := hcell 0 (by omega)
      have e1 := hcell 1 (by omega)
      have e2 := hcell 2 (by omega)
      rw [add_add] at e0 e1 e2
      exact ⟨(r, u), by simpa using e0, by simpa using e1, by simpa using e2, hu, hf⟩
    obtain ⟨q, hq⟩ := choose_lt each
    by_cases hc0 : cap = 0
    · subst hc0
      have hlen0 : len = 0 := by omega
      subst hlen0
      exact ⟨_, [], hcs, Or.inl ⟨rfl, _, _, rfl⟩, fun s hs => by simp at hs⟩
    · have hspot : spot = none := by simpa [Addr.add] using World.cell?_spot (hq 0 (by omega)).1
      subst hspot
      have hb : b < W.heap.size := lt_of_cell (hq 0 (by omega)).1
      refine ⟨_, (List.range len).map fun i => (q i).1, hcs, Or.inr ⟨b, off, cap, by simp, by simpa using hl, hm, hb, fun i r hr => ?_⟩, fun r hr => ?_⟩
      · rw [List.getElem?_map] at hr
        obtain ⟨k, hk, rfl⟩ := Option.map_eq_some_iff.1 hr
        obtain ⟨hk1, hk2⟩ := List.getElem?_eq_some_iff.1 hk
        have hki : i = k := by simpa using hk2
        subst hki
        have hk3 : i < len := by simpa using hk1
        obtain ⟨g0, g1, g2, g3, _⟩ := hq i (by omega)
        rw [add_plain] at g0 g1 g2
        exact ⟨g0, g1, _, g2, g3⟩
      · obtain ⟨i, hi, rfl⟩ := List.mem_map.1 hr
        exact (hq i (by have := List.mem_range.1 hi; omega)).2.2.2.2
theorem labs_trod {fuel : Nat} {cs : List Value} {x : DataW H × List MemPlace} (h : DataW.trod enc Tryz.prog W base (fun _ => true) true fuel 23 cs = some x) :
    ∃ (v : Value) (l : List Lb), cs = [v] ∧ Labs W v l ∧ ∀ x ∈ l, x.1.length ≤ maxLen ∧ x.2.length ≤ maxLen := by
  rcases open_slice_pairs Tryz.underlying23 Tryz.underlying31 cellsLabel rfl rfl cellsStr cellsStr h with ⟨hcs, hx⟩ | ⟨a, len, cap, m, n, V0, V1, D0, D1, P0, P1, hcs, _, hl, hm, hmm, hx, hel⟩
  · exact ⟨_, [], hcs, Or.inl ⟨rfl, _, _, rfl⟩, fun s hs => by simp at hs⟩
  · simp only [if_true] at hmm
    have hmm' : cap = m := hmm.symm
    subst hmm'
    obtain ⟨b, off, spot⟩ := a
    have each : ∀ i, i < cap → ∃ q : Lb, W.cell? ((⟨b, off, spot⟩ : Addr).add (i * 2)) = some (.string (Ba q.1)) ∧ W.cell? ((⟨b, off, spot⟩ : Addr).add (i * 2 + 1)) = some (.string (Ba q.2)) ∧ q.1.length ≤ maxLen ∧ q.2.length ≤ maxLen := by
      intro i hi
      obtain ⟨h1, h2, h3, h4⟩ := hel i hi
      obtain ⟨s, e0, _, hs⟩ := DataW.trod_string Tryz.underlying9 h3
      obtain ⟨s2, e1, _, hs2⟩ := DataW.trod_string Tryz.underlying9 h4
      injection e0 with e0
      injection e1 with e1
      rw [e0] at h1
      rw [e1] at h2
      exact ⟨(s.data.toList, s2.data.toList), h1, h2, by simpa using hs, by simpa using hs2⟩
    obtain ⟨q, hq⟩ := choose_lt each
    by_cases hc0 : cap = 0
    · subst hc0
      have hlen0 : len = 0 := by omega
      subst hlen0
      exact ⟨_, [], hcs, Or.inl ⟨rfl, _, _, rfl⟩, fun s hs => by simp at hs⟩
    · have hspot : spot = none := by simpa [Addr.add] using World.cell?_spot (hq 0 (by omega)).1
      subst hspot
      have hb : b < W.heap.size := lt_of_cell (hq 0 (by omega)).1
      refine ⟨_, (List.range len).map q, hcs, Or.inr ⟨b, off, cap, by simp, by simpa using hl, hm, hb, fun i r hr => ?_⟩, fun r hr => ?_⟩
      · rw [List.getElem?_map] at hr
        obtain ⟨k, hk, rfl⟩ := Option.map_eq_some_iff.1 hr
        obtain ⟨hk1, hk2⟩ := List.getElem?_eq_some_iff.1 hk
        have hki : i = k := by simpa using hk2
        subst hki
        have hk3 : i < len := by simpa using hk1
        obtain ⟨g0, g1, _⟩ := hq i (by omega)
        rw [add_plain] at g0 g1
        exact ⟨g0, g1⟩
      · obtain ⟨i, hi, rfl⟩ := List.mem_map.1 hr
        exact (hq i (by have := List.mem_range.1 hi; omega)).2.2
theorem req_arg {v : Value} {d : DataW H} {p : List MemPlace} (hval : Value.okWide Tryz.prog W .any base 35 v) (h : DataW.Trod enc Tryz.prog W 0 (fun _ => true) true 35 v d p) :
    ∃ (r : Rq) (u : Value), v = .agg #[.string (Ba r.1), .int .i64 r.2.1, u] ∧ Strs W u r.2.2 ∧ Fit r := by
  obtain ⟨cs, rfl, _⟩ := okWide_struct Tryz.underlying35 hval
  obtain ⟨fuel, hf⟩ := h
  obtain ⟨r, u, e, hu, hfit⟩ := req_trod hf
  refine ⟨r, u, ?_, hu, hfit⟩
  have e' : cs.toList = [.string (Ba r.1), .int .i64 r.2.1, u] := e
  rw [show cs = #[.string (Ba r.1), .int .i64 r.2.1, u] from Array.toList_inj.1 e']
theorem reqs_arg {v : Value} {d : DataW H} {p : List MemPlace} (hval : Value.okWide Tryz.prog W .any base 22 v) (h : DataW.Trod enc Tryz.prog W 0 (fun _ => true) true 22 v d p) :
    ∃ l : List Rq, Reqs W v l ∧ ∀ r ∈ l, Fit r := by
  obtain ⟨a0, len, cap, rfl⟩ := okWide_slice Tryz.underlying22 hval
  obtain ⟨fuel, hf⟩ := h
  obtain ⟨v, l, e, hv, hfit⟩ := reqs_trod hf
  have e' : [Value.slice a0 len cap] = [v] := e
  injection e' with e'
  rw [e']
  exact ⟨l, hv, hfit⟩
theorem labs_arg {v : Value} {d : DataW H} {p : List MemPlace} (hval : Value.okWide Tryz.prog W .any base 23 v) (h : DataW.Trod enc Tryz.prog W 0 (fun _ => true) true 23 v d p) :
    ∃ l : List Lb, Labs W v l ∧ ∀ x ∈ l, x.1.length ≤ maxLen ∧ x.2.length ≤ maxLen := by
  obtain ⟨a0, len, cap, rfl⟩ := okWide_slice Tryz.underlying23 hval
  obtain ⟨fuel, hf⟩ := h
  obtain ⟨v, l, e, hv, hfit⟩ := labs_trod hf
  have e' : [Value.slice a0 len cap] = [v] := e
  injection e' with e'
  rw [e']
  exact ⟨l, hv, hfit⟩
end
end Go.Proofs.YtgaopmdpcjcooaaGreatDoor
