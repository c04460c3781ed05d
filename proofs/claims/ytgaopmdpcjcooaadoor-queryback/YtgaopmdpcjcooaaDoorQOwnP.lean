/- Selectors of one's own; the document's Copy at them. -/
import Derived.Test.YtgaopmdpcjcooaaDoorQMem
import Derived.Laws.AppendOwn
import Derived.Laws.AppendOwnNone
namespace Go.Proofs.YtgaopmdpcjcooaaDoor
open Go.RowKit
set_option linter.unusedVariables false
set_option linter.unusedSimpArgs false
theorem info_req : (Tryd.prog.info? 33).map (fun i => (i.zero, i.size, i.bytes)) = some (some (.agg #[.string ⟨#[]⟩, .int .i64 0, .slice none 0 0]), 3, 48) := by kernel_rfl
/-- the cells of parts -/
def flatR (L : List (Rq × Value)) : List Value := L.flatMap fun p => [.string (Ba p.1.1), .int .i64 p.1.2.1, p.2]
theorem flatR_snoc (L : List (Rq × Value)) (p : Rq × Value) : flatR (L ++ [p]) = flatR L ++ [.string (Ba p.1.1), .int .i64 p.1.2.1, p.2] := by simp [flatR]
theorem flatR_len (L : List (Rq × Value)) : (flatR L).length = L.length * 3 := by
  induction L with
  | nil => rfl
  | cons p r ih =>
    have : flatR (p :: r) = [.string (Ba p.1.1), .int .i64 p.1.2.1, p.2] ++ flatR r := by simp [flatR]
    rw [this, List.length_append, ih]
    simp
    omega
theorem flatR_at : ∀ (L : List (Rq × Value)) (i : Nat) (p : Rq × Value), L[i]? = some p → (flatR L)[i * 3]? = some (.string (Ba p.1.1)) ∧ (flatR L)[i * 3 + 1]? = some (.int .i64 p.1.2.1) ∧ (flatR L)[i * 3 + 2]? = some p.2
  | [], i, p, h => by simp at h
  | q :: r, 0, p, h => by
    simp only [List.getElem?_cons_zero, Option.some.injEq] at h
    subst h
    exact ⟨rfl, rfl, rfl⟩
  | q :: r, i + 1, p, h => by
    have e : flatR (q :: r) = [.string (Ba q.1.1), .int .i64 q.1.2.1, q.2] ++ flatR r := by simp [flatR]
    obtain ⟨h1, h2, h3⟩ := flatR_at r i p (by simpa using h)
    rw [e]
    have l3 : ([.string (Ba q.1.1), .int .i64 q.1.2.1, q.2] : List Value).length = 3 := rfl
    refine ⟨?_, ?_, ?_⟩
    · rw [List.getElem?_append_right (by rw [l3]; omega), l3, show (i + 1) * 3 - 3 = i * 3 by omega]; exact h1
    · rw [List.getElem?_append_right (by rw [l3]; omega), l3, show (i + 1) * 3 + 1 - 3 = i * 3 + 1 by omega]; exact h2
    · rw [List.getElem?_append_right (by rw [l3]; omega), l3, show (i + 1) * 3 + 2 - 3 = i * 3 + 2 by omega]; exact h3
/-- a row of one's own: its cells -/
theorem owns_at {w : World} {B : Nat} {e : TypeId} {size : Nat} {v : Value} {n : Nat} {xs : List Value} (h : w.ownsRow B e size v n xs) : (v = .slice none 0 0 ∧ n = 0) ∨ ∃ g cap, v = .slice (some ⟨g, 0, none⟩) n cap ∧ B ≤ g ∧ g < w.heap.size ∧ n ≤ cap ∧ cap ≤ maxLen ∧ ∀ (j : Nat) (u : Value), xs[j]? = some u → w.cell? ⟨g, j, none⟩ = some u := by
  obtain ⟨hl, h | ⟨g, cap, cur, rfl, hB, hg, hc, hm, hs, ht⟩⟩ := h
  · exact Or.inl h
  · refine Or.inr ⟨g, cap, rfl, hB, lt_of_block hg, hc, hm, fun j u hj => ?_⟩
    rw [cell_of_row _ _ _ _ _ _ hg]
    rw [← ht] at hj
    have hj' : j < n * size := by
      have := (List.getElem?_eq_some_iff.1 hj).1
      rw [List.length_take] at this
      omega
    rw [List.getElem?_take, if_pos hj', Array.getElem?_toList] at hj
    exact hj
theorem reqs_of_owns {w : World} {B : Nat} {v : Value} {L : List (Rq × Value)} (h : w.ownsRow B 33 3 v L.length (flatR L)) (hS : ∀ p ∈ L, Strs w p.2 p.1.2.2) : Reqs w v (L.map (·.1)) := by
  rcases owns_at h with ⟨rfl, h0⟩ | ⟨g, cap, rfl, hB, hg, hc, hm, hcell⟩
  · have : L = [] := List.eq_nil_of_length_eq_zero h0
    subst this
    exact Or.inl ⟨rfl, _, _, rfl⟩
  · refine Or.inr ⟨g, 0, cap, by rw [List.length_map], by rw [List.length_map]; exact hc, hm, hg, fun i r hr => ?_⟩
    rw [List.getElem?_map] at hr
    obtain ⟨p, hp, rfl⟩ := Option.map_eq_some_iff.1 hr
    obtain ⟨h1, h2, h3⟩ := flatR_at L i p hp
    rw [Nat.zero_add]
    exact ⟨hcell _ _ h1, hcell _ _ h2, p.2, hcell _ _ h3, hS p (List.mem_of_getElem? hp)⟩
theorem new3 {w : World} {b : Nat} {x y z : Value} {t : TypeId} (hb : b = w.heap.size) : ∀ (j : Nat) (u : Value), [x, y, z][j]? = some u → (w.alloc (.cells #[x, y, z] t)).cell? ((⟨b, 0, none⟩ : Addr).add j) = some u := by
  subst hb
  intro j u hj
  match j, hj with
  | 0, hj => simp at hj; subst hj; simp [Addr.add]
  | 1, hj => simp at hj; subst hj; simp [Addr.add]
  | 2, hj => simp at hj; subst hj; simp [Addr.add]
theorem new1 {w : World} {b : Nat} {x : Value} {t : TypeId} (hb : b = w.heap.size) : ∀ (j : Nat) (u : Value), [x][j]? = some u → (w.alloc (.cells #[x] t)).cell? ((⟨b, 0, none⟩ : Addr).add j) = some u := by
  subst hb
  intro j u hj
  match j, hj with
  | 0, hj => simp at hj; subst hj; simp [Addr.add]
theorem new2 {w : World} {b : Nat} {x y : Value} {t : TypeId} (hb : b = w.heap.size) : ∀ (j : Nat) (u : Value), [x, y][j]? = some u → (w.alloc (.cells #[x, y] t)).cell? ((⟨b, 0, none⟩ : Addr).add j) = some u := by
  subst hb
  intro j u hj
  match j, hj with
  | 0, hj => simp at hj; subst hj; simp [Addr.add]
  | 1, hj => simp at hj; subst hj; simp [Addr.add]
theorem one3 {a : ByteArray} {k : Int} {p : Option Addr} {n c : Nat} : ∀ u ∈ [Value.string a, .int .i64 k, .slice p n c], u.oneCell' = true := by
  intro u hu
  simp only [List.mem_cons, List.not_mem_nil, or_false] at hu
  rcases hu with rfl | rfl | rfl <;> rfl
/-- a slice that is handed in: what its cells hold -/
def PartO (w : World) (pv : Value) (m : Nat) (cs : List Value) : Prop :=
  cs.length = m * 3 ∧ (∀ u ∈ cs, u.oneCell' = true) ∧ ((pv = .slice none 0 0 ∧ m = 0) ∨ ∃ (ad : Addr) (c : Nat), pv = .slice (some ad) m c ∧ (0 < m → ad.block < w.heap.size) ∧ ∀ (j : Nat) (u : Value), cs[j]? = some u → w.cell? (ad.add j) = some u)
theorem add_block (a : Addr) (j : Nat) : (a.add j).block = a.block := by
  unfold Addr.add
  split <;> rfl
theorem PartO.below {w w' : World} {pv : Value} {m : Nat} {cs : List Value} (h : PartO w pv m cs) (hb : Below w.heap.size w w') : PartO w' pv m cs := by
  obtain ⟨h1, h2, h3⟩ := h
  refine ⟨h1, h2, ?_⟩
  rcases h3 with h3 | ⟨ad, c, h3, h4, h5⟩
  · exact Or.inl h3
  · refine Or.inr ⟨ad, c, h3, fun h => by have := h4 h; have := hb.size; omega, fun j u hj => ?_⟩
    have hlt : j < cs.length := (List.getElem?_eq_some_iff.1 hj).1
    rw [hb.cell (p := ad.add j) (show (ad.add j).block < _ by rw [add_block]; exact h4 (by
      rcases Nat.eq_zero_or_pos m with rfl | h
      · rw [Nat.zero_mul] at h1; omega
      · exact h))]
    exact h5 j u hj
/-- a slice that is nil, or lies somewhere -/
def GoodV (v : Value) : Prop := v = .slice none 0 0 ∨ ∃ ad n c, v = .slice (some ad) n c
theorem vals_list {P : Nat → Rq → Value → Prop} : ∀ (l : List Rq) (o : Nat), (∀ (i : Nat) (r : Rq), l[i]? = some r → ∃ u, P (o + i * 3) r u) → ∃ us : List Value, us.length = l.length ∧ ∀ (i : Nat) (p : Rq × Value), (l.zip us)[i]? = some p → P (o + i * 3) p.1 p.2
  | [], o, _ => ⟨[], rfl, fun i p h => by simp at h⟩
  | r :: l, o, h => by
    obtain ⟨u, hu⟩ := h 0 r rfl
    obtain ⟨us, h1, h2⟩ := vals_list (P := P) l (o + 3) (fun i r' hr => by
      obtain ⟨u, hu⟩ := h (i + 1) r' (by simpa using hr)
      exact ⟨u, by rw [show o + 3 + i * 3 = o + (i + 1) * 3 by omega]; exact hu⟩)
    refine ⟨u :: us, by simp [h1], fun i p hp => ?_⟩
    match i, hp with
    | 0, hp =>
      simp only [List.zip_cons_cons, List.getElem?_cons_zero, Option.some.injEq] at hp
      subst hp
      exact hu
    | i + 1, hp =>
      have := h2 i p (by simpa using hp)
      rw [show o + 3 + i * 3 = o + (i + 1) * 3 by omega] at this
      exact this
theorem flat_cells {w : World} {g : Nat} : ∀ (L : List (Rq × Value)) (o : Nat), (∀ (i : Nat) (p : Rq × Value), L[i]? = some p → w.cell? ⟨g, o + i * 3, none⟩ = some (.string (Ba p.1.1)) ∧ w.cell? ⟨g, o + i * 3 + 1, none⟩ = some (.int .i64 p.1.2.1) ∧ w.cell? ⟨g, o + i * 3 + 2, none⟩ = some p.2) →
    ∀ (j : Nat) (u : Value), (flatR L)[j]? = some u → w.cell? ⟨g, o + j, none⟩ = some u
  | [], o, _, j, u, hj => by simp [flatR] at hj
  | q :: r, o, h, j, u, hj => by
    have e : flatR (q :: r) = [.string (Ba q.1.1), .int .i64 q.1.2.1, q.2] ++ flatR r := by simp [flatR]
    obtain ⟨h1, h2, h3⟩ := h 0 q rfl
    rw [e] at hj
    match j, hj with
    | 0, hj => simp at hj; subst hj; simpa using h1
    | 1, hj => simp at hj; subst hj; simpa using h2
    | 2, hj => simp at hj; subst hj; simpa using h3
    | j + 3, hj =>
      have hj' : (flatR r)[j]? = some u := by
        rw [List.getElem?_append_right (by simp)] at hj
        simpa using hj
      have := flat_cells r (o + 3) (fun i p hp => by
        obtain ⟨a, b, c⟩ := h (i + 1) p (by simpa using hp)
        rw [show o + (i + 1) * 3 = o + 3 + i * 3 by omega] at a b c
        exact ⟨a, b, c⟩) j u hj'
      rw [show o + (j + 3) = o + 3 + j by omega]
      exact this
theorem strs_one {w : World} {u : Value} {l : List Bs} (h : Strs w u l) : u.oneCell' = true := by
  obtain ⟨p, c, rfl, _⟩ := h.form
  rfl
theorem flatR_one : ∀ (L : List (Rq × Value)), (∀ p ∈ L, p.2.oneCell' = true) → ∀ u ∈ flatR L, u.oneCell' = true := by
  intro L h u hu
  unfold flatR at hu
  obtain ⟨p, hp, hu⟩ := List.mem_flatMap.1 hu
  simp only [List.mem_cons, List.not_mem_nil, or_false] at hu
  rcases hu with rfl | rfl | rfl
  · rfl
  · rfl
  · exact h p hp
/-- a selector that is handed in, as Concat and append take it -/
theorem reqs_part {w : World} {v : Value} {l : List Rq} (h : Reqs w v l) (hg : GoodV v) : ∃ L : List (Rq × Value), L.map (·.1) = l ∧ (∀ p ∈ L, Strs w p.2 p.1.2.2) ∧ PartO w v l.length (flatR L) := by
  rcases h with ⟨rfl, p, c, rfl⟩ | ⟨g, o, cap, rfl, h1, h2, h3, h4⟩
  · refine ⟨[], rfl, (fun p hp => by cases hp), rfl, (fun u hu => by simp [flatR] at hu), ?_⟩
    rcases hg with hg | ⟨ad, n, c', hg⟩
    · exact Or.inl ⟨hg, rfl⟩
    · injection hg with a b c
      subst a b c
      exact Or.inr ⟨ad, _, rfl, (fun h => absurd h (Nat.lt_irrefl _)), (fun j u hj => by simp [flatR] at hj)⟩
  · obtain ⟨us, hl, hus⟩ := vals_list (P := fun o r u => w.cell? ⟨g, o, none⟩ = some (.string (Ba r.1)) ∧ w.cell? ⟨g, o + 1, none⟩ = some (.int .i64 r.2.1) ∧ w.cell? ⟨g, o + 2, none⟩ = some u ∧ Strs w u r.2.2) l o (fun i r hr => by
      obtain ⟨a, b, u, c, d⟩ := h4 i r hr
      exact ⟨u, a, b, c, d⟩)
    have hS : ∀ p ∈ l.zip us, Strs w p.2 p.1.2.2 := fun p hp => by
      obtain ⟨i, hi, rfl⟩ := List.getElem_of_mem hp
      exact (hus i _ (List.getElem?_eq_getElem hi)).2.2.2
    have hzl : (l.zip us).length = l.length := by rw [List.length_zip]; omega
    refine ⟨l.zip us, List.map_fst_zip (by omega), hS, ?_, flatR_one _ (fun p hp => strs_one (hS p hp)), Or.inr ⟨⟨g, o, none⟩, cap, rfl, fun _ => h3, fun j u hj => ?_⟩⟩
    · rw [flatR_len, hzl]
    · rw [Addr.add_lit]
      exact flat_cells _ o (fun i p hp => ⟨(hus i p hp).1, (hus i p hp).2.1, (hus i p hp).2.2.1⟩) j u hj
/-- parts of one's own -/
def OwnR (w0 : World) (B : Nat) (w : World) (v : Value) (l : List Rq) : Prop := ∃ L : List (Rq × Value), L.map (·.1) = l ∧ (∀ p ∈ L, Strs w0 p.2 p.1.2.2) ∧ w.ownsRow B 33 3 v L.length (flatR L)
theorem OwnR.reqs {w0 w : World} {B : Nat} {v : Value} {l : List Rq} (h : OwnR w0 B w v l) (hb : Below w0.heap.size w0 w) : Reqs w v l := by
  obtain ⟨L, rfl, hS, hO⟩ := h
  exact reqs_of_owns hO (fun p hp => (hS p hp).below hb)
theorem OwnR.good {w0 w : World} {B : Nat} {v : Value} {l : List Rq} (h : OwnR w0 B w v l) : GoodV v := by
  obtain ⟨L, rfl, hS, _, ⟨rfl, _⟩ | ⟨g, cap, cur, rfl, _⟩⟩ := h
  · exact Or.inl rfl
  · exact Or.inr ⟨_, _, _, rfl⟩
end Go.Proofs.YtgaopmdpcjcooaaDoor
