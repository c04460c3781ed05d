/- Rules of one's own: their cells; what of a row of rules is put behind them. -/
import Derived.Test.YtnjjlnhchfoigabDoorGrConc
import Derived.Laws.AppendOwn
import Derived.Laws.AppendOwnNone
import Derived.Laws.MakeOwn
namespace Go.Proofs.YtnjjlnhchfoigabDoor
open Go.RowKit
set_option linter.unusedVariables false
set_option linter.unusedSimpArgs false
theorem info_rule : (Tryd.prog.info? 40).map (fun i => (i.zero, i.size, i.bytes)) = some (some (.agg #[.slice none 0 0, .slice none 0 0, .slice none 0 0]), 3, 72) := by kernel_rfl
theorem info_str : (Tryd.prog.info? 9).map (fun i => (i.zero, i.size, i.bytes)) = some (some (.string ⟨#[]⟩), 1, 16) := by kernel_rfl
/-- a rule, and where its three lists lie -/
abbrev RV := Rl × Value × Value × Value
def flatG (L : List RV) : List Value := L.flatMap fun p => [p.2.1, p.2.2.1, p.2.2.2]
theorem flatG_append (L M : List RV) : flatG (L ++ M) = flatG L ++ flatG M := by simp [flatG]
theorem flatG_cons (p : RV) (L : List RV) : flatG (p :: L) = [p.2.1, p.2.2.1, p.2.2.2] ++ flatG L := by simp [flatG]
theorem flatG_len (L : List RV) : (flatG L).length = L.length * 3 := by
  induction L with
  | nil => rfl
  | cons p r ih =>
    rw [flatG_cons, List.length_append, ih]
    simp
    omega
theorem flatG_at : ∀ (L : List RV) (i : Nat) (p : RV), L[i]? = some p → (flatG L)[i * 3]? = some p.2.1 ∧ (flatG L)[i * 3 + 1]? = some p.2.2.1 ∧ (flatG L)[i * 3 + 2]? = some p.2.2.2
  | [], i, p, h => by simp at h
  | q :: r, 0, p, h => by
    simp only [List.getElem?_cons_zero, Option.some.injEq] at h
    subst h
    exact ⟨rfl, rfl, rfl⟩
  | q :: r, i + 1, p, h => by
    obtain ⟨h1, h2, h3⟩ := flatG_at r i p (by simpa using h)
    rw [flatG_cons]
    have l3 : ([q.2.1, q.2.2.1, q.2.2.2] : List Value).length = 3 := rfl
    refine ⟨?_, ?_, ?_⟩
    · rw [List.getElem?_append_right (by rw [l3]; omega), l3, show (i + 1) * 3 - 3 = i * 3 by omega]; exact h1
    · rw [List.getElem?_append_right (by rw [l3]; omega), l3, show (i + 1) * 3 + 1 - 3 = i * 3 + 1 by omega]; exact h2
    · rw [List.getElem?_append_right (by rw [l3]; omega), l3, show (i + 1) * 3 + 2 - 3 = i * 3 + 2 by omega]; exact h3
def StG (w : World) (L : List RV) : Prop := ∀ p ∈ L, Strs w p.2.1 p.1.1 ∧ Strs w p.2.2.1 p.1.2.1 ∧ Strs w p.2.2.2 p.1.2.2
theorem StG.below {w w' : World} {L : List RV} (h : StG w L) (hb : Below w.heap.size w w') : StG w' L := fun p hp =>
  ⟨(h p hp).1.below hb, (h p hp).2.1.below hb, (h p hp).2.2.below hb⟩
theorem StG.append {w : World} {L M : List RV} (h : StG w L) (g : StG w M) : StG w (L ++ M) := fun p hp => by
  rcases List.mem_append.1 hp with hp | hp
  · exact h p hp
  · exact g p hp
theorem flatG_one {w : World} {L : List RV} (h : StG w L) : ∀ u ∈ flatG L, u.oneCell' = true := by
  intro u hu
  unfold flatG at hu
  obtain ⟨p, hp, hu⟩ := List.mem_flatMap.1 hu
  obtain ⟨h1, h2, h3⟩ := h p hp
  obtain ⟨_, _, e1, _⟩ := h1.form
  obtain ⟨_, _, e2, _⟩ := h2.form
  obtain ⟨_, _, e3, _⟩ := h3.form
  simp only [List.mem_cons, List.not_mem_nil, or_false] at hu
  rcases hu with rfl | rfl | rfl
  · rw [e1]; rfl
  · rw [e2]; rfl
  · rw [e3]; rfl
theorem owns_at {w : World} {B : Nat} {e : TypeId} {size : Nat} {v : Value} {n : Nat} {xs : List Value} (h : w.ownsRow B e size v n xs) : (v = .slice none 0 0 ∧ n = 0) ∨ ∃ g cap, v = .slice (some ⟨g, 0, none⟩) n cap ∧ B ≤ g ∧ g < w.heap.size ∧ n ≤ cap ∧ cap ≤ maxLen ∧ ∀ (j : Nat) (u : Value), xs[j]? = some u → w.cell? ⟨g, j, none⟩ = some u := by
  obtain ⟨hl, h | ⟨g, cap, cur, rfl, hB, hg, hc, hm, hs, ht⟩⟩ := h
  · exact Or.inl h
  · refine Or.inr ⟨g, cap, rfl, hB, lt_of_block hg, hc, hm, fun j u hj => ?_⟩
    rw [cell_of_row _ _ _ _ _ _ hg]
    rw [← ht] at hj
    have hj' : j < n * size := by
      have := (List.getElem?_eq_some_iff.1 hj).1
      rw [List.length_take] at this
      omega
    rw [List.getElem?_take, if_pos hj', Array.getElem?_toList] at hj
    exact hj
theorem rls_of_owns {w : World} {B : Nat} {v : Value} {L : List RV} (h : w.ownsRow B 40 3 v L.length (flatG L)) (hS : StG w L) : Rls w v (L.map (·.1)) := by
  rcases owns_at h with ⟨rfl, h0⟩ | ⟨g, cap, rfl, hB, hg, hc, hm, hcell⟩
  · have : L = [] := List.eq_nil_of_length_eq_zero h0
    subst this
    exact Or.inl ⟨rfl, _, _, rfl, fun _ => rfl⟩
  · refine Or.inr ⟨g, 0, cap, by rw [List.length_map], by rw [List.length_map]; exact hc, hm, hg, fun i r hr => ?_⟩
    rw [List.getElem?_map] at hr
    obtain ⟨p, hp, rfl⟩ := Option.map_eq_some_iff.1 hr
    obtain ⟨h1, h2, h3⟩ := flatG_at L i p hp
    rw [Nat.zero_add]
    obtain ⟨s1, s2, s3⟩ := hS p (List.mem_of_getElem? hp)
    exact ⟨p.2.1, p.2.2.1, p.2.2.2, hcell _ _ h1, hcell _ _ h2, hcell _ _ h3, s1, s2, s3⟩
/-- what lies at a row of rules -/
theorem vals_at (w : World) (g : Nat) : ∀ (l : List Rl) (o : Nat), (∀ (i : Nat) (x : Rl), l[i]? = some x → RlAt w g (o + i * 3) x) →
    ∃ L : List RV, L.map (·.1) = l ∧ StG w L ∧ ∀ j u, (flatG L)[j]? = some u → w.cell? ⟨g, o + j, none⟩ = some u
  | [], o, h => ⟨[], rfl, fun p hp => by simp at hp, fun j u hj => by simp [flatG] at hj⟩
  | x :: r, o, h => by
    obtain ⟨L, h1, h2, h3⟩ := vals_at w g r (o + 3) (fun i y hy => by
      have := h (i + 1) y (by simpa using hy)
      rw [show o + (i + 1) * 3 = o + 3 + i * 3 by omega] at this
      exact this)
    obtain ⟨a, b, c, k1, k2, k3, s1, s2, s3⟩ := h 0 x rfl
    rw [Nat.zero_mul, Nat.add_zero] at k1 k2 k3
    refine ⟨(x, a, b, c) :: L, by rw [List.map_cons, h1], fun p hp => ?_, fun j u hj => ?_⟩
    · rcases List.mem_cons.1 hp with rfl | hp
      · exact ⟨s1, s2, s3⟩
      · exact h2 p hp
    · rw [flatG_cons] at hj
      match j, hj with
      | 0, hj => simp at hj; subst hj; exact k1
      | 1, hj => simp at hj; subst hj; exact k2
      | 2, hj => simp at hj; subst hj; exact k3
      | j + 3, hj =>
        rw [List.getElem?_append_right (by simp)] at hj
        have := h3 j u (by simpa using hj)
        rw [show o + (j + 3) = o + 3 + j by omega]
        exact this
theorem plain_add (b o i : Nat) : (⟨b, o, none⟩ : Addr).add i = ⟨b, o + i, none⟩ := by
  unfold Addr.add
  split
  · next h => simp_all
  · rfl
theorem rls_vals {w : World} {p : Option Addr} {n c : Nat} {l : List Rl} (h : Rls w (.slice p n c) l) :
    n = l.length ∧ ((p = none ∧ c = 0 ∧ l = []) ∨ ∃ ad, p = some ad ∧ ∃ L : List RV, L.map (·.1) = l ∧ StG w L ∧ ∀ j u, (flatG L)[j]? = some u → w.cell? (ad.add j) = some u) := by
  rcases h with ⟨rfl, p', c', h, hp⟩ | ⟨g, o, cap, h, h1, h2, h3, h4⟩
  · injection h with e1 e2 e3
    subst e1 e2 e3
    refine ⟨rfl, ?_⟩
    cases p with
    | none => exact Or.inl ⟨rfl, hp rfl, rfl⟩
    | some ad => exact Or.inr ⟨ad, rfl, [], rfl, fun p hp => by simp at hp, fun j u hj => by simp [flatG] at hj⟩
  · injection h with e1 e2 e3
    subst e1 e2 e3
    obtain ⟨L, k1, k2, k3⟩ := vals_at w g l o h4
    exact ⟨rfl, Or.inr ⟨_, rfl, L, k1, k2, fun j u hj => by have := k3 j u hj; rw [plain_add]; exact this⟩⟩
theorem own_belowG {w w' : World} {B : Nat} {e : TypeId} {s : Nat} {v : Value} {n : Nat} {xs : List Value} (h : w.ownsRow B e s v n xs) (g : Below w.heap.size w w') : w'.ownsRow B e s v n xs := by
  obtain ⟨h1, h2⟩ := h
  refine ⟨h1, ?_⟩
  rcases h2 with h2 | ⟨k, cap, cur, e, hB, hh, rest⟩
  · exact Or.inl h2
  · exact Or.inr ⟨k, cap, cur, e, hB, by rw [g.block _ (Array.getElem?_eq_some_iff.1 hh).1]; exact hh, rest⟩
theorem own_low {B B' : Nat} {w : World} {e : TypeId} {s : Nat} {v : Value} {n : Nat} {xs : List Value} (h : w.ownsRow B e s v n xs) (hb : B' ≤ B) : w.ownsRow B' e s v n xs := by
  obtain ⟨h1, h2⟩ := h
  refine ⟨h1, ?_⟩
  rcases h2 with h2 | ⟨g, cap, cur, e, hB, rest⟩
  · exact Or.inl h2
  · exact Or.inr ⟨g, cap, cur, e, Nat.le_trans hb hB, rest⟩
theorem cell_lt {W : World} {a : Addr} {v : Value} (h : W.cell? a = some v) : a.block < W.heap.size := by
  rcases Nat.lt_or_ge a.block W.heap.size with h1 | h1
  · exact h1
  · simp [World.cell?, Array.getElem?_eq_none h1] at h
theorem cell_stays {w w' : World} {a : Addr} {v : Value} (h : w.cell? a = some v) (hb : Below w.heap.size w w') : w'.cell? a = some v := by
  rw [hb.cell (cell_lt h)]; exact h
end Go.Proofs.YtnjjlnhchfoigabDoor
