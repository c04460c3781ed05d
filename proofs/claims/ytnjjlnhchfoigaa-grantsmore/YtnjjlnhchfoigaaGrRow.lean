/- Rows of one's own of things of several cells each: what is said of them is said of the row. The document's Copy at roles and binds; one more behind such a row. -/
import Derived.Test.YtnjjlnhchfoigaaGrFlat
import Derived.Test.YtnjjlnhchfoigaaGrCheck
namespace Go.Proofs.Ytnjjlnhchfoigaa
open Go.RowKit
set_option linter.unusedVariables false
set_option linter.unusedSimpArgs false
theorem info_role : (Try.prog.info? 47).map (fun i => (i.zero, i.size, i.bytes)) = some (some (.agg #[.string ⟨#[]⟩, .string ⟨#[]⟩, .slice none 0 0]), 3, 56) := by kernel_rfl
theorem info_bind : (Try.prog.info? 49).map (fun i => (i.zero, i.size, i.bytes)) = some (some (.agg #[.string ⟨#[]⟩, .string ⟨#[]⟩, .string ⟨#[]⟩, .bool false, .slice none 0 0, .slice none 0 0]), 6, 104) := by kernel_rfl
section
variable {α : Type}
/-- the cells of things that know their cells -/
def flatC (L : List (α × List Value)) : List Value := L.flatMap (·.2)
theorem flatC_append (L M : List (α × List Value)) : flatC (L ++ M) = flatC L ++ flatC M := by simp [flatC]
theorem flatC_cons (p : α × List Value) (L : List (α × List Value)) : flatC (p :: L) = p.2 ++ flatC L := by simp [flatC]
theorem flatC_len {st : Nat} : ∀ (L : List (α × List Value)), (∀ p ∈ L, p.2.length = st) → (flatC L).length = L.length * st
  | [], _ => by simp [flatC]
  | p :: r, h => by
    rw [flatC_cons, List.length_append, flatC_len r (fun q hq => h q (List.mem_cons_of_mem _ hq)), h p List.mem_cons_self, List.length_cons, Nat.succ_mul, Nat.add_comm]
theorem flatC_at {st : Nat} : ∀ (L : List (α × List Value)), (∀ p ∈ L, p.2.length = st) → ∀ (i : Nat) (p : α × List Value), L[i]? = some p → ∀ (j : Nat) (u : Value), p.2[j]? = some u → (flatC L)[i * st + j]? = some u
  | [], _, i, p, h, _, _, _ => by simp at h
  | q :: r, hl, 0, p, h, j, u, hj => by
    simp only [List.getElem?_cons_zero, Option.some.injEq] at h
    subst h
    have h1 := (List.getElem?_eq_some_iff.1 hj).1
    rw [flatC_cons, Nat.zero_mul, Nat.zero_add, List.getElem?_append_left h1]
    exact hj
  | q :: r, hl, i + 1, p, h, j, u, hj => by
    have h1 := flatC_at r (fun q hq => hl q (List.mem_cons_of_mem _ hq)) i p (by simpa using h) j u hj
    have hq : q.2.length = st := hl q List.mem_cons_self
    have e : (i + 1) * st = st + i * st := by rw [Nat.succ_mul, Nat.add_comm]
    rw [flatC_cons, List.getElem?_append_right (by omega), hq, show (i + 1) * st + j - st = i * st + j by omega]
    exact h1
/-- what is known of things by their cells -/
def StC (Q : World → α → List Value → Prop) (w : World) (L : List (α × List Value)) : Prop := ∀ p ∈ L, Q w p.1 p.2
theorem valsC_at {st : Nat} {P : World → Nat → Nat → α → Prop} {Q : World → α → List Value → Prop} (w : World) (g : Nat)
    (hPQ : ∀ o x, P w g o x → ∃ cs, cs.length = st ∧ Q w x cs ∧ ∀ (j : Nat) (u : Value), cs[j]? = some u → w.cell? ⟨g, o + j, none⟩ = some u) : ∀ (l : List α) (o : Nat), (∀ (i : Nat) (x : α), l[i]? = some x → P w g (o + i * st) x) →
    ∃ L : List (α × List Value), L.map (·.1) = l ∧ (∀ p ∈ L, p.2.length = st) ∧ StC Q w L ∧ ∀ (j : Nat) (u : Value), (flatC L)[j]? = some u → w.cell? ⟨g, o + j, none⟩ = some u
  | [], o, h => ⟨[], rfl, (fun p hp => by simp at hp), (fun p hp => by simp at hp), fun j u hj => by simp [flatC] at hj⟩
  | x :: r, o, h => by
    obtain ⟨L, h1, h0, h2, h3⟩ := valsC_at (st := st) w g hPQ r (o + st) (fun i y hy => by
      have := h (i + 1) y (by simpa using hy)
      rw [Nat.succ_mul, Nat.add_comm (i * st) st, ← Nat.add_assoc] at this
      exact this)
    have hx := h 0 x rfl
    rw [Nat.zero_mul, Nat.add_zero] at hx
    obtain ⟨cs, k1, k2, k3⟩ := hPQ o x hx
    refine ⟨(x, cs) :: L, by rw [List.map_cons, h1], fun p hp => ?_, fun p hp => ?_, fun j u hj => ?_⟩
    · rcases List.mem_cons.1 hp with rfl | hp
      · exact k1
      · exact h0 p hp
    · rcases List.mem_cons.1 hp with rfl | hp
      · exact k2
      · exact h2 p hp
    · rw [flatC_cons] at hj
      replace hj : (cs ++ flatC L)[j]? = some u := hj
      rcases Nat.lt_or_ge j st with hlt | hge
      · rw [List.getElem?_append_left (by omega)] at hj
        exact k3 j u hj
      · rw [List.getElem?_append_right (by omega), k1] at hj
        have := h3 _ _ hj
        rw [show o + st + (j - st) = o + j by omega] at this
        exact this
theorem sq_of_ownsC {st : Nat} {P : World → Nat → Nat → α → Prop} {Q : World → α → List Value → Prop} {w : World} {B : Nat} {e : TypeId} {v : Value} {L : List (α × List Value)}
    (hQP : ∀ g o x cs, Q w x cs → (∀ (j : Nat) (u : Value), cs[j]? = some u → w.cell? ⟨g, o + j, none⟩ = some u) → P w g o x)
    (h : w.ownsRow B e st v L.length (flatC L)) (hl : ∀ p ∈ L, p.2.length = st) (hS : StC Q w L) : Sq st P w v (L.map (·.1)) := by
  rcases owns_at h with ⟨rfl, h0⟩ | ⟨g, cap, rfl, hB, hg, hc, hm, hcell⟩
  · have : L = [] := List.eq_nil_of_length_eq_zero h0
    subst this
    exact Or.inl ⟨rfl, _, _, rfl, fun _ => rfl⟩
  · refine Or.inr ⟨g, 0, cap, by rw [List.length_map], by rw [List.length_map]; exact hc, hm, hg, fun i r hr => ?_⟩
    rw [List.getElem?_map] at hr
    obtain ⟨p, hp, rfl⟩ := Option.map_eq_some_iff.1 hr
    have hpm := List.mem_of_getElem? hp
    refine hQP g (0 + i * st) p.1 p.2 (hS p hpm) (fun j u hj => ?_)
    rw [Nat.zero_add]
    exact hcell _ _ (flatC_at L hl i p hp j u hj)
theorem sqC_vals {st : Nat} {P : World → Nat → Nat → α → Prop} {Q : World → α → List Value → Prop} {w : World} {p : Option Addr} {n c : Nat} {l : List α}
    (hPQ : ∀ g o x, P w g o x → ∃ cs, cs.length = st ∧ Q w x cs ∧ ∀ (j : Nat) (u : Value), cs[j]? = some u → w.cell? ⟨g, o + j, none⟩ = some u) (h : Sq st P w (.slice p n c) l) :
    n = l.length ∧ ((p = none ∧ c = 0 ∧ l = []) ∨ ∃ ad, p = some ad ∧ ∃ L : List (α × List Value), L.map (·.1) = l ∧ (∀ q ∈ L, q.2.length = st) ∧ StC Q w L ∧ ∀ (j : Nat) (u : Value), (flatC L)[j]? = some u → w.cell? (ad.add j) = some u) := by
  rcases h with ⟨rfl, p', c', h, hp⟩ | ⟨g, o, cap, h, h1, h2, h3, h4⟩
  · injection h with e1 e2 e3
    subst e1 e2 e3
    refine ⟨rfl, ?_⟩
    cases p with
    | none => exact Or.inl ⟨rfl, hp rfl, rfl⟩
    | some ad => exact Or.inr ⟨ad, rfl, [], rfl, (fun p hp => by simp at hp), (fun p hp => by simp at hp), fun j u hj => by simp [flatC] at hj⟩
  · injection h with e1 e2 e3
    subst e1 e2 e3
    obtain ⟨L, k1, k0, k2, k3⟩ := valsC_at w g (hPQ g) l o h4
    exact ⟨rfl, Or.inr ⟨_, rfl, L, k1, k0, k2, fun j u hj => by have := k3 j u hj; rw [plain_add]; exact this⟩⟩
/-- a row of one's own of such things -/
def OwnC (st : Nat) (Q : World → α → List Value → Prop) (e : TypeId) (w0 : World) (B : Nat) (w : World) (v : Value) (l : List α) : Prop :=
  ∃ L : List (α × List Value), L.map (·.1) = l ∧ (∀ p ∈ L, p.2.length = st) ∧ StC Q w0 L ∧ w.ownsRow B e st v L.length (flatC L)
theorem OwnC.below {st : Nat} {Q : World → α → List Value → Prop} {e : TypeId} {w0 : World} {B : Nat} {w w' : World} {v : Value} {l : List α} (h : OwnC st Q e w0 B w v l) (g : Below w.heap.size w w') : OwnC st Q e w0 B w' v l := by
  obtain ⟨L, h1, h0, h2, h3⟩ := h
  exact ⟨L, h1, h0, h2, own_belowG h3 g⟩
end
/-- a role's cells -/
def QRo (w : World) (r : Ro) (cs : List Value) : Prop := ∃ c, cs = [.string (Ba r.1), .string (Ba r.2.1), c] ∧ Rls w c r.2.2
/-- a bind's cells -/
def QBi (w : World) (b : Bi) (cs : List Value) : Prop := ∃ u v, cs = [.string (Ba b.1), .string (Ba b.2.1), .string (Ba b.2.2.1), .bool b.2.2.2.1, u, v] ∧ Strs w u b.2.2.2.2.1 ∧ Strs w v b.2.2.2.2.2
theorem QRo.below {w w' : World} {r : Ro} {cs : List Value} (h : QRo w r cs) (hb : Below w.heap.size w w') : QRo w' r cs := by
  obtain ⟨c, h1, h2⟩ := h
  exact ⟨c, h1, Sq.below rlAt_stays h2 hb⟩
theorem QBi.below {w w' : World} {r : Bi} {cs : List Value} (h : QBi w r cs) (hb : Below w.heap.size w w') : QBi w' r cs := by
  obtain ⟨u, v, h1, h2, h3⟩ := h
  exact ⟨u, v, h1, h2.below hb, h3.below hb⟩
theorem ro_q {w : World} (g o : Nat) (x : Ro) (h : RoAt w g o x) : ∃ cs, cs.length = 3 ∧ QRo w x cs ∧ ∀ (j : Nat) (u : Value), cs[j]? = some u → w.cell? ⟨g, o + j, none⟩ = some u := by
  obtain ⟨h1, h2, c, h3, s⟩ := h
  refine ⟨_, rfl, ⟨c, rfl, s⟩, fun j u hj => ?_⟩
  match j, hj with
  | 0, hj => simp at hj; subst hj; exact h1
  | 1, hj => simp at hj; subst hj; exact h2
  | 2, hj => simp at hj; subst hj; exact h3
  | j + 3, hj => simp at hj
theorem q_ro {w : World} (g o : Nat) (x : Ro) (cs : List Value) (h : QRo w x cs) (hc : ∀ (j : Nat) (u : Value), cs[j]? = some u → w.cell? ⟨g, o + j, none⟩ = some u) : RoAt w g o x := by
  obtain ⟨c, rfl, s⟩ := h
  exact ⟨hc 0 _ rfl, hc 1 _ rfl, c, hc 2 _ rfl, s⟩
theorem bi_q {w : World} (g o : Nat) (x : Bi) (h : BiAt w g o x) : ∃ cs, cs.length = 6 ∧ QBi w x cs ∧ ∀ (j : Nat) (u : Value), cs[j]? = some u → w.cell? ⟨g, o + j, none⟩ = some u := by
  obtain ⟨h1, h2, h3, h4, a, b, h5, h6, s5, s6⟩ := h
  refine ⟨_, rfl, ⟨a, b, rfl, s5, s6⟩, fun j u hj => ?_⟩
  match j, hj with
  | 0, hj => simp at hj; subst hj; exact h1
  | 1, hj => simp at hj; subst hj; exact h2
  | 2, hj => simp at hj; subst hj; exact h3
  | 3, hj => simp at hj; subst hj; exact h4
  | 4, hj => simp at hj; subst hj; exact h5
  | 5, hj => simp at hj; subst hj; exact h6
  | j + 6, hj => simp at hj
theorem q_bi {w : World} (g o : Nat) (x : Bi) (cs : List Value) (h : QBi w x cs) (hc : ∀ (j : Nat) (u : Value), cs[j]? = some u → w.cell? ⟨g, o + j, none⟩ = some u) : BiAt w g o x := by
  obtain ⟨u, v, rfl, s5, s6⟩ := h
  exact ⟨hc 0 _ rfl, hc 1 _ rfl, hc 2 _ rfl, hc 3 _ rfl, u, v, hc 4 _ rfl, hc 5 _ rfl, s5, s6⟩
abbrev OwnO (w0 : World) (B : Nat) (w : World) (v : Value) (l : List Ro) : Prop := OwnC 3 QRo 47 w0 B w v l
abbrev OwnBi (w0 : World) (B : Nat) (w : World) (v : Value) (l : List Bi) : Prop := OwnC 6 QBi 49 w0 B w v l
theorem OwnC.ros {w0 : World} {B : Nat} {w : World} {v : Value} {l : List Ro} (h : OwnO w0 B w v l) (hb : Below w0.heap.size w0 w) : Ros w v l := by
  obtain ⟨L, rfl, hl, hS, hO⟩ := h
  exact sq_of_ownsC (fun g o x cs => q_ro g o x cs) hO hl (fun p hp => (hS p hp).below hb)
theorem OwnC.bis {w0 : World} {B : Nat} {w : World} {v : Value} {l : List Bi} (h : OwnBi w0 B w v l) (hb : Below w0.heap.size w0 w) : Bis w v l := by
  obtain ⟨L, rfl, hl, hS, hO⟩ := h
  exact sq_of_ownsC (fun g o x cs => q_bi g o x cs) hO hl (fun p hp => (hS p hp).below hb)
theorem flatO_one {w : World} {L : List (Ro × List Value)} (h : StC QRo w L) : ∀ u ∈ flatC L, u.oneCell' = true := by
  intro u hu
  obtain ⟨p, hp, hu⟩ := List.mem_flatMap.1 hu
  obtain ⟨c, e, s⟩ := h p hp
  obtain ⟨_, _, e1, _⟩ := Sq.form s
  rw [e] at hu
  simp only [List.mem_cons, List.not_mem_nil, or_false] at hu
  rcases hu with rfl | rfl | rfl
  · rfl
  · rfl
  · rw [e1]; rfl
theorem flatB_one {w : World} {L : List (Bi × List Value)} (h : StC QBi w L) : ∀ u ∈ flatC L, u.oneCell' = true := by
  intro u hu
  obtain ⟨p, hp, hu⟩ := List.mem_flatMap.1 hu
  obtain ⟨a, b, e, s, t⟩ := h p hp
  obtain ⟨_, _, e1, _⟩ := s.form
  obtain ⟨_, _, e2, _⟩ := t.form
  rw [e] at hu
  simp only [List.mem_cons, List.not_mem_nil, or_false] at hu
  rcases hu with rfl | rfl | rfl | rfl | rfl | rfl
  · rfl
  · rfl
  · rfl
  · rfl
  · rw [e1]; rfl
  · rw [e2]; rfl
end Go.Proofs.Ytnjjlnhchfoigaa
