/- The statement of GrantsMore whose parts come in any order: the whole. -/
import Derived.Test.YtnjjlnhchfoigaaGrMoreR
namespace Go.Proofs.Ytnjjlnhchfoigaa
open Go.RowKit
set_option linter.unusedVariables false
set_option linter.unusedSimpArgs false
theorem grown_set {w : World} {b i j : Nat} {u v : Value} : w.grownBy ((w.setCell ⟨b, i, none⟩ u).setCell ⟨b, j, none⟩ v) (some b) :=
  have hb : Below 0 w ((w.setCell ⟨b, i, none⟩ u).setCell ⟨b, j, none⟩ v) := ((Below.refl 0 w).setCell (Nat.zero_le _) u).setCell (Nat.zero_le _) v
  ⟨hb.os, hb.tape, hb.output, hb.size, fun k hk hne => by
    have h : k ≠ b := fun e => hne (by rw [e])
    rw [Below.heap_setCell _ _ _ _ (by exact h), Below.heap_setCell _ _ _ _ (by exact h)]⟩
section
variable {α : Type} {st : Nat} {Q : World → α → List Value → Prop} {e : TypeId} {w0 : World} {B : Nat} {w w' : World} {v : Value} {l : List α}
/-- a row of things of one type lies in no block of another one -/
theorem OwnC.other {b : Nat} {cur : Array Value} {t : TypeId} (h : OwnC st Q e w0 B w v l) (hk : Blk w b (.cells cur t)) (hne : e ≠ t) : v.ownBlock ≠ some b := by
  obtain ⟨L, _, _, _, k⟩ := h
  rcases k.2 with ⟨rfl, _⟩ | ⟨g, cap, c2, rfl, _, hg, _⟩
  · intro h; cases h
  · intro h
    injection h with h
    have h : g = b := h
    subst h
    unfold Blk at hk
    rw [hg] at hk
    injection hk with hk
    injection hk with _ h2
    exact hne h2
theorem OwnC.keep {b : Nat} (h : OwnC st Q e w0 B w v l) (hg : w.grownBy w' (some b)) (hne : v.ownBlock ≠ some b) : OwnC st Q e w0 B w' v l := by
  obtain ⟨L, h1, h0, h2, h3⟩ := h
  exact ⟨L, h1, h0, h2, h3.kept hg (Or.inr hne)⟩
end
section
variable {Q : Exit → Act → World → Prop} {bg br bb : Nat} {p : Option Addr} {l1 c1 : Nat} {p2 : Option Addr} {l2 c2 : Nat} {pc : Option Addr} {l7 cc : Nat} {pq1 : Option Addr} {l5 cq1 : Nat} {pq2 : Option Addr} {l6 cq2 : Nat} {t1 t2 t3 t4 t5 : ByteArray} {b4 : Bool} {y0 y1 y2 y3 y4 y8 y9 y10 y11 y12 y16 y17 y18 y19 y20 y21 y22 : Value} {w0 wa : World} {rs : List Ro} {bs : List Bi} {xr : Ro} {yb : Bi}
set_option maxRecDepth 100000 in
set_option maxHeartbeats 8000000 in
theorem more_reg (hQ : ∀ c (a : Act) d v w, Q (.panic c) (a.put d v) w → Q (.panic c) a w) (hR : Ros w0 (.slice p l1 c1) rs) (hBi : Bis w0 (.slice p2 l2 c2) bs) (hb0 : Below w0.heap.size w0 wa) (hl1 : (rs.length + 1) * 56 ≤ 140737488355328) (hl2 : (bs.length + 1) * 104 ≤ 140737488355328)
    (hqr : QRo w0 xr [.string t4, .string t5, .slice pc l7 cc]) (hqb : QBi w0 yb [.string t1, .string t2, .string t3, .bool b4, .slice pq1 l5 cq1, .slice pq2 l6 cq2])
    (hcell : ∀ w', Below wa.heap.size wa w' → (w'.cell? ⟨bg, 0, none⟩ = some (.slice p l1 c1) ∧ w'.cell? ⟨bg, 1, none⟩ = some (.slice p2 l2 c2)) ∧
      (w'.cell? ⟨br, 0, none⟩ = some (.string t4) ∧ w'.cell? ⟨br, 1, none⟩ = some (.string t5) ∧ w'.cell? ⟨br, 2, none⟩ = some (.slice pc l7 cc)) ∧
      w'.cell? ⟨bb, 0, none⟩ = some (.string t1) ∧ w'.cell? ⟨bb, 1, none⟩ = some (.string t2) ∧ w'.cell? ⟨bb, 2, none⟩ = some (.string t3) ∧ w'.cell? ⟨bb, 3, none⟩ = some (.bool b4) ∧ w'.cell? ⟨bb, 4, none⟩ = some (.slice pq1 l5 cq1) ∧ w'.cell? ⟨bb, 5, none⟩ = some (.slice pq2 l6 cq2))
    (HQ : ∀ b qa qb qc qd qe qf x25 x27 x31 x33 w', Below wa.heap.size wa w' → OwnO w0 wa.heap.size w' (.slice qa qb qc) (rs ++ [xr]) → OwnBi w0 wa.heap.size w' (.slice qd qe qf) (bs ++ [yb]) → w'.cell? ⟨b, 0, none⟩ = some (.slice qa qb qc) → w'.cell? ⟨b, 1, none⟩ = some (.slice qd qe qf) → wa.heap.size ≤ b → b < w'.heap.size → Q .normal (moreF y0 y1 y2 y3 y4 (.pointer (some ⟨bg, 0, none⟩)) (.pointer (some ⟨br, 0, none⟩)) (.pointer (some ⟨bb, 0, none⟩)) y8 y9 y10 y11 y12 y16 y17 y18 y19 y20 y21 y22 (.pointer (some ⟨bg, 0, none⟩)) (.slice p l1 c1) (.agg #[.string t4, .string t5, .slice pc l7 cc]) (.pointer (some ⟨bg, 1, none⟩)) (.slice p2 l2 c2) (.agg #[.string t1, .string t2, .string t3, .bool b4, .slice pq1 l5 cq1, .slice pq2 l6 cq2]) (.pointer (some ⟨b, 0, none⟩)) x25 x27 (.slice qa qb qc) x31 x33 (.slice qd qe qf) (.agg #[.slice qa qb qc, .slice qd qe qf])) w') :
    (Code.region 2 moreOps true).wp Try.prog Q { tmps := #[y0, y1, y2, y3, y4, (.pointer (some ⟨bg, 0, none⟩)), (.pointer (some ⟨br, 0, none⟩)), (.pointer (some ⟨bb, 0, none⟩)), y8, y9, y10, y11, y12, undef, undef, undef, y16, y17, y18, y19, y20, y21, y22, undef, undef, undef, undef, undef, undef, undef, undef, undef, undef, undef, undef, undef, undef, undef, undef, undef, undef, undef, undef, undef, undef, undef, undef, undef, undef, undef, undef, undef, undef, undef, undef, undef, undef, undef, undef, undef, undef, undef, undef, undef, undef, undef], defers := [] } wa := by
  have HC : Hid (∀ w', Below wa.heap.size wa w' → (w'.cell? ⟨bg, 0, none⟩ = some (.slice p l1 c1) ∧ w'.cell? ⟨bg, 1, none⟩ = some (.slice p2 l2 c2)) ∧
      (w'.cell? ⟨br, 0, none⟩ = some (.string t4) ∧ w'.cell? ⟨br, 1, none⟩ = some (.string t5) ∧ w'.cell? ⟨br, 2, none⟩ = some (.slice pc l7 cc)) ∧
      w'.cell? ⟨bb, 0, none⟩ = some (.string t1) ∧ w'.cell? ⟨bb, 1, none⟩ = some (.string t2) ∧ w'.cell? ⟨bb, 2, none⟩ = some (.string t3) ∧ w'.cell? ⟨bb, 3, none⟩ = some (.bool b4) ∧ w'.cell? ⟨bb, 4, none⟩ = some (.slice pq1 l5 cq1) ∧ w'.cell? ⟨bb, 5, none⟩ = some (.slice pq2 l6 cq2)) := hcell
  clear hcell
  have HK := more_all (Q := Q) (bg := bg) (br := br) (bb := bb) (y0 := y0) (y1 := y1) (y2 := y2) (y3 := y3) (y4 := y4) (y8 := y8) (y9 := y9) (y10 := y10) (y11 := y11) (y12 := y12) (y16 := y16) (y17 := y17) (y18 := y18) (y19 := y19) (y20 := y20) (y21 := y21) (y22 := y22) hQ hR hBi hb0 hl1 hl2 hqr hqb ?fin 7 0 false false false rfl rfl undef undef undef undef undef undef undef wa.drew ⟨(Below.refl _ _).drew, fun e => by omega, fun e => by omega, fun e => by omega, fun e => by omega, fun e => (by cases e), fun e => (by cases e), fun e => (by cases e), fun e => (by omega), fun e => (by omega), fun e => (by omega), fun e => (by omega)⟩
  case fin =>
    clear hR hBi hb0 hl1 hl2 hqr hqb HC
    intro x13 x25 x27 x28 x31 x33 x34 w1 hM
    obtain ⟨b, rfl, hwb, hk⟩ := hM.t13 rfl
    have h28 := hM.t28 (by omega)
    have h34 := hM.t34 (by omega)
    have n28 := h28.other hk (by decide)
    have n34 := h34.other hk (by decide)
    obtain ⟨qa, qb, qc, rfl⟩ := h28.form
    obtain ⟨qd, qe, qf, rfl⟩ := h34.form
    have k0 : w1.cell? ⟨b, 0, none⟩ = some (.slice none 0 0) := hk.cell rfl
    have k1 : w1.cell? ⟨b, 1, none⟩ = some (.slice none 0 0) := hk.cell rfl
    have f0 : w1.frozen? ⟨b, 0, none⟩ = false := hk.frozen
    have f1 : w1.frozen? ⟨b, 1, none⟩ = false := hk.frozen
    have hlt := hk.lt
    have HF : Hid (∀ w', w' = (w1.setCell ⟨b, 0, none⟩ (.slice qa qb qc)).setCell ⟨b, 1, none⟩ (.slice qd qe qf) → w'.cell? ⟨b, 0, none⟩ = some (.slice qa qb qc) → w'.cell? ⟨b, 1, none⟩ = some (.slice qd qe qf) → Q .normal (moreF y0 y1 y2 y3 y4 (.pointer (some ⟨bg, 0, none⟩)) (.pointer (some ⟨br, 0, none⟩)) (.pointer (some ⟨bb, 0, none⟩)) y8 y9 y10 y11 y12 y16 y17 y18 y19 y20 y21 y22 (.pointer (some ⟨bg, 0, none⟩)) (.slice p l1 c1) (.agg #[.string t4, .string t5, .slice pc l7 cc]) (.pointer (some ⟨bg, 1, none⟩)) (.slice p2 l2 c2) (.agg #[.string t1, .string t2, .string t3, .bool b4, .slice pq1 l5 cq1, .slice pq2 l6 cq2]) (.pointer (some ⟨b, 0, none⟩)) x25 x27 (.slice qa qb qc) x31 x33 (.slice qd qe qf) (.agg #[.slice qa qb qc, .slice qd qe qf])) w') := fun w' e j0 j1 => by
      have hg : w1.grownBy w' (some b) := by rw [e]; exact grown_set
      exact HQ b _ _ _ _ _ _ x25 x27 x31 x33 w' (hM.held.grown hg hM.held.size (fun k e => by injection e with e; omega)) (h28.keep hg n28) (h34.keep hg n34) j0 j1 hwb (Nat.lt_of_lt_of_le hlt hg.size)
    clear hM h28 h34 n28 n34 hk HQ hQ
    refine M_tail [{ dst := none, op := Op.store 25 (Operand.tmp 13) (Operand.tmp 35), type := 0, pos := "mid.go:409", after := #[{ on := 13, ground := Ground.data }, { on := 12, ground := Ground.data }, { on := 11, ground := Ground.chain }, { on := 0, ground := Ground.phase }, { on := 1, ground := Ground.phase }, { on := 2, ground := Ground.phase }, { on := 3, ground := Ground.phase }, { on := 4, ground := Ground.phase }, { on := 5, ground := Ground.phase }, { on := 6, ground := Ground.phase }, { on := 7, ground := Ground.phase }, { on := 8, ground := Ground.phase }, { on := 9, ground := Ground.phase }, { on := 10, ground := Ground.phase }, { on := 11, ground := Ground.phase }, { on := 12, ground := Ground.phase }, { on := 13, ground := Ground.phase }], guard := none }] rfl (by kernel_rfl) (by kernel_rfl) ?_
    show wpList _ _ _ _ _ _
    dsimp only [X35]
    go_wp2_with fail
    refine HF.out _ rfl ?_ ?_
    · rw [World.cell?_setCell_other _ _ _ _ (by simp)]
      exact World.cell?_setCell_same _ _ _ k0
    · exact World.cell?_setCell_same _ _ _ ((World.cell?_setCell_other _ _ _ _ (by simp)).trans k1)
  refine M_begin 14 15 (fun w' => Below wa.heap.size wa w') (by kernel_rfl) rfl ?_
  have hHeld : (fun w' => Below wa.heap.size wa w') wa.drew := (Below.refl _ _).drew
  refine M_take 0 (oi := { dst := some 23, op := Op.fieldAddr 25 (Operand.tmp 5) 0, type := 0, pos := "mid.go:409", after := #[], guard := none }) (v := (.pointer (some ⟨bg, 0, none⟩))) rfl (by kernel_rfl) (by kernel_rfl) (by kernel_rfl) (by kernel_rfl) (by kernel_rfl) (by decide) (by decide) (by kernel_rfl) (fun _ _ _ h => hQ _ _ _ _ _ h) hHeld ?hy1 ?_
  case hy1 => exact (Or.inl ⟨by rfl, by (intro w' hSw; go_simp; try (with_reducible rfl))⟩)
  try simp only [Act.put, List.setIfInBounds_toArray, List.set_cons_zero, List.set_cons_succ]
  refine M_take 1 (oi := { dst := some 24, op := Op.load 22 (Operand.tmp 23), type := 22, pos := "mid.go:409", after := #[{ on := 0, ground := Ground.data }], guard := none }) (v := (.slice p l1 c1)) rfl (by kernel_rfl) (by kernel_rfl) (by kernel_rfl) (by kernel_rfl) (by kernel_rfl) (by decide) (by decide) (by kernel_rfl) (fun _ _ _ h => hQ _ _ _ _ _ h) hHeld ?hy2 ?_
  case hy2 => exact (Or.inl ⟨by rfl, by (intro w' hSw; obtain ⟨⟨g0, g1⟩, ⟨r0, r1, r2⟩, i0, i1, i2, i3, i4, i5⟩ := HC.out w' hSw; go_simp; try (with_reducible rfl))⟩)
  try simp only [Act.put, List.setIfInBounds_toArray, List.set_cons_zero, List.set_cons_succ]
  refine M_take 3 (oi := { dst := some 26, op := Op.load 47 (Operand.tmp 6), type := 47, pos := "mid.go:409", after := #[], guard := none }) (v := (.agg #[.string t4, .string t5, .slice pc l7 cc])) rfl (by kernel_rfl) (by kernel_rfl) (by kernel_rfl) (by kernel_rfl) (by kernel_rfl) (by decide) (by decide) (by kernel_rfl) (fun _ _ _ h => hQ _ _ _ _ _ h) hHeld ?hy3 ?_
  case hy3 => exact (Or.inl ⟨by rfl, by (intro w' hSw; obtain ⟨⟨g0, g1⟩, ⟨r0, r1, r2⟩, i0, i1, i2, i3, i4, i5⟩ := HC.out w' hSw; go_simp; try (with_reducible rfl))⟩)
  try simp only [Act.put, List.setIfInBounds_toArray, List.set_cons_zero, List.set_cons_succ]
  refine M_take 6 (oi := { dst := some 29, op := Op.fieldAddr 25 (Operand.tmp 5) 1, type := 0, pos := "mid.go:409", after := #[], guard := none }) (v := (.pointer (some ⟨bg, 1, none⟩))) rfl (by kernel_rfl) (by kernel_rfl) (by kernel_rfl) (by kernel_rfl) (by kernel_rfl) (by decide) (by decide) (by kernel_rfl) (fun _ _ _ h => hQ _ _ _ _ _ h) hHeld ?hy4 ?_
  case hy4 => exact (Or.inl ⟨by rfl, by (intro w' hSw; go_simp; try (with_reducible rfl))⟩)
  try simp only [Act.put, List.setIfInBounds_toArray, List.set_cons_zero, List.set_cons_succ]
  refine M_take 7 (oi := { dst := some 30, op := Op.load 23 (Operand.tmp 29), type := 23, pos := "mid.go:409", after := #[{ on := 6, ground := Ground.data }], guard := none }) (v := (.slice p2 l2 c2)) rfl (by kernel_rfl) (by kernel_rfl) (by kernel_rfl) (by kernel_rfl) (by kernel_rfl) (by decide) (by decide) (by kernel_rfl) (fun _ _ _ h => hQ _ _ _ _ _ h) hHeld ?hy5 ?_
  case hy5 => exact (Or.inl ⟨by rfl, by (intro w' hSw; obtain ⟨⟨g0, g1⟩, ⟨r0, r1, r2⟩, i0, i1, i2, i3, i4, i5⟩ := HC.out w' hSw; go_simp; try (with_reducible rfl))⟩)
  try simp only [Act.put, List.setIfInBounds_toArray, List.set_cons_zero, List.set_cons_succ]
  refine M_take 9 (oi := { dst := some 32, op := Op.load 49 (Operand.tmp 7), type := 49, pos := "mid.go:409", after := #[], guard := none }) (v := (.agg #[.string t1, .string t2, .string t3, .bool b4, .slice pq1 l5 cq1, .slice pq2 l6 cq2])) rfl (by kernel_rfl) (by kernel_rfl) (by kernel_rfl) (by kernel_rfl) (by kernel_rfl) (by decide) (by decide) (by kernel_rfl) (fun _ _ _ h => hQ _ _ _ _ _ h) hHeld ?hy6 ?_
  case hy6 => exact (Or.inl ⟨by rfl, by (intro w' hSw; obtain ⟨⟨g0, g1⟩, ⟨r0, r1, r2⟩, i0, i1, i2, i3, i4, i5⟩ := HC.out w' hSw; go_simp; try (with_reducible rfl))⟩)
  try simp only [Act.put, List.setIfInBounds_toArray, List.set_cons_zero, List.set_cons_succ]
  exact HK
end
end Go.Proofs.Ytnjjlnhchfoigaa
