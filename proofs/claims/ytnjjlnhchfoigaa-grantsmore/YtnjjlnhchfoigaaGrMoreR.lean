/- The statement of GrantsMore whose parts come in any order: all orders. -/
import Derived.Test.YtnjjlnhchfoigaaGrMoreO
namespace Go.Proofs.Ytnjjlnhchfoigaa
open Go.RowKit
set_option linter.unusedVariables false
set_option linter.unusedSimpArgs false
/-- which parts have come -/
def moreL (c : Nat) (d1 d2 d3 : Bool) : Array Bool := #[true, true, decide (1 ≤ c), true, d1, decide (2 ≤ c), true, true, decide (3 ≤ c), true, d2, decide (4 ≤ c), decide (4 ≤ c), d3, false]
def X35 (c : Nat) (u v : Value) : Value := match c with
  | 4 => .agg #[u, v]
  | _ => undef
def fuelOf (c n : Nat) : Nat := match c with
  | 4 => n + 1
  | _ => n + 2
theorem fuelOf_succ (c n : Nat) : fuelOf c (n + 1) = fuelOf c n + 1 := by
  unfold fuelOf
  split <;> rfl
def mayL (c : Nat) (d1 d2 : Bool) : Bool := decide (c ≤ 4) && (decide (c < 2) || d1) && (decide (c < 4) || d2)
def cntL (c : Nat) (d1 d2 d3 : Bool) : Nat := c + (if d1 then 1 else 0) + (if d2 then 1 else 0) + (if d3 then 1 else 0)
def nextB (c : Nat) (d1 d2 d3 : Bool) (i : Nat) : Bool :=
  (i == 2 && c == 0) || (i == 4 && !d1) || (i == 5 && c == 1 && d1) || (i == 8 && c == 2) || (i == 10 && !d2) || (i == 11 && c == 3 && d2) || (i == 13 && !d3) || (i == 14 && c == 4 && d1 && d2 && d3)
def okL (c : Nat) (d1 d2 d3 : Bool) : Bool := !mayL c d1 d2 || ((Region.ready .any moreOps (moreL c d1 d2 d3)).all (nextB c d1 d2 d3) && !(Region.ready .any moreOps (moreL c d1 d2 d3)).isEmpty)
theorem okL_all : ((List.range 5).all fun c => [true, false].all fun d1 => [true, false].all fun d2 => [true, false].all fun d3 => okL c d1 d2 d3) = true := by kernel_rfl
theorem okL_at {c : Nat} (hc : c ≤ 4) (d1 d2 d3 : Bool) : okL c d1 d2 d3 = true := by
  have h := okL_all
  rw [List.all_eq_true] at h
  have h1 := h c (List.mem_range.2 (by omega))
  rw [List.all_eq_true] at h1
  have h2 := h1 d1 (by cases d1 <;> simp)
  rw [List.all_eq_true] at h2
  have h3 := h2 d2 (by cases d2 <;> simp)
  rw [List.all_eq_true] at h3
  exact h3 d3 (by cases d3 <;> simp)
theorem mayL_le {c : Nat} {d1 d2 : Bool} (h : mayL c d1 d2 = true) : c ≤ 4 ∧ (2 ≤ c → d1 = true) ∧ (4 ≤ c → d2 = true) := by
  unfold mayL at h
  simp only [Bool.and_eq_true, Bool.or_eq_true, decide_eq_true_eq] at h
  refine ⟨h.1.1, fun k => ?_, fun k => ?_⟩
  · rcases h.1.2 with k1 | k1
    · omega
    · exact k1
  · rcases h.2 with k1 | k1
    · omega
    · exact k1
theorem next_of {c : Nat} {d1 d2 d3 : Bool} (h : mayL c d1 d2 = true) : Region.ready .any moreOps (moreL c d1 d2 d3) ≠ [] ∧ ∀ i ∈ Region.ready .any moreOps (moreL c d1 d2 d3), nextB c d1 d2 d3 i = true := by
  have k := okL_at (mayL_le h).1 d1 d2 d3
  unfold okL at k
  rw [h, Bool.not_true, Bool.false_or, Bool.and_eq_true, List.all_eq_true] at k
  refine ⟨fun e => ?_, k.1⟩
  rw [e] at k
  exact absurd k.2 (by simp)
theorem next_cases {c : Nat} {d1 d2 d3 : Bool} {i : Nat} (h : nextB c d1 d2 d3 i = true) : (i = 2 ∧ c = 0) ∨ (i = 4 ∧ d1 = false) ∨ (i = 5 ∧ c = 1 ∧ d1 = true) ∨ (i = 8 ∧ c = 2) ∨ (i = 10 ∧ d2 = false) ∨ (i = 11 ∧ c = 3 ∧ d2 = true) ∨ (i = 13 ∧ d3 = false) ∨ (i = 14 ∧ c = 4 ∧ d1 = true ∧ d2 = true ∧ d3 = true) := by
  unfold nextB at h
  simp only [Bool.or_eq_true, Bool.and_eq_true, beq_iff_eq, Bool.not_eq_true'] at h
  rcases h with ((((((h | h) | h) | h) | h) | h) | h) | h
  · exact Or.inl h
  · exact Or.inr (Or.inl h)
  · exact Or.inr (Or.inr (Or.inl ⟨h.1.1, h.1.2, h.2⟩))
  · exact Or.inr (Or.inr (Or.inr (Or.inl h)))
  · exact Or.inr (Or.inr (Or.inr (Or.inr (Or.inl h))))
  · exact Or.inr (Or.inr (Or.inr (Or.inr (Or.inr (Or.inl ⟨h.1.1, h.1.2, h.2⟩)))))
  · exact Or.inr (Or.inr (Or.inr (Or.inr (Or.inr (Or.inr (Or.inl h))))))
  · exact Or.inr (Or.inr (Or.inr (Or.inr (Or.inr (Or.inr (Or.inr ⟨h.1.1.1.1, h.1.1.1.2, h.1.1.2, h.1.2, h.2⟩))))))
section
variable {Q : Exit → Act → World → Prop} {bg br bb : Nat} {p : Option Addr} {l1 c1 : Nat} {p2 : Option Addr} {l2 c2 : Nat} {pc : Option Addr} {l7 cc : Nat} {pq1 : Option Addr} {l5 cq1 : Nat} {pq2 : Option Addr} {l6 cq2 : Nat} {t1 t2 t3 t4 t5 : ByteArray} {b4 : Bool} {y0 y1 y2 y3 y4 y8 y9 y10 y11 y12 y16 y17 y18 y19 y20 y21 y22 : Value} {w0 wa : World} {rs : List Ro} {bs : List Bi} {xr : Ro} {yb : Bi}
set_option maxRecDepth 100000 in
set_option maxHeartbeats 8000000 in
theorem more_all (hQ : ∀ c (a : Act) d v w, Q (.panic c) (a.put d v) w → Q (.panic c) a w) (hR : Ros w0 (.slice p l1 c1) rs) (hBi : Bis w0 (.slice p2 l2 c2) bs) (hb0 : Below w0.heap.size w0 wa) (hl1 : (rs.length + 1) * 56 ≤ 140737488355328) (hl2 : (bs.length + 1) * 104 ≤ 140737488355328)
    (hqr : QRo w0 xr [.string t4, .string t5, .slice pc l7 cc]) (hqb : QBi w0 yb [.string t1, .string t2, .string t3, .bool b4, .slice pq1 l5 cq1, .slice pq2 l6 cq2])
    (HK : ∀ x13 x25 x27 x28 x31 x33 x34 w1, MF w0 wa rs bs xr yb #[.string t4, .string t5, .slice pc l7 cc] #[.string t1, .string t2, .string t3, .bool b4, .slice pq1 l5 cq1, .slice pq2 l6 cq2] 4 true true true x13 x25 x27 x28 x31 x33 x34 w1 → wpM Try.prog .any moreOps Q (fun w' => Below wa.heap.size wa w') 14 (1) (moreL 4 true true true) (moreF y0 y1 y2 y3 y4 (.pointer (some ⟨bg, 0, none⟩)) (.pointer (some ⟨br, 0, none⟩)) (.pointer (some ⟨bb, 0, none⟩)) y8 y9 y10 y11 y12 y16 y17 y18 y19 y20 y21 y22 (.pointer (some ⟨bg, 0, none⟩)) (.slice p l1 c1) (.agg #[.string t4, .string t5, .slice pc l7 cc]) (.pointer (some ⟨bg, 1, none⟩)) (.slice p2 l2 c2) (.agg #[.string t1, .string t2, .string t3, .bool b4, .slice pq1 l5 cq1, .slice pq2 l6 cq2]) x13 x25 x27 x28 x31 x33 x34 (X35 4 x28 x34)) w1) :
    ∀ n c d1 d2 d3, mayL c d1 d2 = true → cntL c d1 d2 d3 + n = 7 → ∀ x13 x25 x27 x28 x31 x33 x34 w1, MF w0 wa rs bs xr yb #[.string t4, .string t5, .slice pc l7 cc] #[.string t1, .string t2, .string t3, .bool b4, .slice pq1 l5 cq1, .slice pq2 l6 cq2] c d1 d2 d3 x13 x25 x27 x28 x31 x33 x34 w1 → wpM Try.prog .any moreOps Q (fun w' => Below wa.heap.size wa w') 14 (fuelOf c n) (moreL c d1 d2 d3) (moreF y0 y1 y2 y3 y4 (.pointer (some ⟨bg, 0, none⟩)) (.pointer (some ⟨br, 0, none⟩)) (.pointer (some ⟨bb, 0, none⟩)) y8 y9 y10 y11 y12 y16 y17 y18 y19 y20 y21 y22 (.pointer (some ⟨bg, 0, none⟩)) (.slice p l1 c1) (.agg #[.string t4, .string t5, .slice pc l7 cc]) (.pointer (some ⟨bg, 1, none⟩)) (.slice p2 l2 c2) (.agg #[.string t1, .string t2, .string t3, .bool b4, .slice pq1 l5 cq1, .slice pq2 l6 cq2]) x13 x25 x27 x28 x31 x33 x34 (X35 c x28 x34)) w1 := by
  intro n
  induction n with
  | zero =>
    intro c d1 d2 d3 hv hcnt x13 x25 x27 x28 x31 x33 x34 w1 hM
    have h4 := (mayL_le hv).1
    unfold cntL at hcnt
    cases d1 <;> cases d2 <;> cases d3 <;> simp at hcnt <;> first | omega | skip
    subst hcnt
    exact HK _ _ _ _ _ _ _ _ hM
  | succ n ih =>
    intro c d1 d2 d3 hv hcnt x13 x25 x27 x28 x31 x33 x34 w1 hM
    rw [fuelOf_succ]
    obtain ⟨hne, hnx⟩ := next_of (d3 := d3) hv
    have hbb : Below w0.heap.size w0 w1 := hb0.trans (hM.held.mono hb0.size)
    refine ⟨fun h0 => absurd h0 hne, fun i hi => ?_⟩
    have hcs := next_cases (hnx i hi)
    clear hi hnx hne
    rcases hcs with ⟨rfl, rfl⟩ | ⟨rfl, rfl⟩ | ⟨rfl, rfl, rfl⟩ | ⟨rfl, rfl⟩ | ⟨rfl, rfl⟩ | ⟨rfl, rfl, rfl⟩ | ⟨rfl, rfl⟩ | ⟨rfl, rfl, rfl, rfl, rfl⟩
    · refine wpOp_step (o := { dst := some 25, op := Op.call { callee := Callee.value (Operand.func 19), args := #[Operand.tmp 24], argTypes := #[22] }, type := 22, pos := "mid.go:409", after := #[{ on := 1, ground := Ground.data }], guard := none }) rfl (fun K hK => ?_)
      rw [if_pos (by rfl)]
      refine more_o2 hR hbb (by omega) (fun v w2 ho hb => ?_)
      have hM2 := hM.row1 ho hb
      exact hK _ _ ⟨fun _ => hM2.held, ih 1 d1 d2 d3 rfl (by unfold cntL at *; omega) _ _ _ _ _ _ _ _ hM2⟩
    · refine wpOp_step (o := { dst := some 27, op := Op.buildSlice 22 1 #[(0, Operand.tmp 26)], type := 22, pos := "mid.go:409", after := #[{ on := 3, ground := Ground.data }], guard := none }) rfl (fun K hK => ?_)
      rw [if_pos (by rfl)]
      have hc2 : c < 2 := by
        rcases Nat.lt_or_ge c 2 with h | h
        · exact h
        · exact absurd ((mayL_le hv).2.1 h) (by simp)
      have hM2 := hM.new1 hc2
      have hv2 : mayL c true d2 = true := by
        unfold mayL at hv ⊢
        rw [decide_eq_true (show c ≤ 4 by omega), decide_eq_true hc2, decide_eq_true (show c < 4 by omega)]
        rfl
      refine more_o4 ?_
      have hr := hK (moreF y0 y1 y2 y3 y4 (.pointer (some ⟨bg, 0, none⟩)) (.pointer (some ⟨br, 0, none⟩)) (.pointer (some ⟨bb, 0, none⟩)) y8 y9 y10 y11 y12 y16 y17 y18 y19 y20 y21 y22 (.pointer (some ⟨bg, 0, none⟩)) (.slice p l1 c1) (.agg #[.string t4, .string t5, .slice pc l7 cc]) (.pointer (some ⟨bg, 1, none⟩)) (.slice p2 l2 c2) (.agg #[.string t1, .string t2, .string t3, .bool b4, .slice pq1 l5 cq1, .slice pq2 l6 cq2]) x13 x25 (.slice (some ⟨w1.heap.size, 0, none⟩) 1 1) x28 x31 x33 x34 (X35 c x28 x34)) _ ⟨fun _ => hM2.held, ih c true d2 d3 hv2 (by unfold cntL at *; simp at *; omega) _ _ _ _ _ _ _ _ hM2⟩
      exact hr
    · refine wpOp_step (o := { dst := some 28, op := Op.call { callee := Callee.builtin Builtin.append, args := #[Operand.tmp 25, Operand.tmp 27], argTypes := #[22, 22] }, type := 22, pos := "mid.go:409", after := #[{ on := 2, ground := Ground.data }, { on := 4, ground := Ground.data }, { on := 2, ground := Ground.chain }], guard := none }) rfl (fun K hK => ?_)
      rw [if_pos (by rfl)]
      refine more_o5 (hM.t25 rfl) (hM.t27 rfl (by omega)) hqr rfl hl1 hM.held.size (fun v w2 ho hg => ?_)
      have hM2 := hM.row2 ho hg
      exact hK _ _ ⟨fun _ => hM2.held, ih 2 true d2 d3 rfl (by unfold cntL at *; omega) _ _ _ _ _ _ _ _ hM2⟩
    · refine wpOp_step (o := { dst := some 31, op := Op.call { callee := Callee.value (Operand.func 20), args := #[Operand.tmp 30], argTypes := #[23] }, type := 23, pos := "mid.go:409", after := #[{ on := 7, ground := Ground.data }, { on := 5, ground := Ground.chain }], guard := none }) rfl (fun K hK => ?_)
      rw [if_pos (by rfl)]
      have hd1 : d1 = true := (mayL_le hv).2.1 (by omega)
      subst hd1
      refine more_o8 hBi hbb (by omega) (fun v w2 ho hb => ?_)
      have hM2 := hM.row3 ho hb
      exact hK _ _ ⟨fun _ => hM2.held, ih 3 true d2 d3 rfl (by unfold cntL at *; omega) _ _ _ _ _ _ _ _ hM2⟩
    · refine wpOp_step (o := { dst := some 33, op := Op.buildSlice 23 1 #[(0, Operand.tmp 32)], type := 23, pos := "mid.go:409", after := #[{ on := 9, ground := Ground.data }], guard := none }) rfl (fun K hK => ?_)
      rw [if_pos (by rfl)]
      have hc4 : c < 4 := by
        rcases Nat.lt_or_ge c 4 with h | h
        · exact h
        · exact absurd ((mayL_le hv).2.2 h) (by simp)
      have hM2 := hM.new2 hc4
      have hv2 : mayL c d1 true = true := by
        unfold mayL at hv ⊢
        simp only [Bool.and_eq_true, Bool.or_eq_true, decide_eq_true_eq] at hv ⊢
        exact ⟨hv.1, Or.inr trivial⟩
      refine more_o10 ?_
      have hr := hK (moreF y0 y1 y2 y3 y4 (.pointer (some ⟨bg, 0, none⟩)) (.pointer (some ⟨br, 0, none⟩)) (.pointer (some ⟨bb, 0, none⟩)) y8 y9 y10 y11 y12 y16 y17 y18 y19 y20 y21 y22 (.pointer (some ⟨bg, 0, none⟩)) (.slice p l1 c1) (.agg #[.string t4, .string t5, .slice pc l7 cc]) (.pointer (some ⟨bg, 1, none⟩)) (.slice p2 l2 c2) (.agg #[.string t1, .string t2, .string t3, .bool b4, .slice pq1 l5 cq1, .slice pq2 l6 cq2]) x13 x25 x27 x28 x31 (.slice (some ⟨w1.heap.size, 0, none⟩) 1 1) x34 (X35 c x28 x34)) _ ⟨fun _ => hM2.held, ih c d1 true d3 hv2 (by unfold cntL at *; simp at *; omega) _ _ _ _ _ _ _ _ hM2⟩
      exact hr
    · refine wpOp_step (o := { dst := some 34, op := Op.call { callee := Callee.builtin Builtin.append, args := #[Operand.tmp 31, Operand.tmp 33], argTypes := #[23, 23] }, type := 23, pos := "mid.go:409", after := #[{ on := 8, ground := Ground.data }, { on := 10, ground := Ground.data }, { on := 8, ground := Ground.chain }], guard := none }) rfl (fun K hK => ?_)
      rw [if_pos (by rfl)]
      have hd1 : d1 = true := (mayL_le hv).2.1 (by omega)
      subst hd1
      refine more_o11 (hM.t31 rfl) (hM.t33 rfl (by omega)) hqb rfl hl2 hM.held.size (fun v w2 ho hg => ?_)
      have hM2 := hM.row4 ho hg
      have hHeld := hM2.held
      refine hK _ _ ⟨fun _ => hHeld, ?_⟩
      have hi := ih 4 true true d3 rfl (by unfold cntL at *; omega) _ _ _ _ _ _ _ _ hM2
      obtain ⟨qa, qb, qc, rfl⟩ := (hM2.t28 (by omega)).form
      obtain ⟨qd, qe, qf, rfl⟩ := (hM2.t34 (by omega)).form
      clear hM hM2 ih hK HK
      cases d3
      · refine M_take 12 (oi := { dst := some 35, op := Op.build 25 #[(0, Operand.tmp 28), (1, Operand.tmp 34)], type := 25, pos := "mid.go:409", after := #[{ on := 5, ground := Ground.data }, { on := 11, ground := Ground.data }], guard := none }) (v := .agg #[.slice qa qb qc, .slice qd qe qf]) rfl (by kernel_rfl) (by kernel_rfl) (by kernel_rfl) (by kernel_rfl) (by kernel_rfl) (by decide) (by decide) (by kernel_rfl) (fun _ _ _ h => hQ _ _ _ _ _ h) hHeld (Or.inl ⟨by rfl, by (intro w' hSw; go_simp; try (with_reducible rfl))⟩) ?_
        exact hi
      · refine M_take 12 (oi := { dst := some 35, op := Op.build 25 #[(0, Operand.tmp 28), (1, Operand.tmp 34)], type := 25, pos := "mid.go:409", after := #[{ on := 5, ground := Ground.data }, { on := 11, ground := Ground.data }], guard := none }) (v := .agg #[.slice qa qb qc, .slice qd qe qf]) rfl (by kernel_rfl) (by kernel_rfl) (by kernel_rfl) (by kernel_rfl) (by kernel_rfl) (by decide) (by decide) (by kernel_rfl) (fun _ _ _ h => hQ _ _ _ _ _ h) hHeld (Or.inl ⟨by rfl, by (intro w' hSw; go_simp; try (with_reducible rfl))⟩) ?_
        exact hi
    · refine wpOp_step (o := { dst := some 13, op := Op.alloc 25, type := 0, pos := "mid.go:409", after := #[], guard := none }) rfl (fun K hK => ?_)
      rw [if_pos (by rfl)]
      have hM2 := hM.new3
      refine more_o13 ?_
      have hr := hK (moreF y0 y1 y2 y3 y4 (.pointer (some ⟨bg, 0, none⟩)) (.pointer (some ⟨br, 0, none⟩)) (.pointer (some ⟨bb, 0, none⟩)) y8 y9 y10 y11 y12 y16 y17 y18 y19 y20 y21 y22 (.pointer (some ⟨bg, 0, none⟩)) (.slice p l1 c1) (.agg #[.string t4, .string t5, .slice pc l7 cc]) (.pointer (some ⟨bg, 1, none⟩)) (.slice p2 l2 c2) (.agg #[.string t1, .string t2, .string t3, .bool b4, .slice pq1 l5 cq1, .slice pq2 l6 cq2]) (.pointer (some ⟨w1.heap.size, 0, none⟩)) x25 x27 x28 x31 x33 x34 (X35 c x28 x34)) _ ⟨fun _ => hM2.held, ih c d1 d2 true hv (by unfold cntL at *; simp at *; omega) _ _ _ _ _ _ _ _ hM2⟩
      exact hr
    · exfalso
      unfold cntL at hcnt
      simp at hcnt
end
end Go.Proofs.Ytnjjlnhchfoigaa
