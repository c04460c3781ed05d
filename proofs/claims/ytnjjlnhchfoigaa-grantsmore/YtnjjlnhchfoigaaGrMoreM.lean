/- The statement of GrantsMore whose parts come in any order: two rows of one's own, one more behind each, in a box of their own. -/
import Derived.Test.YtnjjlnhchfoigaaGrCopyG
import Derived.Test.YtnjjlnhchfoigaaRfOrd
namespace Go.Proofs.Ytnjjlnhchfoigaa
open Go.RowKit
set_option linter.unusedVariables false
set_option linter.unusedSimpArgs false
def moreOps : Array Oper := #[{ dst := some 23, op := Op.fieldAddr 25 (Operand.tmp 5) 0, type := 0, pos := "mid.go:409", after := #[], guard := none }, { dst := some 24, op := Op.load 22 (Operand.tmp 23), type := 22, pos := "mid.go:409", after := #[{ on := 0, ground := Ground.data }], guard := none }, { dst := some 25, op := Op.call { callee := Callee.value (Operand.func 19), args := #[Operand.tmp 24], argTypes := #[22] }, type := 22, pos := "mid.go:409", after := #[{ on := 1, ground := Ground.data }], guard := none }, { dst := some 26, op := Op.load 47 (Operand.tmp 6), type := 47, pos := "mid.go:409", after := #[], guard := none }, { dst := some 27, op := Op.buildSlice 22 1 #[(0, Operand.tmp 26)], type := 22, pos := "mid.go:409", after := #[{ on := 3, ground := Ground.data }], guard := none }, { dst := some 28, op := Op.call { callee := Callee.builtin Builtin.append, args := #[Operand.tmp 25, Operand.tmp 27], argTypes := #[22, 22] }, type := 22, pos := "mid.go:409", after := #[{ on := 2, ground := Ground.data }, { on := 4, ground := Ground.data }, { on := 2, ground := Ground.chain }], guard := none }, { dst := some 29, op := Op.fieldAddr 25 (Operand.tmp 5) 1, type := 0, pos := "mid.go:409", after := #[], guard := none }, { dst := some 30, op := Op.load 23 (Operand.tmp 29), type := 23, pos := "mid.go:409", after := #[{ on := 6, ground := Ground.data }], guard := none }, { dst := some 31, op := Op.call { callee := Callee.value (Operand.func 20), args := #[Operand.tmp 30], argTypes := #[23] }, type := 23, pos := "mid.go:409", after := #[{ on := 7, ground := Ground.data }, { on := 5, ground := Ground.chain }], guard := none }, { dst := some 32, op := Op.load 49 (Operand.tmp 7), type := 49, pos := "mid.go:409", after := #[], guard := none }, { dst := some 33, op := Op.buildSlice 23 1 #[(0, Operand.tmp 32)], type := 23, pos := "mid.go:409", after := #[{ on := 9, ground := Ground.data }], guard := none }, { dst := some 34, op := Op.call { callee := Callee.builtin Builtin.append, args := #[Operand.tmp 31, Operand.tmp 33], argTypes := #[23, 23] }, type := 23, pos := "mid.go:409", after := #[{ on := 8, ground := Ground.data }, { on := 10, ground := Ground.data }, { on := 8, ground := Ground.chain }], guard := none }, { dst := some 35, op := Op.build 25 #[(0, Operand.tmp 28), (1, Operand.tmp 34)], type := 25, pos := "mid.go:409", after := #[{ on := 5, ground := Ground.data }, { on := 11, ground := Ground.data }], guard := none }, { dst := some 13, op := Op.alloc 25, type := 0, pos := "mid.go:409", after := #[], guard := none }, { dst := none, op := Op.store 25 (Operand.tmp 13) (Operand.tmp 35), type := 0, pos := "mid.go:409", after := #[{ on := 13, ground := Ground.data }, { on := 12, ground := Ground.data }, { on := 11, ground := Ground.chain }, { on := 0, ground := Ground.phase }, { on := 1, ground := Ground.phase }, { on := 2, ground := Ground.phase }, { on := 3, ground := Ground.phase }, { on := 4, ground := Ground.phase }, { on := 5, ground := Ground.phase }, { on := 6, ground := Ground.phase }, { on := 7, ground := Ground.phase }, { on := 8, ground := Ground.phase }, { on := 9, ground := Ground.phase }, { on := 10, ground := Ground.phase }, { on := 11, ground := Ground.phase }, { on := 12, ground := Ground.phase }, { on := 13, ground := Ground.phase }], guard := none }]
abbrev moreF (y0 y1 y2 y3 y4 y5 y6 y7 y8 y9 y10 y11 y12 y16 y17 y18 y19 y20 y21 y22 y23 y24 y26 y29 y30 y32 x13 x25 x27 x28 x31 x33 x34 x35 : Value) : Act := { tmps := #[y0, y1, y2, y3, y4, y5, y6, y7, y8, y9, y10, y11, y12, x13, undef, undef, y16, y17, y18, y19, y20, y21, y22, y23, y24, x25, y26, x27, x28, y29, y30, x31, y32, x33, x34, x35, undef, undef, undef, undef, undef, undef, undef, undef, undef, undef, undef, undef, undef, undef, undef, undef, undef, undef, undef, undef, undef, undef, undef, undef, undef, undef, undef, undef, undef, undef], defers := [] }
/-- what lies in a block -/
def Blk (w : World) (b : Nat) (o : Obj) : Prop := w.heap[b]? = some o
theorem Blk.lt {w : World} {b : Nat} {o : Obj} (h : Blk w b o) : b < w.heap.size := (Array.getElem?_eq_some_iff.1 h).1
theorem Blk.below {w w' : World} {b : Nat} {o : Obj} (h : Blk w b o) (hb : Below w.heap.size w w') : Blk w' b o := (hb.block b h.lt).trans h
theorem Blk.grown {w w' : World} {b : Nat} {o : Obj} {row : Option Nat} (h : Blk w b o) (hg : w.grownBy w' row) (hne : some b ≠ row) : Blk w' b o := (hg.block b h.lt hne).trans h
theorem Blk.new (w : World) (o : Obj) : Blk (w.alloc o) w.heap.size o := heap_alloc_new w o
theorem Blk.cell {w : World} {b i : Nat} {cur : Array Value} {t : TypeId} {u : Value} (h : Blk w b (.cells cur t)) (hu : cur[i]? = some u) : w.cell? ⟨b, i, none⟩ = some u := by
  unfold Blk at h
  simp [World.cell?, h, hu]
theorem Blk.frozen {w : World} {b i : Nat} {cur : Array Value} {t : TypeId} (h : Blk w b (.cells cur t)) : w.frozen? ⟨b, i, none⟩ = false := by
  unfold Blk at h
  simp [World.frozen?, h]
/-- a value's own block -/
def blkOf : Value → Option Nat
  | .slice (some a) _ _ => some a.block
  | .pointer (some a) => some a.block
  | _ => none
/-- a row of one thing, in a block of its own -/
def TB (w : World) (v : Value) (cs : Array Value) (t : TypeId) : Prop := ∃ b, v = .slice (some ⟨b, 0, none⟩) 1 1 ∧ Blk w b (.cells cs t)
def TP (w : World) (B : Nat) (v : Value) : Prop := ∃ b, v = .pointer (some ⟨b, 0, none⟩) ∧ B ≤ b ∧ Blk w b (.cells #[.slice none 0 0, .slice none 0 0] 25)
/-- apart from a row of one's own -/
def Ap (v u : Value) : Prop := ∀ b, v.ownBlock = some b → blkOf u ≠ some b
theorem TB.below {w w' : World} {v : Value} {cs : Array Value} {t : TypeId} (h : TB w v cs t) (hb : Below w.heap.size w w') : TB w' v cs t := by
  obtain ⟨b, e, k⟩ := h
  exact ⟨b, e, k.below hb⟩
theorem TP.below {w w' : World} {B : Nat} {v : Value} (h : TP w B v) (hb : Below w.heap.size w w') : TP w' B v := by
  obtain ⟨b, e, g, k⟩ := h
  exact ⟨b, e, g, k.below hb⟩
theorem TB.grown {w w' : World} {v u : Value} {cs : Array Value} {t : TypeId} (h : TB w v cs t) (hg : w.grownBy w' u.ownBlock) (ha : Ap u v) : TB w' v cs t := by
  obtain ⟨b, rfl, k⟩ := h
  exact ⟨b, rfl, k.grown hg (fun e => ha b e.symm rfl)⟩
theorem TP.grown {w w' : World} {B : Nat} {v u : Value} (h : TP w B v) (hg : w.grownBy w' u.ownBlock) (ha : Ap u v) : TP w' B v := by
  obtain ⟨b, rfl, g, k⟩ := h
  exact ⟨b, rfl, g, k.grown hg (fun e => ha b e.symm rfl)⟩
theorem TB.lt {w : World} {v : Value} {cs : Array Value} {t : TypeId} (h : TB w v cs t) : ∀ b, blkOf v = some b → b < w.heap.size := by
  obtain ⟨b, rfl, k⟩ := h
  intro b' e
  injection e with e
  subst e
  exact k.lt
theorem TP.lt {w : World} {B : Nat} {v : Value} (h : TP w B v) : ∀ b, blkOf v = some b → b < w.heap.size := by
  obtain ⟨b, rfl, _, k⟩ := h
  intro b' e
  injection e with e
  subst e
  exact k.lt
section
variable {α : Type} {st : Nat} {Q : World → α → List Value → Prop} {e : TypeId} {w0 : World} {B : Nat} {w w' : World} {v u : Value} {l : List α}
theorem OwnC.lt (h : OwnC st Q e w0 B w v l) : ∀ b, v.ownBlock = some b → B ≤ b ∧ b < w.heap.size := by
  obtain ⟨L, _, _, _, k⟩ := h
  exact World.ownsRow.lt k
theorem OwnC.form (h : OwnC st Q e w0 B w v l) : ∃ p n c, v = .slice p n c := by
  obtain ⟨L, _, _, _, k⟩ := h
  rcases k.2 with ⟨rfl, _⟩ | ⟨g, cap, cur, rfl, _⟩
  · exact ⟨_, _, _, rfl⟩
  · exact ⟨_, _, _, rfl⟩
theorem OwnC.blk (h : OwnC st Q e w0 B w v l) : blkOf v = v.ownBlock := by
  obtain ⟨L, _, _, _, k⟩ := h
  rcases k.2 with ⟨rfl, _⟩ | ⟨g, cap, cur, rfl, _⟩
  · rfl
  · rfl
theorem OwnC.low {B' : Nat} (h : OwnC st Q e w0 B w v l) (hb : B' ≤ B) : OwnC st Q e w0 B' w v l := by
  obtain ⟨L, h1, h0, h2, h3⟩ := h
  exact ⟨L, h1, h0, h2, own_low h3 hb⟩
theorem OwnC.grown (h : OwnC st Q e w0 B w v l) (hg : w.grownBy w' u.ownBlock) (ha : Ap u v) : OwnC st Q e w0 B w' v l := by
  have hk := h.blk
  obtain ⟨L, h1, h0, h2, h3⟩ := h
  refine ⟨L, h1, h0, h2, h3.kept hg ?_⟩
  cases hv : v.ownBlock with
  | none => exact Or.inl rfl
  | some b => exact Or.inr (fun e => ha b e.symm (hk.trans hv))
end
/-- what holds while the parts come: c of the four in a row are done, and of the three that wait for nothing those that are told -/
structure MF (w0 wa : World) (rs : List Ro) (bs : List Bi) (xr : Ro) (yb : Bi) (cr cb : Array Value) (c : Nat) (d1 d2 d3 : Bool) (x13 x25 x27 x28 x31 x33 x34 : Value) (w1 : World) : Prop where
  held : Below wa.heap.size wa w1
  t25 : c = 1 → OwnO w0 wa.heap.size w1 x25 rs
  t28 : 2 ≤ c → OwnO w0 wa.heap.size w1 x28 (rs ++ [xr])
  t31 : c = 3 → OwnBi w0 wa.heap.size w1 x31 bs
  t34 : 4 ≤ c → OwnBi w0 wa.heap.size w1 x34 (bs ++ [yb])
  t27 : d1 = true → c < 2 → TB w1 x27 cr 47
  t33 : d2 = true → c < 4 → TB w1 x33 cb 49
  t13 : d3 = true → TP w1 wa.heap.size x13
  a1 : c = 1 → d2 = true → Ap x25 x33
  a2 : c = 1 → d3 = true → Ap x25 x13
  a3 : c = 3 → Ap x31 x28
  a4 : c = 3 → d3 = true → Ap x31 x13
section
variable {w0 wa w1 w2 : World} {rs : List Ro} {bs : List Bi} {xr : Ro} {yb : Bi} {cr cb : Array Value} {c : Nat} {d1 d2 d3 : Bool} {x13 x25 x27 x28 x31 x33 x34 v : Value}
theorem ap_new {B : Nat} {u : Value} (h : ∀ b, v.ownBlock = some b → B ≤ b ∧ b < w2.heap.size) (k : ∀ b, blkOf u = some b → b < B) : Ap v u := fun b hb hu => by
  have := (h b hb).1
  have := k b hu
  omega
theorem MF.row1 (h : MF w0 wa rs bs xr yb cr cb 0 d1 d2 d3 x13 x25 x27 x28 x31 x33 x34 w1) (ho : OwnO w0 w1.heap.size w2 v rs) (hb : Below w1.heap.size w1 w2) : MF w0 wa rs bs xr yb cr cb 1 d1 d2 d3 x13 v x27 x28 x31 x33 x34 w2 where
  held := h.held.trans (hb.mono h.held.size)
  t25 := fun _ => ho.low h.held.size
  t28 := fun e => by omega
  t31 := fun e => by omega
  t34 := fun e => by omega
  t27 := fun e _ => (h.t27 e (by omega)).below hb
  t33 := fun e _ => (h.t33 e (by omega)).below hb
  t13 := fun e => (h.t13 e).below hb
  a1 := fun _ e => ap_new ho.lt (h.t33 e (by omega)).lt
  a2 := fun _ e => ap_new ho.lt (h.t13 e).lt
  a3 := fun e => by omega
  a4 := fun e => by omega
theorem MF.row2 (h : MF w0 wa rs bs xr yb cr cb 1 d1 d2 d3 x13 x25 x27 x28 x31 x33 x34 w1) (ho : OwnO w0 wa.heap.size w2 v (rs ++ [xr])) (hg : w1.grownBy w2 x25.ownBlock) : MF w0 wa rs bs xr yb cr cb 2 d1 d2 d3 x13 x25 x27 v x31 x33 x34 w2 where
  held := h.held.grown hg h.held.size (fun b e => ((h.t25 rfl).lt b e).1)
  t25 := fun e => by omega
  t28 := fun _ => ho
  t31 := fun e => by omega
  t34 := fun e => by omega
  t27 := fun e _ => by omega
  t33 := fun e _ => (h.t33 e (by omega)).grown hg (h.a1 rfl e)
  t13 := fun e => (h.t13 e).grown hg (h.a2 rfl e)
  a1 := fun e => by omega
  a2 := fun e => by omega
  a3 := fun e => by omega
  a4 := fun e => by omega
theorem MF.row3 (h : MF w0 wa rs bs xr yb cr cb 2 d1 d2 d3 x13 x25 x27 x28 x31 x33 x34 w1) (ho : OwnBi w0 w1.heap.size w2 v bs) (hb : Below w1.heap.size w1 w2) : MF w0 wa rs bs xr yb cr cb 3 d1 d2 d3 x13 x25 x27 x28 v x33 x34 w2 where
  held := h.held.trans (hb.mono h.held.size)
  t25 := fun e => by omega
  t28 := fun _ => (h.t28 (by omega)).below hb
  t31 := fun _ => ho.low h.held.size
  t34 := fun e => by omega
  t27 := fun e _ => by omega
  t33 := fun e _ => (h.t33 e (by omega)).below hb
  t13 := fun e => (h.t13 e).below hb
  a1 := fun e => by omega
  a2 := fun e => by omega
  a3 := fun _ => ap_new ho.lt (fun b e => ((h.t28 (by omega)).lt b ((h.t28 (by omega)).blk.symm.trans e)).2)
  a4 := fun _ e => ap_new ho.lt (h.t13 e).lt
theorem MF.row4 (h : MF w0 wa rs bs xr yb cr cb 3 d1 d2 d3 x13 x25 x27 x28 x31 x33 x34 w1) (ho : OwnBi w0 wa.heap.size w2 v (bs ++ [yb])) (hg : w1.grownBy w2 x31.ownBlock) : MF w0 wa rs bs xr yb cr cb 4 d1 d2 d3 x13 x25 x27 x28 x31 x33 v w2 where
  held := h.held.grown hg h.held.size (fun b e => ((h.t31 rfl).lt b e).1)
  t25 := fun e => by omega
  t28 := fun _ => (h.t28 (by omega)).grown hg (h.a3 rfl)
  t31 := fun e => by omega
  t34 := fun _ => ho
  t27 := fun e _ => by omega
  t33 := fun e _ => by omega
  t13 := fun e => (h.t13 e).grown hg (h.a4 rfl e)
  a1 := fun e => by omega
  a2 := fun e => by omega
  a3 := fun e => by omega
  a4 := fun e => by omega
theorem alloc_b (w1 : World) (o : Obj) : Below w1.heap.size w1 (w1.alloc o) := (Below.refl _ _).alloc (Nat.le_refl _) _
theorem MF.new1 (h : MF w0 wa rs bs xr yb cr cb c false d2 d3 x13 x25 x27 x28 x31 x33 x34 w1) (hc : c < 2) : MF w0 wa rs bs xr yb cr cb c true d2 d3 x13 x25 (.slice (some ⟨w1.heap.size, 0, none⟩) 1 1) x28 x31 x33 x34 (w1.alloc (.cells cr 47)) where
  held := h.held.trans ((alloc_b _ _).mono h.held.size)
  t25 := fun e => (h.t25 e).below (alloc_b _ _)
  t28 := fun e => by omega
  t31 := fun e => by omega
  t34 := fun e => by omega
  t27 := fun _ _ => ⟨_, rfl, Blk.new _ _⟩
  t33 := fun e k => (h.t33 e k).below (alloc_b _ _)
  t13 := fun e => (h.t13 e).below (alloc_b _ _)
  a1 := h.a1
  a2 := h.a2
  a3 := h.a3
  a4 := h.a4
theorem MF.new2 (h : MF w0 wa rs bs xr yb cr cb c d1 false d3 x13 x25 x27 x28 x31 x33 x34 w1) (hc : c < 4) : MF w0 wa rs bs xr yb cr cb c d1 true d3 x13 x25 x27 x28 x31 (.slice (some ⟨w1.heap.size, 0, none⟩) 1 1) x34 (w1.alloc (.cells cb 49)) where
  held := h.held.trans ((alloc_b _ _).mono h.held.size)
  t25 := fun e => (h.t25 e).below (alloc_b _ _)
  t28 := fun e => (h.t28 e).below (alloc_b _ _)
  t31 := fun e => (h.t31 e).below (alloc_b _ _)
  t34 := fun e => by omega
  t27 := fun e k => (h.t27 e k).below (alloc_b _ _)
  t33 := fun _ _ => ⟨_, rfl, Blk.new _ _⟩
  t13 := fun e => (h.t13 e).below (alloc_b _ _)
  a1 := fun e _ => fun b hb hu => by
    have := ((h.t25 e).lt b hb).2
    injection hu with hu
    have hu : w1.heap.size = b := hu
    omega
  a2 := h.a2
  a3 := h.a3
  a4 := h.a4
theorem MF.new3 (h : MF w0 wa rs bs xr yb cr cb c d1 d2 false x13 x25 x27 x28 x31 x33 x34 w1) : MF w0 wa rs bs xr yb cr cb c d1 d2 true (.pointer (some ⟨w1.heap.size, 0, none⟩)) x25 x27 x28 x31 x33 x34 (w1.alloc (.cells #[.slice none 0 0, .slice none 0 0] 25)) where
  held := h.held.trans ((alloc_b _ _).mono h.held.size)
  t25 := fun e => (h.t25 e).below (alloc_b _ _)
  t28 := fun e => (h.t28 e).below (alloc_b _ _)
  t31 := fun e => (h.t31 e).below (alloc_b _ _)
  t34 := fun e => (h.t34 e).below (alloc_b _ _)
  t27 := fun e k => (h.t27 e k).below (alloc_b _ _)
  t33 := fun e k => (h.t33 e k).below (alloc_b _ _)
  t13 := fun _ => ⟨_, rfl, h.held.size, Blk.new _ _⟩
  a1 := h.a1
  a2 := fun e _ => fun b hb hu => by
    have := ((h.t25 e).lt b hb).2
    injection hu with hu
    have hu : w1.heap.size = b := hu
    omega
  a3 := h.a3
  a4 := fun e _ => fun b hb hu => by
    have := ((h.t31 e).lt b hb).2
    injection hu with hu
    have hu : w1.heap.size = b := hu
    omega
end
end Go.Proofs.Ytnjjlnhchfoigaa
