/- An object while it is read: where its fields lie in memory, and that it goes on: plain facts on worlds. -/
import Derived.Test.YtaogilpkeeigoaaGreatDoorListPlain
import Derived.Test.YtaogilpkeeigoaaGreatDoorFind
import Derived.Test.YtaogilpkeeigoaaGreatDoorRdName
import Derived.Test.YtaogilpkeeigoaaGreatDoorInsert
namespace Go.Proofs.YtaogilpkeeigoaaGreatDoor
open Go.RowKit
set_option linter.unusedVariables false
set_option linter.unusedSimpArgs false
/-- the cells of fields: a name, a value, a name, a value -/
def flat {α : Type} : List (Bs × α) → List Value → List Value
  | f :: fs, u :: us => .string ⟨f.1.toArray⟩ :: u :: flat fs us
  | _, _ => []
theorem flat_len {α : Type} : ∀ (fs : List (Bs × α)) (us : List Value), us.length = fs.length → (flat fs us).length = fs.length * 2
  | [], [], _ => rfl
  | [], _ :: _, h => by simp at h
  | _ :: _, [], h => by simp at h
  | f :: fs, u :: us, h => by
    have := flat_len fs us (by simpa using h)
    simp only [flat, List.length_cons, this]
    omega
theorem flat_get {α : Type} : ∀ (fs : List (Bs × α)) (us : List Value) (i : Nat) (f : Bs × α) (u : Value), fs[i]? = some f → us[i]? = some u → (flat fs us)[i * 2]? = some (.string ⟨f.1.toArray⟩) ∧ (flat fs us)[i * 2 + 1]? = some u
  | [], _, _, _, _, h, _ => by simp at h
  | _ :: _, [], _, _, _, _, h => by simp at h
  | g :: fs, v :: us, 0, f, u, h1, h2 => by
    simp at h1 h2
    subst h1
    subst h2
    exact ⟨rfl, rfl⟩
  | g :: fs, v :: us, i + 1, f, u, h1, h2 => by
    have := flat_get fs us i f u (by simpa using h1) (by simpa using h2)
    rw [show (i + 1) * 2 = i * 2 + 1 + 1 by omega]
    simp only [flat, List.getElem?_cons_succ]
    exact this
theorem flat_one {α : Type} : ∀ (fs : List (Bs × α)) (us : List Value), (∀ u ∈ us, u.oneCell' = true) → ∀ v ∈ flat fs us, v.oneCell' = true
  | [], _, _, v, h => by simp [flat] at h
  | _ :: _, [], _, v, h => by simp [flat] at h
  | f :: fs, u :: us, ho, v, h => by
    simp only [flat, List.mem_cons] at h
    rcases h with rfl | rfl | h
    · rfl
    · exact ho v (by simp)
    · exact flat_one fs us (fun x hx => ho x (by simp [hx])) v h
theorem flat_take {α : Type} : ∀ (fs : List (Bs × α)) (us : List Value) (i : Nat), us.length = fs.length → (flat fs us).take (i * 2) = flat (fs.take i) (us.take i)
  | [], [], i, _ => by simp [flat]
  | [], _ :: _, _, h => by simp at h
  | _ :: _, [], _, h => by simp at h
  | f :: fs, u :: us, 0, h => by simp [flat]
  | f :: fs, u :: us, i + 1, h => by
    rw [show (i + 1) * 2 = i * 2 + 1 + 1 by omega]
    simp only [flat, List.take_succ_cons]
    rw [flat_take fs us i (by simpa using h)]
theorem flat_drop {α : Type} : ∀ (fs : List (Bs × α)) (us : List Value) (i : Nat), us.length = fs.length → (flat fs us).drop (i * 2) = flat (fs.drop i) (us.drop i)
  | [], [], i, _ => by simp [flat]
  | [], _ :: _, _, h => by simp at h
  | _ :: _, [], _, h => by simp at h
  | f :: fs, u :: us, 0, h => by simp [flat]
  | f :: fs, u :: us, i + 1, h => by
    rw [show (i + 1) * 2 = i * 2 + 1 + 1 by omega]
    simp only [flat, List.drop_succ_cons]
    exact flat_drop fs us i (by simpa using h)
theorem flat_append {α : Type} : ∀ (fs : List (Bs × α)) (us : List Value) (gs : List (Bs × α)) (vs : List Value), us.length = fs.length → flat (fs ++ gs) (us ++ vs) = flat fs us ++ flat gs vs
  | [], [], gs, vs, _ => by simp [flat]
  | [], _ :: _, _, _, h => by simp at h
  | _ :: _, [], _, _, h => by simp at h
  | f :: fs, u :: us, gs, vs, h => by
    simp only [flat, List.cons_append]
    rw [flat_append fs us gs vs (by simpa using h)]
def insAt {α : Type} (l : List α) (i : Nat) (x : α) : List α := l.take i ++ x :: l.drop i
theorem insAt_len {α : Type} (l : List α) (i : Nat) (x : α) (h : i ≤ l.length) : (insAt l i x).length = l.length + 1 := by
  unfold insAt
  simp only [List.length_append, List.length_take, List.length_cons, List.length_drop]
  omega
theorem flat_insert {α : Type} (fs : List (Bs × α)) (us : List Value) (i : Nat) (nm : Bs) (j : α) (u : Value) (h : us.length = fs.length) :
    inserted (flat fs us) i (.string ⟨nm.toArray⟩) u = flat (insAt fs i (nm, j)) (insAt us i u) := by
  unfold inserted insAt
  rw [flat_append _ _ _ _ (by simp only [List.length_take]; omega), flat_take fs us i h, flat_drop fs us i h]
  rfl
theorem ins_get {α : Type} {l : List α} {i k : Nat} {x y : α} (hi : i ≤ l.length) (h : (insAt l i x)[k]? = some y) : (k < i ∧ l[k]? = some y) ∨ (k = i ∧ y = x) ∨ (i < k ∧ l[k - 1]? = some y) := by
  have hl : (l.take i).length = i := by rw [List.length_take]; omega
  unfold insAt at h
  rcases Nat.lt_trichotomy k i with h' | h' | h'
  · rw [List.getElem?_append_left (by omega), List.getElem?_take, if_pos h'] at h
    exact Or.inl ⟨h', h⟩
  · rw [List.getElem?_append_right (by omega), hl, h', Nat.sub_self] at h
    simp at h
    exact Or.inr (Or.inl ⟨h', h.symm⟩)
  · rw [List.getElem?_append_right (by omega), hl] at h
    obtain ⟨m, hm⟩ : ∃ m, k - i = m + 1 := ⟨k - i - 1, by omega⟩
    rw [hm, List.getElem?_cons_succ, List.getElem?_drop] at h
    refine Or.inr (Or.inr ⟨h', ?_⟩)
    rw [show k - 1 = i + m by omega]
    exact h
theorem insertAt_insAt {α : Type} (fs : List (Bs × α)) (nm : Bs) (v : α) : insertAt fs nm v = insAt fs (placeOfName fs nm) (nm, v) := insert_eq fs nm v
/-- what an object's boxes hold: the reader, what has been gathered, how deep it lies -/
structure OBox (b : Nat) (d : Int) (c0 cf cd : Nat) (w : World) (sl : Value) : Prop where
  h0 : w.heap[c0]? = some (.cells #[.pointer (some ⟨b, 0, none⟩)] 105 (0, 0))
  h1 : w.heap[cd]? = some (.cells #[.int .i64 d] 3 (0, 0))
  h2 : w.heap[cf]? = some (.cells #[sl] 84 (0, 0))
def OInv (b : Nat) (d : Int) (c0 cf cd N0 N1 n : Nat) (s : List (Bs × J n)) (k : Nat) (w : World) : Prop :=
  s.length ≤ k ∧ Rising s ∧ ∃ (g cap : Nat) (vs : List Value), OBox b d c0 cf cd w (.slice (some ⟨g, 0, none⟩) s.length cap) ∧ Row w 87 2 g s.length cap (flat s vs) ∧ vs.length = s.length ∧ (∀ u ∈ vs, u.oneCell' = true) ∧ N0 ≤ g ∧ g ≠ c0 ∧ g ≠ cd ∧ g ≠ cf ∧
    ∀ (i : Nat) (f : Bs × J n) (u : Value), s[i]? = some f → vs[i]? = some u → St (fun c => c < N1 ∨ c = g) w n f.2 u
def OErr (cf : Nat) (w : World) : Prop := ∃ a m cap, w.heap[cf]? = some (.cells #[.slice a m cap] 84 (0, 0))
theorem OInv.err {b : Nat} {d : Int} {c0 cf cd N0 N1 n : Nat} {s : List (Bs × J n)} {k : Nat} {w : World} (h : OInv b d c0 cf cd N0 N1 n s k w) : OErr cf w := by
  obtain ⟨_, _, g, cap, vs, hb, _⟩ := h
  exact ⟨_, _, _, hb.h2⟩
theorem OBox.kept {b : Nat} {d : Int} {c0 cf cd : Nat} {w w' : World} {sl : Value} {row : Option Nat} (h : OBox b d c0 cf cd w sl) (g : w.grownBy w' row) (e0 : row ≠ some c0) (e1 : row ≠ some cd) (e2 : row ≠ some cf) : OBox b d c0 cf cd w' sl :=
  ⟨(g.block c0 (lt_of_block h.h0) (fun e => e0 e.symm)).trans h.h0, (g.block cd (lt_of_block h.h1) (fun e => e1 e.symm)).trans h.h1, (g.block cf (lt_of_block h.h2) (fun e => e2 e.symm)).trans h.h2⟩
theorem OInv.kept {b : Nat} {d : Int} {c0 cf cd N0 N1 n : Nat} {s : List (Bs × J n)} {k : Nat} {w w' : World} (h : OInv b d c0 cf cd N0 N1 n s k w) (g : G b w w') (hb : b < N0) (h0 : N0 ≤ c0) (h1 : N0 ≤ cd) (h2 : N0 ≤ cf) (hN : N0 ≤ N1) : OInv b d c0 cf cd N0 N1 n s k w' := by
  obtain ⟨hk, hri, gg, cap, vs, hx, hr, hvl, hvo, hg, e0, e1, e2, hel⟩ := h
  refine ⟨hk, hri, gg, cap, vs, hx.kept g (fun e => by cases e; omega) (fun e => by cases e; omega) (fun e => by cases e; omega), hr.kept g (fun e => by cases e; omega), hvl, hvo, hg, e0, e1, e2, fun i x u hx hu => ?_⟩
  exact (hel i x u hx hu).grown g (fun k e => by cases e; exact Or.inl (by omega))
theorem row_fields {α : Type} {w : World} {g n cap : Nat} {fs : List (Bs × α)} {vs : List Value} (h : Row w 87 2 g n cap (flat fs vs)) (hl : vs.length = fs.length) : Fields w g fs vs :=
  ⟨hl, fun i f u hf hu => by
    have := flat_get fs vs i f u hf hu
    exact ⟨h.cell _ _ this.1, h.cell _ _ this.2⟩⟩
/-- one field more -/
theorem oinv_step {b : Nat} {d : Int} {c0 cf cd N0 N1 n g cap g' cap' k' : Nat} {s : List (Bs × J n)} {nm : Bs} {j : J n} {v : Value} {vs : List Value} {w w1 w2 : World} {o : Obj} {row : Option Nat}
    (hri : Rising s) (hnm : (s.any fun f => f.1 == nm) = false)
    (hx : OBox b d c0 cf cd w (.slice (some ⟨g, 0, none⟩) s.length cap)) (hr : Row w 87 2 g s.length cap (flat s vs)) (hvl : vs.length = s.length) (hvo : ∀ u ∈ vs, u.oneCell' = true) (hv1 : v.oneCell' = true) (hg : N0 ≤ g) (e0 : g ≠ c0) (e1 : g ≠ cd) (e2 : g ≠ cf)
    (hel : ∀ (i : Nat) (f : Bs × J n) (u : Value), s[i]? = some f → vs[i]? = some u → St (fun c => c < N1 ∨ c = g) w n f.2 u)
    (hb : b < N0) (k0 : N0 ≤ c0) (k1 : N0 ≤ cd) (k2 : N0 ≤ cf) (l2 : cf < N1) (n01 : c0 ≠ cf) (n12 : cd ≠ cf) (hN : N0 ≤ N1) (hNw : N1 ≤ w.heap.size)
    (hG : G b w w1) (hst : St (fun c => c < w.heap.size) w1 n j v) (happ : (w1.alloc o).grownBy w2 row)
    (hrow : Row w2 87 2 g' (s.length + 1) cap' (inserted (flat s vs) (placeOfName s nm) (.string ⟨nm.toArray⟩) v)) (hg' : (row = some g ∧ g' = g) ∨ (row = none ∧ w1.heap.size < g')) (hk' : s.length < k') :
    OInv b d c0 cf cd N0 N1 n (insertAt s nm j) k' (w2.setCell ⟨cf, 0, none⟩ (.slice (some ⟨g', 0, none⟩) (s.length + 1) cap')) := by
  have hgw : g < w.heap.size := hr.lt
  have hsz := hG.size
  have hA : (w1.alloc o).heap.size = w1.heap.size + 1 := by simp
  have hpl := place_le s nm
  have hg2 : N0 ≤ g' ∧ g' ≠ c0 ∧ g' ≠ cd ∧ g' ≠ cf := by
    rcases hg' with ⟨_, rfl⟩ | ⟨_, h⟩
    · exact ⟨hg, e0, e1, e2⟩
    · have a0 := lt_of_block hx.h0
      have a1 := lt_of_block hx.h1
      have a2 := lt_of_block hx.h2
      omega
  have hx2 : OBox b d c0 cf cd w2 (.slice (some ⟨g, 0, none⟩) s.length cap) := by
    have h1 := hx.kept hG (fun e => by cases e; omega) (fun e => by cases e; omega) (fun e => by cases e; omega)
    have h2 := h1.kept (World.grownBy_alloc w1 o none) (fun e => by cases e) (fun e => by cases e) (fun e => by cases e)
    refine h2.kept happ ?_ ?_ ?_
    all_goals (rcases hg' with ⟨rfl, _⟩ | ⟨rfl, _⟩)
    all_goals (intro e; cases e; try contradiction)
  have hrow_av : ∀ k, row = some k → (k < N1 ∨ k = g ∨ k = g') := by
    rcases hg' with ⟨rfl, _⟩ | ⟨rfl, _⟩
    · intro k e; cases e; exact Or.inr (Or.inl rfl)
    · intro k e; cases e
  have hset : ∀ {x : J n} {u : Value}, St (fun c => c < N1 ∨ c = g ∨ c = g') (w1.alloc o) n x u → St (fun c => c < N1 ∨ c = g') (w2.setCell ⟨cf, 0, none⟩ (.slice (some ⟨g', 0, none⟩) (s.length + 1) cap')) n x u := by
    intro x u h
    have h1 := h.grown happ hrow_av
    have h2 := h1.mono (av' := fun c => c < N1 ∨ c = g') (fun c _ e => by rcases e with e | e
                                                                          · exact Or.inl e
                                                                          · exact Or.inr (Or.inr e))
    exact h2.grown (grownBy_setCell w2 cf 0 _) (fun k e => by cases e; exact Or.inl l2)
  have hold : ∀ (i : Nat) (f : Bs × J n) (u : Value), s[i]? = some f → vs[i]? = some u → St (fun c => c < N1 ∨ c = g ∨ c = g') (w1.alloc o) n f.2 u := by
    intro i f u hf hu
    have h1 := (hel i f u hf hu).grown hG (fun k e => by cases e; exact Or.inl (by omega))
    have h2 := h1.grown (World.grownBy_alloc w1 o none) (fun k e => by cases e)
    exact h2.wide (fun c e => by
      rcases e with e | e | e
      · exact Or.inl (Or.inl e)
      · exact Or.inl (Or.inr e)
      · rcases hg' with ⟨_, h⟩ | ⟨_, h⟩
        · exact Or.inl (Or.inr (by omega))
        · exact Or.inr (by omega))
  have hnew : St (fun c => c < N1 ∨ c = g ∨ c = g') (w1.alloc o) n j v := by
    have h2 := hst.grown (World.grownBy_alloc w1 o none) (fun k e => by cases e)
    exact h2.wide (fun c e => by
      rcases e with e | e | e
      · exact Or.inl (by omega)
      · exact Or.inl (by omega)
      · rcases hg' with ⟨_, h⟩ | ⟨_, h⟩
        · exact Or.inl (by omega)
        · exact Or.inr (by omega))
  have hil : (insertAt s nm j).length = s.length + 1 := by rw [insertAt_insAt, insAt_len _ _ _ hpl]
  refine ⟨by rw [hil]; omega, rising_insert hri nm j hnm, g', cap', insAt vs (placeOfName s nm) v, ?_, ?_, ?_, ?_, hg2.1, hg2.2.1, hg2.2.2.1, hg2.2.2.2, ?_⟩
  · rw [hil]
    exact ⟨(heap_setCell_other _ _ _ _ n01).trans hx2.h0, (heap_setCell_other _ _ _ _ n12).trans hx2.h1, one_setCell hx2.h2⟩
  · rw [hil, insertAt_insAt, ← flat_insert s vs (placeOfName s nm) nm j v hvl]
    exact hrow.kept (grownBy_setCell w2 cf 0 _) (fun e => by cases e; exact hg2.2.2.2 rfl)
  · rw [hil, insAt_len _ _ _ (by omega), hvl]
  · intro u hu
    unfold insAt at hu
    rcases List.mem_append.1 hu with hu | hu
    · exact hvo u (List.mem_of_mem_take hu)
    · rcases List.mem_cons.1 hu with rfl | hu
      · exact hv1
      · exact hvo u (List.mem_of_mem_drop hu)
  · intro i f u hf hu
    rw [insertAt_insAt] at hf
    refine hset ?_
    rcases ins_get hpl hf with ⟨h1, hf⟩ | ⟨h1, rfl⟩ | ⟨h1, hf⟩
    · rcases ins_get (by omega) hu with ⟨_, hu⟩ | ⟨h2, _⟩ | ⟨h2, _⟩
      · exact hold i f u hf hu
      · omega
      · omega
    · rcases ins_get (by omega) hu with ⟨h2, _⟩ | ⟨_, rfl⟩ | ⟨h2, _⟩
      · omega
      · exact hnew
      · omega
    · rcases ins_get (by omega) hu with ⟨h2, _⟩ | ⟨h2, _⟩ | ⟨_, hu⟩
      · omega
      · omega
      · exact hold (i - 1) f u hf hu
end Go.Proofs.YtaogilpkeeigoaaGreatDoor
