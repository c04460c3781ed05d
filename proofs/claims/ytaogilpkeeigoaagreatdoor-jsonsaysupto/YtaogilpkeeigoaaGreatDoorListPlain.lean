/- A list while it is read: where its parts lie in memory, and that it goes on: plain facts on worlds. -/
import Derived.Test.YtaogilpkeeigoaaGreatDoorRepr
import Derived.Test.YtaogilpkeeigoaaGreatDoorRd
namespace Go.Proofs.YtaogilpkeeigoaaGreatDoor
open Go.RowKit
set_option linter.unusedVariables false
set_option linter.unusedSimpArgs false
/-- What is known behind a call that reads a value. -/
def ValPost (b : Nat) (t : ByteArray) (p k n : Nat) (w : World) (e : Ending) (w' : World) : Prop :=
  G b w w' ∧ ((∃ (er : Nat) (v : Value), value n k (rest t p) = .error er ∧ er ≠ 0 ∧ er < 100 ∧ e = .returned (.tuple #[v, .int .i64 er]) ∧ (v = .nilIface ∨ ∃ T x, v = .iface T x)) ∨
    ∃ (j : J n) (k' q : Nat) (v : Value), value n k (rest t p) = .ok (j, k', rest t q) ∧ p < q ∧ q ≤ t.size ∧ k < k' ∧ k' ≤ 200 ∧ e = .returned (.tuple #[v, .int .i64 0]) ∧ (∃ T x, v = .iface T x) ∧ Rd b t q k' w' ∧ St (fun c => c < w.heap.size) w' n j v)
def ValueOK (n : Nat) : Prop := ∀ (b : Nat) (t : ByteArray) (p k : Nat) (d : Int) (w : World), Rd b t p k w → p ≤ t.size → t.size ≤ 2000 → k ≤ 200 → d + n = 10 → 0 ≤ d →
  Calls Tryz.prog 42 #[.pointer (some ⟨b, 0, none⟩), .int .i64 d] w (ValPost b t p k n w)
/-- what a list's boxes hold: the reader, how deep it lies, what has been gathered -/
structure LBox (b : Nat) (d : Int) (c0 c1 c2 : Nat) (w : World) (sl : Value) : Prop where
  h0 : w.heap[c0]? = some (.cells #[.pointer (some ⟨b, 0, none⟩)] 105 (0, 0))
  h1 : w.heap[c1]? = some (.cells #[.int .i64 d] 3 (0, 0))
  h2 : w.heap[c2]? = some (.cells #[sl] 82 (0, 0))
def LInv (b : Nat) (d : Int) (c0 c1 c2 N0 N1 n : Nat) (s : List (J n)) (k : Nat) (w : World) : Prop :=
  s.length ≤ k ∧ ∃ (g cap : Nat) (vs : List Value), LBox b d c0 c1 c2 w (.slice (some ⟨g, 0, none⟩) s.length cap) ∧ Row w 52 1 g s.length cap vs ∧ N0 ≤ g ∧ g ≠ c0 ∧ g ≠ c1 ∧ g ≠ c2 ∧
    ∀ (i : Nat) (x : J n) (u : Value), s[i]? = some x → vs[i]? = some u → St (fun c => c < N1 ∨ c = g) w n x u
def LErr (c2 : Nat) (w : World) : Prop := ∃ a m cap, w.heap[c2]? = some (.cells #[.slice a m cap] 82 (0, 0))
theorem LInv.err {b : Nat} {d : Int} {c0 c1 c2 N0 N1 n : Nat} {s : List (J n)} {k : Nat} {w : World} (h : LInv b d c0 c1 c2 N0 N1 n s k w) : LErr c2 w := by
  obtain ⟨_, g, cap, vs, hb, _⟩ := h
  exact ⟨_, _, _, hb.h2⟩
theorem LBox.kept {b : Nat} {d : Int} {c0 c1 c2 : Nat} {w w' : World} {sl : Value} {row : Option Nat} (h : LBox b d c0 c1 c2 w sl) (g : w.grownBy w' row) (e0 : row ≠ some c0) (e1 : row ≠ some c1) (e2 : row ≠ some c2) : LBox b d c0 c1 c2 w' sl :=
  ⟨(g.block c0 (lt_of_block h.h0) (fun e => e0 e.symm)).trans h.h0, (g.block c1 (lt_of_block h.h1) (fun e => e1 e.symm)).trans h.h1, (g.block c2 (lt_of_block h.h2) (fun e => e2 e.symm)).trans h.h2⟩
theorem LInv.kept {b : Nat} {d : Int} {c0 c1 c2 N0 N1 n : Nat} {s : List (J n)} {k : Nat} {w w' : World} (h : LInv b d c0 c1 c2 N0 N1 n s k w) (g : G b w w') (hb : b < N0) (h0 : N0 ≤ c0) (h1 : N0 ≤ c1) (h2 : N0 ≤ c2) (hN : N0 ≤ N1)   : LInv b d c0 c1 c2 N0 N1 n s k w' := by
  obtain ⟨hk, gg, cap, vs, hx, hr, hg, e0, e1, e2, hel⟩ := h
  refine ⟨hk, gg, cap, vs, hx.kept g (fun e => by cases e; omega) (fun e => by cases e; omega) (fun e => by cases e; omega), hr.kept g (fun e => by cases e; omega), hg, e0, e1, e2, fun i x u hx hu => ?_⟩
  exact (hel i x u hx hu).grown g (fun k e => by cases e; exact Or.inl (by omega))
theorem Row.of_slice {w : World} {base e size g n cap : Nat} {xs : List Value} (h : w.ownsRow base e size (.slice (some ⟨g, 0, none⟩) n cap) n xs) : Row w e size g n cap xs := by
  obtain ⟨h1, h2⟩ := h
  rcases h2 with ⟨h0, _⟩ | ⟨g', cap', cur, hv, hb, hh, r⟩
  · cases h0
  · cases hv
    exact ⟨h1, cur, hh, r⟩
theorem heap_setCell_size (w : World) (a : Addr) (v : Value) : (w.setCell a v).heap.size = w.heap.size := by simp [World.setCell]
theorem grownBy_setCell (w : World) (c o : Nat) (v : Value) : w.grownBy (w.setCell ⟨c, o, none⟩ v) (some c) :=
  ⟨rfl, rfl, rfl, by rw [heap_setCell_size]; exact Nat.le_refl _, fun k _ hb => heap_setCell_other _ _ _ _ (fun e => hb (by rw [e]))⟩
theorem G.setNew {b c o : Nat} {w0 w : World} (h : G b w0 w) (hc : w0.heap.size ≤ c) (v : Value) : G b w0 (w.setCell ⟨c, o, none⟩ v) :=
  h.grown (grownBy_setCell w c o v) (fun k e => by cases e; exact hc)
theorem snoc_get {α : Type} {s : List α} {x y : α} {i : Nat} (h : (s ++ [x])[i]? = some y) : (i < s.length ∧ s[i]? = some y) ∨ (i = s.length ∧ x = y) := by
  rcases Nat.lt_trichotomy i s.length with h' | h' | h'
  · rw [List.getElem?_append_left h'] at h
    exact Or.inl ⟨h', h⟩
  · subst h'
    rw [List.getElem?_append_right (Nat.le_refl _)] at h
    simp at h
    exact Or.inr ⟨rfl, h⟩
  · rw [List.getElem?_append_right (by omega)] at h
    rw [List.getElem?_eq_none (by simp; omega)] at h
    cases h
/-- one value more -/
theorem linv_step {b : Nat} {d : Int} {c0 c1 c2 N0 N1 n g cap g' cap' k' : Nat} {s : List (J n)} {j : J n} {v : Value} {vs : List Value} {w w1 w2 : World} {o : Obj} {row : Option Nat}
    (hx : LBox b d c0 c1 c2 w (.slice (some ⟨g, 0, none⟩) s.length cap)) (hr : Row w 52 1 g s.length cap vs) (hg : N0 ≤ g) (e0 : g ≠ c0) (e1 : g ≠ c1) (e2 : g ≠ c2)
    (hel : ∀ (i : Nat) (x : J n) (u : Value), s[i]? = some x → vs[i]? = some u → St (fun c => c < N1 ∨ c = g) w n x u)
    (hb : b < N0) (k0 : N0 ≤ c0) (k1 : N0 ≤ c1) (k2 : N0 ≤ c2) (l2 : c2 < N1) (l0 : c0 < N1) (l1 : c1 < N1) (n01 : c0 ≠ c2) (n12 : c1 ≠ c2) (hN : N0 ≤ N1) (hNw : N1 ≤ w.heap.size)
    (hG : G b w w1) (hst : St (fun c => c < w.heap.size) w1 n j v) (happ : (w1.alloc o).grownBy w2 row)
    (hrow : Row w2 52 1 g' (s.length + 1) cap' (vs ++ [v])) (hg' : (row = some g ∧ g' = g) ∨ (row = none ∧ w1.heap.size < g')) (hk' : s.length < k') :
    LInv b d c0 c1 c2 N0 N1 n (s ++ [j]) k' (w2.setCell ⟨c2, 0, none⟩ (.slice (some ⟨g', 0, none⟩) (s.length + 1) cap')) := by
  have hgw : g < w.heap.size := hr.lt
  have hsz := hG.size
  have hA : (w1.alloc o).heap.size = w1.heap.size + 1 := by simp
  have hg2 : N0 ≤ g' ∧ g' ≠ c0 ∧ g' ≠ c1 ∧ g' ≠ c2 := by
    rcases hg' with ⟨_, rfl⟩ | ⟨_, h⟩
    · exact ⟨hg, e0, e1, e2⟩
    · have a0 := lt_of_block hx.h0
      have a1 := lt_of_block hx.h1
      have a2 := lt_of_block hx.h2
      omega
  have hx2 : LBox b d c0 c1 c2 w2 (.slice (some ⟨g, 0, none⟩) s.length cap) := by
    have h1 := hx.kept hG (fun e => by cases e; omega) (fun e => by cases e; omega) (fun e => by cases e; omega)
    have h2 := h1.kept (World.grownBy_alloc w1 o none) (fun e => by cases e) (fun e => by cases e) (fun e => by cases e)
    refine h2.kept happ ?_ ?_ ?_
    all_goals (rcases hg' with ⟨rfl, _⟩ | ⟨rfl, _⟩)
    all_goals (intro e; cases e; try contradiction)
  have hrow_av : ∀ k, row = some k → (k < N1 ∨ k = g ∨ k = g') := by
    rcases hg' with ⟨rfl, _⟩ | ⟨rfl, _⟩
    · intro k e; cases e; exact Or.inr (Or.inl rfl)
    · intro k e; cases e
  have hset : ∀ {x : J n} {u : Value}, St (fun c => c < N1 ∨ c = g ∨ c = g') (w1.alloc o) n x u → St (fun c => c < N1 ∨ c = g') (w2.setCell ⟨c2, 0, none⟩ (.slice (some ⟨g', 0, none⟩) (s.length + 1) cap')) n x u := by
    intro x u h
    have h1 := h.grown happ hrow_av
    have h2 := h1.mono (av' := fun c => c < N1 ∨ c = g') (fun c _ e => by rcases e with e | e
                                                                          · exact Or.inl e
                                                                          · exact Or.inr (Or.inr e))
    exact h2.grown (grownBy_setCell w2 c2 0 _) (fun k e => by cases e; exact Or.inl l2)
  refine ⟨by simp; omega, g', cap', vs ++ [v], ?_, ?_, hg2.1, hg2.2.1, hg2.2.2.1, hg2.2.2.2, ?_⟩
  · have hs : (s ++ [j]).length = s.length + 1 := by simp
    rw [hs]
    exact ⟨(heap_setCell_other _ _ _ _ n01).trans hx2.h0, (heap_setCell_other _ _ _ _ n12).trans hx2.h1, one_setCell hx2.h2⟩
  · have hs : (s ++ [j]).length = s.length + 1 := by simp
    rw [hs]
    exact hrow.kept (grownBy_setCell w2 c2 0 _) (fun e => by cases e; exact hg2.2.2.2 rfl)
  · intro i x u hxi hui
    have hvl : vs.length = s.length := by have := hr.1; omega
    rcases snoc_get hxi with ⟨hi, hxi⟩ | ⟨hi, rfl⟩
    · rcases snoc_get hui with ⟨_, hui⟩ | ⟨hi2, _⟩
      · refine hset ?_
        have h1 := (hel i x u hxi hui).grown hG (fun k e => by cases e; exact Or.inl (by omega))
        have h2 := h1.grown (World.grownBy_alloc w1 o none) (fun k e => by cases e)
        exact h2.wide (fun c e => by
          rcases e with e | e | e
          · exact Or.inl (Or.inl e)
          · exact Or.inl (Or.inr e)
          · rcases hg' with ⟨_, h⟩ | ⟨_, h⟩
            · exact Or.inl (Or.inr (by omega))
            · exact Or.inr (by omega))
      · omega
    · rcases snoc_get hui with ⟨hi2, _⟩ | ⟨_, rfl⟩
      · omega
      · refine hset ?_
        have h2 := hst.grown (World.grownBy_alloc w1 o none) (fun k e => by cases e)
        exact h2.wide (fun c e => by
          rcases e with e | e | e
          · exact Or.inl (by omega)
          · exact Or.inl (by omega)
          · rcases hg' with ⟨_, h⟩ | ⟨_, h⟩
            · exact Or.inl (by omega)
            · exact Or.inr (by omega))
end Go.Proofs.YtaogilpkeeigoaaGreatDoor
