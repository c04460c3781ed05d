/- Rows of the reference's values and of texts that a call has gathered: plain facts on worlds. -/
import Derived.Test.YtaogilpkeeigoaaGreatDoorRfBox
import Derived.Deep.AppendLies
namespace Go.Proofs.YtaogilpkeeigoaaGreatDoor
open Go.RowKit
set_option linter.unusedVariables false
set_option linter.unusedSimpArgs false
theorem info_V : (Tryz.prog.info? 25).map (fun i => (i.zero, i.size, i.bytes)) = some (some (.agg #[.int .i64 0, .bool false, .int .i64 0, .string ⟨#[]⟩, .slice none 0 0, .slice none 0 0]), 6, 88) := by kernel_rfl
theorem info_text : (Tryz.prog.info? 9).map (fun i => (i.zero, i.size, i.bytes)) = some (some (.string ⟨#[]⟩), 1, 16) := by kernel_rfl
abbrev Six3 := Hd × Value × Value
def six3 (u : Six3) : List Value := [.int .i64 u.1.k, .bool u.1.b, .int .i64 u.1.i, .string ⟨u.1.s.toArray⟩, u.2.1, u.2.2]
theorem six3_len (u : Six3) : (six3 u).length = 6 := rfl
theorem flat6_len : ∀ us : List Six3, (us.flatMap six3).length = us.length * 6
  | [] => rfl
  | u :: us => by rw [List.flatMap_cons, List.length_append, six3_len, flat6_len us, List.length_cons]; omega
theorem flat6_get : ∀ (us : List Six3) (i k : Nat) (u : Six3), us[i]? = some u → k < 6 → (us.flatMap six3)[i * 6 + k]? = (six3 u)[k]?
  | [], i, k, u, h, _ => by simp at h
  | u' :: us, 0, k, u, h, hk => by
    simp at h
    subst h
    rw [List.flatMap_cons, Nat.zero_mul, Nat.zero_add, List.getElem?_append_left (by rw [six3_len]; exact hk)]
  | u' :: us, i + 1, k, u, h, hk => by
    rw [List.flatMap_cons, List.getElem?_append_right (by rw [six3_len]; omega), six3_len, show (i + 1) * 6 + k - 6 = i * 6 + k by omega]
    exact flat6_get us i k u (by simpa using h) hk
/-- a list of values in a row of one's own, from block N on -/
def OwnV (av : Nat → Prop) (N : Nat) (w : World) (n : Nat) (xs : List (J n)) (v : Value) : Prop :=
  ∃ us : List Six3, us.length = xs.length ∧ w.ownsRow N 25 6 v xs.length (us.flatMap six3) ∧ ∀ (i : Nat) (x : J n) (u : Six3), xs[i]? = some x → us[i]? = some u → u.1 = headJ n x ∧ RSt (fun c => av c ∨ v.ownBlock = some c) w n x (rfV u.1 u.2.1 u.2.2)
/-- a list of texts in a row of one's own -/
def OwnT (N : Nat) (w : World) (L : List Bs) (v : Value) : Prop := w.ownsRow N 9 1 v L.length (L.map fun s => .string ⟨s.toArray⟩)
theorem OwnV.nil (av : Nat → Prop) (N : Nat) (w : World) (n : Nat) : OwnV av N w n [] (.slice none 0 0) := ⟨[], rfl, World.ownsRow_nil _ _ _ _, fun i x u h => by simp at h⟩
theorem OwnT.nil (N : Nat) (w : World) : OwnT N w [] (.slice none 0 0) := World.ownsRow_nil _ _ _ _
theorem ownT_apart {N : Nat} {w : World} {L : List Bs} {v : Value} {av : Nat → Prop} {N' n : Nat} {xs : List (J n)} {v' : Value} (h : OwnT N w L v) (h' : OwnV av N' w n xs v') : v.ownBlock = none ∨ v.ownBlock ≠ v'.ownBlock := by
  obtain ⟨us, _, h', _⟩ := h'
  rcases h.2 with ⟨rfl, _⟩ | ⟨g, cap, cur, rfl, _, hh, _⟩
  · exact Or.inl rfl
  · refine Or.inr ?_
    rcases h'.2 with ⟨rfl, _⟩ | ⟨g', cap', cur', rfl, _, hh', _⟩
    · simp [Value.ownBlock]
    · intro e
      simp [Value.ownBlock] at e
      subst e
      rw [hh] at hh'
      simp at hh'
theorem OwnT.row {N : Nat} {w : World} {L : List Bs} {v : Value} (h : OwnT N w L v) : ∀ k, v.ownBlock = some k → N ≤ k ∧ k < w.heap.size := World.ownsRow.lt h
theorem OwnV.row {av : Nat → Prop} {N n : Nat} {w : World} {xs : List (J n)} {v : Value} (h : OwnV av N w n xs v) : ∀ k, v.ownBlock = some k → N ≤ k ∧ k < w.heap.size := by
  obtain ⟨us, _, h, _⟩ := h
  exact World.ownsRow.lt h
theorem OwnT.kept {N : Nat} {w w' : World} {L : List Bs} {v : Value} {row : Option Nat} (h : OwnT N w L v) (hg : w.grownBy w' row) (hne : v.ownBlock = none ∨ v.ownBlock ≠ row) : OwnT N w' L v := World.ownsRow.kept h hg hne
theorem OwnT.far {N : Nat} {w w' : World} {L : List Bs} {v : Value} {row : Option Nat} (h : OwnT N w L v) (hg : w.grownBy w' row) (hr : ∀ k, row = some k → k < N) : OwnT N w' L v := by
  refine h.kept hg ?_
  cases hv : v.ownBlock with
  | none => exact Or.inl rfl
  | some x => exact Or.inr (fun e => by have := hr x e.symm; have := (h.row x hv).1; omega)
theorem OwnV.kept {av : Nat → Prop} {N n : Nat} {w w' : World} {xs : List (J n)} {v : Value} {row : Option Nat} (h : OwnV av N w n xs v) (hg : w.grownBy w' row) (hne : v.ownBlock = none ∨ v.ownBlock ≠ row) (hr : ∀ k, row = some k → av k) : OwnV av N w' n xs v := by
  obtain ⟨us, hl, ho, he⟩ := h
  refine ⟨us, hl, ho.kept hg hne, fun i x u hx hu => ?_⟩
  obtain ⟨h1, h2⟩ := he i x u hx hu
  exact ⟨h1, h2.grown hg (fun k e => Or.inl (hr k e))⟩
theorem OwnV.far {av : Nat → Prop} {N n : Nat} {w w' : World} {xs : List (J n)} {v : Value} {row : Option Nat} (h : OwnV av N w n xs v) (hg : w.grownBy w' row) (hr : ∀ k, row = some k → k < N ∧ av k) : OwnV av N w' n xs v := by
  refine h.kept hg ?_ (fun k e => (hr k e).2)
  cases hv : v.ownBlock with
  | none => exact Or.inl rfl
  | some x => exact Or.inr (fun e => by have := (hr x e.symm).1; have := (h.row x hv).1; omega)
theorem OwnT.alloc {N : Nat} {w : World} {L : List Bs} {v : Value} (h : OwnT N w L v) (o : Obj) : OwnT N (w.alloc o) L v := World.ownsRow.alloc h o
theorem OwnV.alloc {av : Nat → Prop} {N n : Nat} {w : World} {xs : List (J n)} {v : Value} (h : OwnV av N w n xs v) (o : Obj) : OwnV av N (w.alloc o) n xs v :=
  h.kept (World.grownBy_alloc w o none) (by cases v.ownBlock with
    | none => exact Or.inl rfl
    | some x => exact Or.inr (fun e => by cases e)) (fun k e => by cases e)
theorem OwnV.drew {av : Nat → Prop} {N n : Nat} {w : World} {xs : List (J n)} {v : Value} (h : OwnV av N w n xs v) : OwnV av N w.drew n xs v :=
  h.kept (row := none) ⟨rfl, rfl, rfl, Nat.le_refl _, fun _ _ _ => rfl⟩ (by cases v.ownBlock with
    | none => exact Or.inl rfl
    | some x => exact Or.inr (fun e => by cases e)) (fun k e => by cases e)
/-- one text more -/
theorem OwnT.snoc {N : Nat} {w : World} {L : List Bs} {s : Bs} {v : Value} (h : w.ownsRow N 9 1 v (L.length + 1) ((L.map fun s => .string ⟨s.toArray⟩) ++ [.string ⟨s.toArray⟩])) : OwnT N w (L ++ [s]) v := by
  unfold OwnT
  rw [List.length_append, List.map_append]
  exact h
/-- one value more -/
theorem OwnV.snoc {av : Nat → Prop} {N n g cap : Nat} {wa w1 : World} {xs : List (J n)} {us : List Six3} {v : Value} {j : J n} {nm l : Value} (hl : us.length = xs.length)
    (he : ∀ (i : Nat) (x : J n) (u : Six3), xs[i]? = some x → us[i]? = some u → u.1 = headJ n x ∧ RSt (fun c => av c ∨ v.ownBlock = some c) wa n x (rfV u.1 u.2.1 u.2.2))
    (ho : w1.ownsRow N 25 6 (.slice (some ⟨g, 0, none⟩) (xs.length + 1) cap) (xs.length + 1) (us.flatMap six3 ++ six3 (headJ n j, nm, l)))
    (hg : wa.grownBy w1 v.ownBlock) (hat : v.ownBlock = some g ∨ wa.heap.size ≤ g) (hj : RSt (fun c => av c ∨ v.ownBlock = some c) wa n j (rfV (headJ n j) nm l)) :
    OwnV av N w1 n (xs ++ [j]) (.slice (some ⟨g, 0, none⟩) (xs.length + 1) cap) := by
  have hmove : ∀ {x : J n} {u : Value}, RSt (fun c => av c ∨ v.ownBlock = some c) wa n x u → RSt (fun c => av c ∨ (Value.slice (some ⟨g, 0, none⟩) (xs.length + 1) cap).ownBlock = some c) w1 n x u := by
    intro x u h
    have h1 : RSt (fun c => av c ∨ v.ownBlock = some c ∨ c = g) wa n x u := h.wide (fun c e => by
      rcases e with e | e | e
      · exact Or.inl (Or.inl e)
      · exact Or.inl (Or.inr e)
      · rcases hat with h | h
        · exact Or.inl (Or.inr (by rw [e]; exact h))
        · exact Or.inr (by omega))
    have h2 := h1.grown hg (fun k e => Or.inr (Or.inl e))
    exact h2.wide (fun c e => by
      rcases e with e | e
      · exact Or.inl (Or.inl e)
      · simp [Value.ownBlock] at e
        exact Or.inl (Or.inr (Or.inr e.symm)))
  refine ⟨us ++ [(headJ n j, nm, l)], by simp [hl], ?_, fun i x u hx hu => ?_⟩
  · rw [List.length_append, List.flatMap_append]
    simpa using ho
  · rcases snoc_get hx with ⟨hi, hx⟩ | ⟨hi, rfl⟩
    · rcases snoc_get hu with ⟨_, hu⟩ | ⟨hi2, _⟩
      · obtain ⟨h1, h2⟩ := he i x u hx hu
        exact ⟨h1, hmove h2⟩
      · omega
    · rcases snoc_get hu with ⟨hi2, _⟩ | ⟨_, rfl⟩
      · omega
      · exact ⟨rfl, hmove hj⟩
theorem OwnT.strs {av : Nat → Prop} {N : Nat} {w : World} {L : List Bs} {v : Value} (h : OwnT N w L v) (hav : ∀ c, N ≤ c → ¬ av c) : RStrs av w L v := by
  obtain ⟨_, h2⟩ := h
  rcases h2 with ⟨rfl, h0⟩ | ⟨g, cap, cur, rfl, hb, hh, h1, h3, h4, h5⟩
  · exact Or.inl ⟨List.eq_nil_of_length_eq_zero h0, rfl⟩
  · refine Or.inr ⟨g, cap, rfl, h1, h3, hav g hb, lt_of_block hh, fun i s hs => ?_⟩
    rw [cell_of_row _ _ _ _ _ _ hh]
    have hi : i < L.length := (List.getElem?_eq_some_iff.1 hs).1
    have h6 : (cur.toList.take (L.length * 1))[i]? = (L.map fun s => Value.string ⟨s.toArray⟩)[i]? := by rw [h5]
    rw [List.getElem?_take, if_pos (by omega), Array.getElem?_toList] at h6
    rw [h6, List.getElem?_map, hs]
    rfl
theorem OwnV.valsTo {av av' : Nat → Prop} {N n : Nat} {w : World} {xs : List (J n)} {v : Value} (h : OwnV av' N w n xs v) (hav : ∀ c, N ≤ c → ¬ av c) (hsub : ∀ c, av c → av' c) : RVals av w n xs v := by
  obtain ⟨us, hl, ⟨_, h2⟩, he⟩ := h
  rcases h2 with ⟨rfl, h0⟩ | ⟨g, cap, cur, rfl, hb, hh, h1, h3, h4, h5⟩
  · exact Or.inl ⟨List.eq_nil_of_length_eq_zero h0, rfl⟩
  · refine Or.inr ⟨g, cap, rfl, h1, h3, hav g hb, lt_of_block hh, fun i x hx => ?_⟩
    have hi : i < xs.length := (List.getElem?_eq_some_iff.1 hx).1
    have hu : us[i]? = some (us[i]'(by omega)) := List.getElem?_eq_getElem (by omega)
    generalize us[i]'(by omega) = u at hu
    obtain ⟨e1, e2⟩ := he i x u hx hu
    have hc : ∀ k, k < 6 → w.cell? ⟨g, i * 6 + k, none⟩ = (six3 u)[k]? := fun k hk => by
      rw [cell_of_row _ _ _ _ _ _ hh, ← flat6_get us i k u hu hk, ← h5, List.getElem?_take, if_pos (by omega), Array.getElem?_toList]
    refine ⟨u.2.1, u.2.2, ⟨?_, ?_, ?_, ?_, ?_, ?_⟩, ?_⟩
    · have := hc 0 (by omega); rw [Nat.add_zero] at this; rw [this, ← e1]; rfl
    · rw [hc 1 (by omega), ← e1]; rfl
    · rw [hc 2 (by omega), ← e1]; rfl
    · rw [hc 3 (by omega), ← e1]; rfl
    · rw [hc 4 (by omega)]; rfl
    · rw [hc 5 (by omega)]; rfl
    · rw [← e1]
      exact e2.wide (fun c h => Or.inl (Or.inl (hsub c h)))
theorem OwnV.vals {av : Nat → Prop} {N n : Nat} {w : World} {xs : List (J n)} {v : Value} (h : OwnV av N w n xs v) (hav : ∀ c, N ≤ c → ¬ av c) : RVals av w n xs v := h.valsTo hav (fun _ h => h)
theorem Box.setL {w : World} {g : Nat} {h : Hd} {nm l : Value} (hb : Box w g h nm l) (l' : Value) : Box (w.setCell ⟨g, 5, none⟩ l') g h nm l' := heap_setCell_same w g 5 _ _ l' hb
theorem Box.setN {w : World} {g : Nat} {h : Hd} {nm l : Value} (hb : Box w g h nm l) (nm' : Value) : Box (w.setCell ⟨g, 4, none⟩ nm') g h nm' l := heap_setCell_same w g 4 _ _ nm' hb
theorem Box.other {w : World} {g c o : Nat} {h : Hd} {nm l : Value} (hb : Box w g h nm l) (hne : g ≠ c) (v : Value) : Box (w.setCell ⟨c, o, none⟩ v) g h nm l := hb.grown (grownBy_setCell w c o v) (fun e => hne (Option.some.inj e))
theorem Box.alloc {w : World} {g : Nat} {h : Hd} {nm l : Value} (hb : Box w g h nm l) (o : Obj) : Box (w.alloc o) g h nm l := hb.grown (World.grownBy_alloc w o none) (fun e => by cases e)
theorem RSt.alloc {av : Nat → Prop} {w : World} {n : Nat} {j : J n} {v : Value} (h : RSt av w n j v) (o : Obj) : RSt av (w.alloc o) n j v := h.grown (World.grownBy_alloc w o none) (fun k e => by cases e)
theorem six_new (w : World) (h : Hd) (nm l : Value) : ∀ j u, (six3 (h, nm, l))[j]? = some u → (w.alloc (.cells #[.int .i64 h.k, .bool h.b, .int .i64 h.i, .string ⟨h.s.toArray⟩, nm, l] 25)).cell? ((⟨w.heap.size, 0, none⟩ : Addr).add j) = some u :=
  World.news_of_block (cs := #[.int .i64 h.k, .bool h.b, .int .i64 h.i, .string ⟨h.s.toArray⟩, nm, l]) (t := 25) (fr := (0, 0)) (heap_alloc_new w _)
theorem six_one (w : World) (h : Hd) (p q : Option Addr) (a b c d : Nat) : ∀ u ∈ six3 (h, .slice p a b, .slice q c d), u.oneCell' = true := by
  intro u hu
  simp [six3] at hu
  rcases hu with rfl | rfl | rfl | rfl | rfl | rfl <;> rfl
theorem text_one (s : ByteArray) : ∀ u ∈ [Value.string s], u.oneCell' = true := by
  intro u hu
  simp at hu
  subst hu
  rfl
end Go.Proofs.YtaogilpkeeigoaaGreatDoor
