/- The three words in a box; a row of rules copied; the rules of held that have a word. -/
import Derived.Test.YtnjjlnhchfoigabDoorGrWorth
namespace Go.Proofs.YtnjjlnhchfoigabDoor
open Go.RowKit Go.Maps
set_option linter.unusedVariables false
set_option linter.unusedSimpArgs false
def Bx3 (w : World) (g : Nat) (a b c : Value) (t : TypeId) : Prop := w.heap[g]? = some (.cells #[a, b, c] t (0, 0))
section
variable {w w' : World} {g : Nat} {a b c : Value} {t : TypeId}
theorem Bx3.lt (h : Bx3 w g a b c t) : g < w.heap.size := lt_of_block h
theorem Bx3.free (h : Bx3 w g a b c t) (o : Nat) : w.frozen? ⟨g, o, none⟩ = false := frozen_of_row _ _ _ _ _ h
theorem Bx3.c0 (h : Bx3 w g a b c t) : w.cell? ⟨g, 0, none⟩ = some a := by rw [cell_of_row _ _ _ _ _ _ h]; rfl
theorem Bx3.c1 (h : Bx3 w g a b c t) : w.cell? ⟨g, 1, none⟩ = some b := by rw [cell_of_row _ _ _ _ _ _ h]; rfl
theorem Bx3.c2 (h : Bx3 w g a b c t) : w.cell? ⟨g, 2, none⟩ = some c := by rw [cell_of_row _ _ _ _ _ _ h]; rfl
theorem Bx3.below (h : Bx3 w g a b c t) (e : Below w.heap.size w w') : Bx3 w' g a b c t := (e.block g h.lt).trans h
theorem Bx3.grown {row : Option Nat} (h : Bx3 w g a b c t) (e : w.grownBy w' row) (hne : some g ≠ row) : Bx3 w' g a b c t := (e.block g h.lt hne).trans h
theorem bx3_new (w : World) (a b c : Value) (t : TypeId) : Bx3 (w.alloc (.cells #[a, b, c] t)) w.heap.size a b c t := heap_alloc_new w _
theorem Bx3.row_ne (h : Bx3 w g a b c t) {B : Nat} {e : TypeId} {st : Nat} {v : Value} {n : Nat} {xs : List Value} (h' : w.ownsRow B e st v n xs) (he : e ≠ t) : v.ownBlock ≠ some g := by
  intro hne
  obtain ⟨c2, h2⟩ := row_block h' hne
  rw [h] at h2
  injection h2 with h2
  injection h2 with _ h2
  exact he h2.symm
theorem Bx3.notInts (h : Bx3 w g a b c t) (ht : t ≠ 3) (cur : Array Value) : w.heap[g]? ≠ some (.cells cur 3 (0, 0)) := fun h2 => by
  rw [h] at h2
  injection h2 with h2
  injection h2 with _ h2
  exact ht h2
end
theorem PlIs.kept {w w' : World} {base b n : Nat} {f : Bs → List Nat} {row : Option Nat} (h : PlIs w base b n f) (hg : w.grownBy w' row) (hb : some b ≠ row) (hr : ∀ g, row = some g → ∀ cur, w.heap[g]? ≠ some (.cells cur 3 (0, 0))) : PlIs w' base b n f := by
  obtain ⟨D, h1, h2⟩ := h
  exact ⟨D, h1.kept hg hb hr, h2⟩
def put3 (w : World) (g : Nat) (a b c : Value) : World := ((w.setCell ⟨g, 0, none⟩ a).setCell ⟨g, 1, none⟩ b).setCell ⟨g, 2, none⟩ c
theorem put3_box {w : World} {g : Nat} {x y z : Value} {t : TypeId} (hb : Bx3 w g x y z t) (a b c : Value) : Bx3 (put3 w g a b c) g a b c t := by
  unfold put3
  have e0 := heap_setCell_same w g 0 _ _ a hb
  have e1 := heap_setCell_same _ g 1 _ _ b e0
  exact heap_setCell_same _ g 2 _ _ c e1
theorem put3_grown (w : World) (g : Nat) (a b c : Value) : w.grownBy (put3 w g a b c) (some g) := by
  unfold put3
  exact (grown_set1.trans grown_set1).trans grown_set1
/-- two results, the first of them in a box -/
theorem results_cell_tmp {P : Program} {fn : Func} {p q : Tmp} {ty : TypeId} (h : fn.results = #[.cell p ty, .tmp q]) (tmps : Array Value) (w : World) (g : Nat) (t : TypeId) (cs : Array Value) (fr : Nat × Nat) (d : TypeDesc) (v : Value)
    (hp : tmps.getD p undef = .pointer (some ⟨g, 0, none⟩)) (hq : tmps.getD q undef = v) (hg : w.heap[g]? = some (.cells cs t fr))
    (hu : P.underlying ty = some d) (hd : (match d with | .struct _ | .array _ _ => true | _ => false) = true) (hi : (P.info? ty).map (·.size) = some cs.size) :
    (results fn tmps).run P w = .ok (.tuple #[.agg cs, v]) w := by
  have hp' : tmps[p]?.getD undef = .pointer (some ⟨g, 0, none⟩) := by simpa using hp
  have hq' : tmps[q]?.getD undef = v := by simpa using hq
  simp [results, h, hp', hq', asAddr, run_loadVar_row w g t ty cs fr d hg hu hd hi]
theorem pick_filter (held : List Rl) (side : Nat) (w : Bs) : ∀ k, k ≤ held.length → pickR held (placesK held side k w) = (held.take k).filter fun r => !wholeB side r && decide (w ∈ wordsP r side)
  | 0, _ => by simp [placesK, pickR]
  | k + 1, hk => by
    have hk' : k < held.length := by omega
    have ih := pick_filter held side w k (by omega)
    rw [places_succ, List.take_succ_eq_append_getElem hk', List.filter_append, ← ih]
    unfold pickR
    rw [List.filterMap_append]
    congr 1
    rw [at_here hk']
    cases h : (!wholeB side held[k] && decide (w ∈ wordsP held[k] side)) with
    | true =>
      rw [if_pos rfl, List.filterMap_cons, List.filterMap_nil, List.getElem?_eq_getElem hk', List.filter_cons, List.filter_nil, h]
      rfl
    | false =>
      rw [if_neg (by simp), List.filterMap_nil, List.filter_cons, List.filter_nil, h]
      rfl
theorem filter_two {α : Type} (p q : α → Bool) (h : ∀ x, p x = true → q x = true → False) : ∀ l : List α, (l.filter p).length + (l.filter q).length ≤ l.length
  | [] => by simp
  | x :: r => by
    have ih := filter_two p q h r
    rw [List.filter_cons, List.filter_cons]
    cases hp : p x with
    | true =>
      have hq : q x = false := by
        cases hq : q x with
        | true => exact (h x hp hq).elim
        | false => rfl
      rw [hq, if_pos rfl, if_neg (by simp), List.length_cons, List.length_cons]
      omega
    | false =>
      rw [if_neg (by simp)]
      split
      · rw [List.length_cons, List.length_cons]
        omega
      · rw [List.length_cons]
        omega
theorem having_len (held : List Rl) (side : Nat) (w : Bs) : (havingP held side w).length ≤ held.length := by
  unfold havingP placesP whatP
  rw [List.length_append, pick_filter held side w _ (Nat.le_refl _), List.take_of_length_le (Nat.le_refl _)]
  refine filter_two _ _ (fun x hp hq => ?_) held
  rw [hp] at hq
  simp at hq
theorem pick_succ {held : List Rl} {l : List Nat} {j i : Nat} (hj : l[j]? = some i) (hi : i < held.length) : pickR held (l.take (j + 1)) = pickR held (l.take j) ++ [held[i]] := by
  obtain ⟨h1, h2⟩ := List.getElem?_eq_some_iff.1 hj
  unfold pickR
  rw [List.take_succ_eq_append_getElem h1, List.filterMap_append, h2]
  simp [hi]
theorem own_flat {w : World} {B : Nat} {v : Value} {L : List RV} (h : w.ownsRow B 40 3 v L.length (flatG L)) : (v = .slice none 0 0 ∧ L = []) ∨ ∃ g cap, v = .slice (some ⟨g, 0, none⟩) L.length cap ∧ B ≤ g ∧ ∀ (j : Nat) (u : Value), (flatG L)[j]? = some u → w.cell? ((⟨g, 0, none⟩ : Addr).add j) = some u := by
  rcases owns_at h with ⟨rfl, h0⟩ | ⟨g, cap, rfl, hB, hg, hc, hm, hcell⟩
  · exact Or.inl ⟨rfl, List.eq_nil_of_length_eq_zero h0⟩
  · exact Or.inr ⟨g, cap, rfl, hB, fun j u hj => by rw [plain_add, Nat.zero_add]; exact hcell j u hj⟩
set_option maxRecDepth 100000 in
set_option maxHeartbeats 4000000 in
theorem cloneR_any (B : Nat) (v : Value) (L : List RV) (w : World) (hv : w.ownsRow B 40 3 v L.length (flatG L)) (hs : ∀ u ∈ flatG L, u.oneCell' = true) (hl : L.length ≤ 1048576) :
    Calls Tryd.prog 60 #[v] w fun e w' => ∃ u, e = .returned u ∧ w'.ownsRow w.heap.size 40 3 u L.length (flatG L) ∧ Below w.heap.size w w' := by
  obtain ⟨ir, hir, hr0, hr1, hr2⟩ := info_parts info_rule
  have qT : ∀ (w : World) (a : Option Addr) (n c : Nat), (binOp .eql 29 (.slice a n c) (.slice none 0 0)).run Tryd.prog w = .ok (.bool a.isNone) w := fun w a n c => Lib.run_eql_slice_nil w _ _ _ _ _ _ _ Tryd.underlying29
  rcases own_flat hv with ⟨rfl, hL⟩ | ⟨g, cap, rfl, hB, hcell⟩
  · subst hL
    clear hv hs hl
    go_enter Tryd.func60, Tryd.ntmps60
    go_wp2_with fail
    go_ret
    exact ⟨_, rfl, World.ownsRow_nil _ _ _ _, Below.refl _ _⟩
  · have hnew : (w.alloc (.cells #[] 40)).ownsRow w.heap.size 40 3 (.slice (some ⟨w.heap.size, 0, none⟩) 0 0) 0 [] := ⟨rfl, Or.inr ⟨w.heap.size, 0, #[], rfl, Nat.le_refl _, heap_alloc_new w _, Nat.le_refl _, Nat.zero_le _, rfl, rfl⟩⟩
    have HN : Hid ((w.alloc (.cells #[] 40)).ownsRow w.heap.size 40 3 (.slice (some ⟨w.heap.size, 0, none⟩) 0 0) 0 []) := hnew
    have HC : Hid (∀ (j : Nat) (u : Value), (flatG L)[j]? = some u → (w.alloc (.cells #[] 40)).cell? ((⟨g, 0, none⟩ : Addr).add j) = some u) := fun j u h => cell_stays (hcell j u h) ((Below.refl _ _).alloc (Nat.le_refl _) _)
    have HL : Hid ((flatG L).length = L.length * 3) := flatG_len L
    have HO : Hid (∀ u ∈ flatG L, u.oneCell' = true) := hs
    have HB : Hid (Below w.heap.size w (w.alloc (.cells #[] 40))) := (Below.refl _ _).alloc (Nat.le_refl _) _
    clear hv hcell hnew hs
    generalize flatG L = F at *
    generalize L.length = n at *
    go_enter Tryd.func60, Tryd.ntmps60
    go_wp2_with (at_builtin; refine wpList_append_own _ rfl _ _ 29 rfl w.heap.size 40 ir (.agg #[.slice none 0 0, .slice none 0 0, .slice none 0 0]) 3 72 Tryd.underlying29 hir hr0 hr1 hr2 rfl (by decide) _ _ _ rfl HN.out ⟨g, 0, none⟩ n cap F rfl HL.out HC.out HO.out (by unfold maxLen; omega) (by omega) HB.out.size ?_; intro v' w3 hown' hgrow hnil)
    have HO3 : Hid (w3.ownsRow w.heap.size 40 3 v' n F) := by
      rw [Nat.zero_add, List.nil_append] at hown'
      exact hown'
    have HB3 : Hid (Below w.heap.size w w3) := HB.out.grown hgrow HB.out.size (fun j hj => (World.ownsRow.lt HN.out j hj).1)
    clear hown' hgrow hnil
    go_wp2_with fail
    go_ret
    exact ⟨v', rfl, HO3.out, HB3.out⟩
end Go.Proofs.YtnjjlnhchfoigabDoor
