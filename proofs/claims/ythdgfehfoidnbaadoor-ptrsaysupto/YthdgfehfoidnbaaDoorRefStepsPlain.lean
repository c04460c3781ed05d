/- Plain facts: a pointer's steps, gathered sign by sign; a list of texts that a call has gathered in memory of its own. -/
import Derived.Test.YthdgfehfoidnbaaDoorPtrTop
import Derived.Test.YthdgfehfoidnbaaDoorOwnPlain
namespace Go.Proofs.YthdgfehfoidnbaaDoor
open Go.RowKit
set_option linter.unusedVariables false
set_option linter.unusedSimpArgs false
/-- one sign more in the last text -/
def addLast (l : List Bs) (c : UInt8) : List Bs := l.dropLast ++ [(l.getLast?.getD []) ++ [c]]
theorem addLast_snoc (l : List Bs) (x : Bs) (c : UInt8) : addLast (l ++ [x]) c = l ++ [x ++ [c]] := by simp [addLast]
def fin : List Bs → Bs → Option (List Bs)
  | acc, [] => some acc
  | acc, c :: r => if c = 47 then fin (acc ++ [[]]) r else if c = 126 then (match r with
    | [] => none
    | d :: r' => if d = 48 then fin (addLast acc 126) r' else if d = 49 then fin (addLast acc 47) r' else none)
    else fin (addLast acc c) r
theorem fin_nil (acc : List Bs) : fin acc [] = some acc := by simp [fin]
theorem fin_slash (acc : List Bs) (r : Bs) : fin acc (47 :: r) = fin (acc ++ [[]]) r := by cases r <;> simp [fin]
theorem fin_other (acc : List Bs) (c : UInt8) (r : Bs) (h : c ≠ 47) (h2 : c ≠ 126) : fin acc (c :: r) = fin (addLast acc c) r := by cases r <;> simp [fin, h, h2]
theorem fin_zero (acc : List Bs) (r : Bs) : fin acc (126 :: 48 :: r) = fin (addLast acc 126) r := by simp [fin]
theorem fin_one (acc : List Bs) (r : Bs) : fin acc (126 :: 49 :: r) = fin (addLast acc 47) r := by simp [fin]
theorem fin_bad (acc : List Bs) (r : Bs) (h : ∀ d r', r = d :: r' → d ≠ 48 ∧ d ≠ 49) : fin acc (126 :: r) = none := by
  cases r with
  | nil => simp [fin]
  | cons d r =>
    have := h d r rfl
    simp [fin, this.1, this.2]
def pre (x : Bs) : List Bs → List Bs
  | [] => [x]
  | h :: t => (x ++ h) :: t
theorem parts_cons (c : UInt8) (r : Bs) (h : c ≠ 47) : parts 47 (c :: r) = pre [c] (parts 47 r) := by
  rw [parts, if_neg h]
  cases parts 47 r <;> rfl
theorem fin_parts : ∀ (k : Nat) (s : Bs) (acc : List Bs) (x : Bs), s.length ≤ k → fin (acc ++ [x]) s = if noStray s then some (acc ++ pre x ((parts 47 s).map meantB)) else none
  | _, [], acc, x, _ => by
    rw [fin_nil]
    simp [noStray, parts, meantB, pre]
  | 0, c :: r, _, _, hk => by simp at hk
  | k + 1, c :: r, acc, x, hk => by
    have hn := parts_ne 47 r
    by_cases h47 : c = 47
    · subst h47
      rw [fin_slash, fin_parts k r (acc ++ [x]) [] (by simp at hk; omega), noStray_other 47 r (by decide), parts, if_pos rfl]
      cases hp : parts 47 r with
      | nil => exact absurd hp hn
      | cons y ys => simp [pre, meantB]
    · by_cases hc : c = 126
      · subst hc
        cases r with
        | nil =>
          rw [fin_bad _ _ (fun d r' h => by cases h)]
          simp [noStray]
        | cons d r =>
          have hn2 := parts_ne 47 r
          rw [noStray_tilde]
          by_cases hd0 : d = 48
          · subst hd0
            rw [fin_zero, addLast_snoc, fin_parts k r acc _ (by simp at hk; omega)]
            rw [parts_cons 126 _ (by decide), parts_cons 48 r (by decide)]
            cases hp : parts 47 r with
            | nil => exact absurd hp hn2
            | cons y ys => simp [pre, meantB_tilde]
          · by_cases hd1 : d = 49
            · subst hd1
              rw [fin_one, addLast_snoc, fin_parts k r acc _ (by simp at hk; omega)]
              rw [parts_cons 126 _ (by decide), parts_cons 49 r (by decide)]
              cases hp : parts 47 r with
              | nil => exact absurd hp hn2
              | cons y ys => simp [pre, meantB_tilde]
            · rw [fin_bad _ _ (fun d' r' h => by cases h; exact ⟨hd0, hd1⟩)]
              simp [hd0, hd1]
      · rw [fin_other _ c r h47 hc, addLast_snoc, fin_parts k r acc _ (by simp at hk; omega), noStray_other c r hc, parts, if_neg h47]
        cases hp : parts 47 r with
        | nil => exact absurd hp hn
        | cons y ys => simp [pre, meantB_other c y hc]
theorem fin_steps (q : Bs) : fin [] (47 :: q) = if noStray (47 :: q) then some ((parts 47 q).map meantB) else none := by
  have hn := parts_ne 47 q
  rw [fin_slash, show ([] : List Bs) ++ [[]] = [] ++ [[]] from rfl, fin_parts _ q [] [] (Nat.le_refl _), noStray_other 47 q (by decide)]
  cases hp : parts 47 q with
  | nil => exact absurd hp hn
  | cons y ys => simp [pre]
/-- the slice v owns these texts, in blocks from B on -/
def OwnS (B : Nat) (w : World) (v : Value) (l : List Bs) : Prop := w.ownsRow B 9 1 v l.length (l.map strV)
theorem OwnS.nil (B : Nat) (w : World) : OwnS B w (.slice none 0 0) [] := World.ownsRow_nil _ _ _ _
theorem OwnS.below {B : Nat} {w w' : World} {v : Value} {l : List Bs} (h : OwnS B w v l) (g : Below w.heap.size w w') : OwnS B w' v l := by
  refine World.ownsRow.kept (row := none) h ⟨g.os, g.tape, g.output, g.size, fun k hk _ => g.block k hk⟩ ?_
  cases v.ownBlock with
  | none => exact Or.inl rfl
  | some x => exact Or.inr (fun e => by cases e)
theorem OwnS.open {B : Nat} {w : World} {v : Value} {l : List Bs} {x : Bs} (h : OwnS B w v (l ++ [x])) : ∃ (g cap : Nat) (cur : Array Value), v = .slice (some ⟨g, 0, none⟩) (l.length + 1) cap ∧ B ≤ g ∧ w.heap[g]? = some (.cells cur 9 (0, 0)) ∧ l.length + 1 ≤ cap ∧ cap ≤ maxLen ∧ cur.size = cap ∧ cur.toList.take (l.length + 1) = (l ++ [x]).map strV := by
  obtain ⟨_, h2⟩ := h
  rcases h2 with ⟨_, h0⟩ | ⟨g, cap, cur, rfl, hb, hh, h1, h3, h4, h5⟩
  · simp at h0
  · refine ⟨g, cap, cur, by simp, hb, hh, by simpa using h1, h3, by simpa using h4, by simpa using h5⟩
theorem OwnS.shut {B : Nat} {w : World} {l : List Bs} {g cap : Nat} {cur : Array Value} (hb : B ≤ g) (hh : w.heap[g]? = some (.cells cur 9 (0, 0))) (h1 : l.length ≤ cap) (h2 : cap ≤ maxLen) (h3 : cur.size = cap) (h4 : cur.toList.take l.length = l.map strV) :
    OwnS B w (.slice (some ⟨g, 0, none⟩) l.length cap) l :=
  ⟨by simp, Or.inr ⟨g, cap, cur, rfl, hb, hh, h1, h2, by rw [h3, Nat.mul_one], by rw [Nat.mul_one]; exact h4⟩⟩
theorem OwnS.last {w : World} {l : List Bs} {x : Bs} {g : Nat} {cur : Array Value} (hh : w.heap[g]? = some (.cells cur 9 (0, 0))) (h4 : cur.toList.take (l.length + 1) = (l ++ [x]).map strV) : w.cell? ⟨g, l.length, none⟩ = some (strV x) := by
  rw [cell_of_row _ _ _ _ _ _ hh]
  have h5 : (cur.toList.take (l.length + 1))[l.length]? = ((l ++ [x]).map strV)[l.length]? := by rw [h4]
  rw [List.getElem?_take, if_pos (by omega), Array.getElem?_toList] at h5
  rw [h5]
  simp
theorem OwnS.put {B : Nat} {w : World} {l : List Bs} {x y : Bs} {g cap : Nat} {cur : Array Value} (hb : B ≤ g) (hh : w.heap[g]? = some (.cells cur 9 (0, 0))) (h1 : l.length + 1 ≤ cap) (h2 : cap ≤ maxLen) (h3 : cur.size = cap) (h4 : cur.toList.take (l.length + 1) = (l ++ [x]).map strV) :
    OwnS B (w.setCell ⟨g, l.length, none⟩ (strV y)) (.slice (some ⟨g, 0, none⟩) (l.length + 1) cap) (l ++ [y]) := by
  have h9 := heap_setCell_same w g l.length _ _ (strV y) hh
  have e : (l ++ [y]).length = l.length + 1 := by simp
  have hq := OwnS.shut (l := l ++ [y]) hb h9 (by omega) h2 (by simpa using h3) (by
    rw [e, Array.toList_setIfInBounds, List.take_set, h4, List.map_append, List.map_append, List.set_append_right _ _ (by simp)]
    simp)
  rw [e] at hq
  exact hq
theorem OwnS.strs {B : Nat} {w : World} {v : Value} {l : List Bs} (h : OwnS B w v l) : Strs w v l := by
  obtain ⟨_, h2⟩ := h
  rcases h2 with ⟨rfl, h0⟩ | ⟨g, cap, cur, rfl, hb, hh, h1, h3, h4, h5⟩
  · exact Or.inl ⟨List.eq_nil_of_length_eq_zero h0, _, _, rfl⟩
  · refine Or.inr ⟨g, 0, cap, rfl, h1, h3, lt_of_block hh, fun i s hs => ?_⟩
    rw [Nat.zero_add, cell_of_row _ _ _ _ _ _ hh]
    have hi : i < l.length := (List.getElem?_eq_some_iff.1 hs).1
    have h6 : (cur.toList.take (l.length * 1))[i]? = (l.map strV)[i]? := by rw [h5]
    rw [List.getElem?_take, if_pos (by omega), Array.getElem?_toList] at h6
    rw [h6, List.getElem?_map, hs]
    rfl
theorem OwnS.shape {B : Nat} {w : World} {v : Value} {l : List Bs} (h : OwnS B w v l) : ∃ q cap, v = .slice q l.length cap := by
  obtain ⟨_, h2⟩ := h
  rcases h2 with ⟨rfl, h0⟩ | ⟨g, cap, cur, rfl, _⟩
  · exact ⟨none, 0, by rw [h0]⟩
  · exact ⟨_, _, rfl⟩
theorem info_str : (Tryd.prog.info? 9).map (fun i => (i.zero, i.size, i.bytes)) = some (some (.string ⟨#[]⟩), 1, 16) := by kernel_rfl
end Go.Proofs.YthdgfehfoidnbaaDoor
