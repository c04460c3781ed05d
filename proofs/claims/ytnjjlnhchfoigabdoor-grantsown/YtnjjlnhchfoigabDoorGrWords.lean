/- Contracts over this translation: grants.sign, grants.wordsOf. -/
import Derived.Test.YtnjjlnhchfoigabDoorGrDel
namespace Go.Proofs.YtnjjlnhchfoigabDoor
open Go.RowKit Go.Maps
set_option linter.unusedVariables false
set_option linter.unusedSimpArgs false
set_option maxHeartbeats 1000000 in
theorem sign_two (w : World) : Calls Tryd.prog 32 #[.int .i64 2] w fun e w' => e = .returned (.string (Ba [])) ∧ w' = w := by
  go_enter Tryd.func32, Tryd.ntmps32
  go_wp2_with fail
  go_ret
  exact ⟨rfl, rfl⟩
set_option maxHeartbeats 1000000 in
theorem sign_low (n : Int) (hn : n ≠ 2) (w : World) : Calls Tryd.prog 32 #[.int .i64 n] w fun e w' => e = .returned (.string (Ba [42])) ∧ w' = w := by
  have hb : (n == 2) = false := by simp [hn]
  go_enter Tryd.func32, Tryd.ntmps32
  go_wp2_with fail
  go_ret
  exact ⟨rfl, rfl⟩
theorem sign_any (side : Nat) (w : World) : Calls Tryd.prog 32 #[.int .i64 side] w fun e w' => e = .returned (.string (Ba (signP side))) ∧ w' = w := by
  by_cases h : side = 2
  · subst h
    exact sign_two w
  · unfold signP
    rw [if_neg h]
    exact sign_low _ (by omega) w
def dropD (l : List Bs) (p : Bs → Bool) (j : Nat) : Bool := match l[j]? with
  | some s => p s
  | none => false
theorem dropD_at {l : List Bs} {p : Bs → Bool} {j : Nat} (hj : j < l.length) : dropD l p j = p l[j] := by
  unfold dropD
  rw [List.getElem?_eq_getElem hj]
theorem kept_take (l : List Bs) (p : Bs → Bool) : ∀ k, k ≤ l.length → keptK l (dropD l p) k = (l.take k).filter fun s => !p s
  | 0, _ => by simp [keptK]
  | k + 1, hk => by
    rw [keptK_succ _ _ (by omega), kept_take l p k (by omega), List.take_succ_eq_append_getElem (by omega), List.filter_append, dropD_at (by omega)]
    congr 1
    cases h : p l[k] <;> simp [h]
theorem kept_filter (l : List Bs) (p : Bs → Bool) : keptK l (dropD l p) l.length = l.filter fun s => !p s := by
  rw [kept_take l p _ (Nat.le_refl _), List.take_of_length_le (Nat.le_refl _)]
set_option maxHeartbeats 1000000 in
theorem bare_any (s : Bs) (w : World) : Calls Tryd.prog 62 #[.string (Ba s)] w fun e w' => e = .returned (.bool (emptyB s)) ∧ w' = w := by
  have hb : ((Ba s).toList == []) = emptyB s := ba_is s []
  generalize emptyB s = b at *
  generalize Ba s = y at *
  go_enter Tryd.func62, Tryd.ntmps62
  go_wp2_with fail
  go_ret
  exact ⟨rfl, rfl⟩
/-- what wordsOf promises -/
abbrev WordsQ (w : World) (l : List Bs) (e : Ending) (w' : World) : Prop := ∃ u, e = .returned u ∧ OwnN w.heap.size w' u l ∧ u ≠ .slice none 0 0 ∧ Below w.heap.size w w'
set_option maxHeartbeats 2000000 in
theorem words_zero (a b c : Value) (r : Rl) (w : World) (ha : Strs w a r.1) (hf : FitR r) (hl : r.1.length ≤ 1048576) (hb : ∃ p n k, b = .slice p n k) (hc : ∃ p n k, c = .slice p n k) : Calls Tryd.prog 48 #[.agg #[a, b, c], .int .i64 0] w (WordsQ w (wordsP r 0)) := by
  obtain ⟨p1, n1, k1, rfl⟩ := hb
  obtain ⟨p2, n2, k2, rfl⟩ := hc
  obtain ⟨p, cc, rfl, hn⟩ := ha.form
  have HO : Hid (Calls Tryd.prog 61 #[.slice p r.1.length cc] (w.alloc (.cells #[.slice p r.1.length cc, .slice p1 n1 k1, .slice p2 n2 k2] 40)) (WordsQ (w.alloc (.cells #[.slice p r.1.length cc, .slice p1 n1 k1, .slice p2 n2 k2] 40)) (onceP r.1))) := once_any _ _ _ (ha.below ((Below.refl _ _).alloc (Nat.le_refl _) _)) hl hf.1
  have HW : Hid (wordsP r 0 = onceP r.1) := rfl
  clear ha hf hl
  generalize r.1.length = ln at *
  generalize onceP r.1 = T at *
  generalize wordsP r 0 = T1 at *
  go_enter Tryd.func48, Tryd.ntmps48
  go_wp2_with fail
  refine Calls.mono HO.out ?_
  rintro e w1 ⟨u, rfl, h1, h2, h3⟩
  go_wp2_with fail
  go_ret
  exact ⟨u, rfl, by rw [HW.out]; exact h1.low (by simp), h2, (((Below.refl _ _).alloc (Nat.le_refl _) _).trans (h3.mono (by simp)))⟩
set_option maxHeartbeats 2000000 in
theorem words_one (a b c : Value) (r : Rl) (w : World) (ha : Strs w b r.2.1) (hf : FitR r) (hl : r.2.1.length ≤ 1048576) (hb : ∃ p n k, a = .slice p n k) (hc : ∃ p n k, c = .slice p n k) : Calls Tryd.prog 48 #[.agg #[a, b, c], .int .i64 1] w (WordsQ w (wordsP r 1)) := by
  obtain ⟨p1, n1, k1, rfl⟩ := hb
  obtain ⟨p2, n2, k2, rfl⟩ := hc
  obtain ⟨p, cc, rfl, hn⟩ := ha.form
  have HO : Hid (Calls Tryd.prog 61 #[.slice p r.2.1.length cc] (w.alloc (.cells #[.slice p1 n1 k1, .slice p r.2.1.length cc, .slice p2 n2 k2] 40)) (WordsQ (w.alloc (.cells #[.slice p1 n1 k1, .slice p r.2.1.length cc, .slice p2 n2 k2] 40)) (onceP r.2.1))) := once_any _ _ _ (ha.below ((Below.refl _ _).alloc (Nat.le_refl _) _)) hl hf.2.1
  have HW : Hid (wordsP r 1 = onceP r.2.1) := rfl
  clear ha hf hl
  generalize r.2.1.length = ln at *
  generalize onceP r.2.1 = T at *
  generalize wordsP r 1 = T1 at *
  go_enter Tryd.func48, Tryd.ntmps48
  go_wp2_with fail
  refine Calls.mono HO.out ?_
  rintro e w1 ⟨u, rfl, h1, h2, h3⟩
  go_wp2_with fail
  go_ret
  exact ⟨u, rfl, by rw [HW.out]; exact h1.low (by simp), h2, (((Below.refl _ _).alloc (Nat.le_refl _) _).trans (h3.mono (by simp)))⟩
theorem row_one {w : World} {n B : Nat} (hn : w.heap.size = n) (hB : B ≤ n) (s : Bs) : OwnN B (w.alloc (.cells #[.string (Ba s)] 9)) (.slice (some ⟨n, 0, none⟩) 1 1) [s] := by
  subst hn
  exact ⟨by simp, Or.inr ⟨w.heap.size, 1, #[.string (Ba s)], rfl, hB, (MapKept.heap_alloc w _).1, Nat.le_refl _, by unfold maxLen; omega, rfl, rfl⟩⟩
set_option maxHeartbeats 2000000 in
theorem words_two (a b c : Value) (r : Rl) (w : World) (ha : Strs w c r.2.2) (hf : FitR r) (hl : r.2.2.length ≤ 1048576) (hb : ∃ p n k, a = .slice p n k) (hc : ∃ p n k, b = .slice p n k) : Calls Tryd.prog 48 #[.agg #[a, b, c], .int .i64 2] w (WordsQ w (wordsP r 2)) := by
  obtain ⟨p1, n1, k1, rfl⟩ := hb
  obtain ⟨p2, n2, k2, rfl⟩ := hc
  obtain ⟨p, cc, rfl, hn⟩ := ha.form
  have HO : Hid (Calls Tryd.prog 61 #[.slice p r.2.2.length cc] (w.alloc (.cells #[.slice p1 n1 k1, .slice p2 n2 k2, .slice p r.2.2.length cc] 40)) (WordsQ (w.alloc (.cells #[.slice p1 n1 k1, .slice p2 n2 k2, .slice p r.2.2.length cc] 40)) (onceP r.2.2))) := once_any _ _ _ (ha.below ((Below.refl _ _).alloc (Nat.le_refl _) _)) hl hf.2.2
  have HLo : Hid ((onceP r.2.2).length ≤ 1048576) := Nat.le_trans (once_len _) hl
  by_cases h0 : r.2.2.length = 0
  · have HW : Hid (wordsP r 2 = [[]]) := by show _ = _; unfold wordsP; rw [if_neg (by decide), if_neg (by decide), if_pos h0]
    have hS : ∀ w, Calls Tryd.prog 32 #[.int .i64 2] w fun e w' => e = .returned (.string (Ba [])) ∧ w' = w := sign_two
    have HS : Hid (∀ w, Calls Tryd.prog 32 #[.int .i64 2] w fun e w' => e = .returned (.string (Ba [])) ∧ w' = w) := hS
    clear ha hf hl HO HLo hS
    have hz : (r.2.2.length : Int) = 0 := by omega
    have hz2 : ((r.2.2.length : Int) == 0) = true := by simp [h0]
    generalize r.2.2.length = ln at *
    generalize wordsP r 2 = T1 at *
    clear h0 hz
    go_enter Tryd.func48, Tryd.ntmps48
    go_wp2_with fail
    refine Calls.mono (HS.out _) ?_
    rintro e w1 ⟨rfl, rfl⟩
    go_wp2_with fail
    go_ret
    refine ⟨_, rfl, ?_, ?_, ?_⟩
    · rw [HW.out]
      exact row_one (by simp) (by simp) []
    · simp
    · exact ((Below.refl _ _).alloc (Nat.le_refl _) _).alloc (by simp) _
  · have HW : Hid (wordsP r 2 = (onceP r.2.2).filter fun s => !emptyB s) := by show _ = _; unfold wordsP; rw [if_neg (by decide), if_neg (by decide), if_neg h0]
    have hz2 : ((r.2.2.length : Int) == 0) = false := by rw [beq_eq_false_iff_ne]; omega
    have HK : Hid (keptK (onceP r.2.2) (dropD (onceP r.2.2) emptyB) (onceP r.2.2).length = (onceP r.2.2).filter fun s => !emptyB s) := kept_filter _ _
    clear ha hf hl h0
    generalize r.2.2.length = ln at *
    generalize onceP r.2.2 = T at *
    generalize wordsP r 2 = T1 at *
    go_enter Tryd.func48, Tryd.ntmps48
    go_wp2_with fail
    refine Calls.mono HO.out ?_
    rintro e w1 ⟨u, rfl, h1, h2, h3⟩
    obtain ⟨g, cap, rfl, hB, hR⟩ := h1.row h2
    have hcap : cap ≤ maxLen := by obtain ⟨_, _, h, _⟩ := hR; exact h
    have HD : Hid (Calls Tryd.prog 57 #[.slice (some ⟨g, 0, none⟩) T.length cap, .func (.func 62) #[] #[]] w1 fun e w' => e = .returned (.slice (some ⟨g, 0, none⟩) (keptK T (dropD T emptyB) T.length).length cap) ∧ RowT w' g cap (keptK T (dropD T emptyB) T.length) ∧ Below w.heap.size w w') := by
      refine delF_bare g cap T (dropD T emptyB) (fun _ x => Below w.heap.size w x) none (by simp) w1 hR HLo.out hcap (fun j hj w2 hw2 => ?_) (fun j w2 w3 hw2 hg => ?_) ?_
      · refine Calls.mono (bare_any T[j] w2) ?_
        rintro e w3 ⟨rfl, rfl⟩
        exact ⟨by rw [dropD_at hj], hw2, grown_none (Below.refl _ _)⟩
      · exact hw2.grown hg hw2.size (fun k hk => by injection hk with hk; subst hk; exact Nat.le_trans (by simp) hB)
      · exact ((Below.refl _ _).alloc (Nat.le_refl _) _).trans (h3.mono (by simp))
    have HB : Hid (w.heap.size ≤ g) := by show _ ≤ _; exact Nat.le_trans (by simp) hB
    clear h1 h2 h3 hR hB hcap
    generalize T.length = lt at *
    go_wp2_with fail
    refine Calls.mono HD.out ?_
    rintro e w2 ⟨rfl, h1, h2⟩
    go_wp2_with fail
    go_ret
    refine ⟨_, rfl, ?_, by simp, h2⟩
    rw [HW.out, ← HK.out]
    exact h1.own HB.out
theorem wordsOf_any (a b c : Value) (r : Rl) (side : Nat) (w : World) (h0 : Strs w a r.1) (h1 : Strs w b r.2.1) (h2 : Strs w c r.2.2) (hf : FitR r) (l0 : r.1.length ≤ 1048576) (l1 : r.2.1.length ≤ 1048576) (l2 : r.2.2.length ≤ 1048576) (hs : side ≤ 2) :
    Calls Tryd.prog 48 #[.agg #[a, b, c], .int .i64 side] w (WordsQ w (wordsP r side)) := by
  have f0 : ∃ p n k, a = .slice p n k := by obtain ⟨p, k, h, _⟩ := h0.form; exact ⟨p, _, k, h⟩
  have f1 : ∃ p n k, b = .slice p n k := by obtain ⟨p, k, h, _⟩ := h1.form; exact ⟨p, _, k, h⟩
  have f2 : ∃ p n k, c = .slice p n k := by obtain ⟨p, k, h, _⟩ := h2.form; exact ⟨p, _, k, h⟩
  have hc : side = 0 ∨ side = 1 ∨ side = 2 := by omega
  rcases hc with rfl | rfl | rfl
  · exact words_zero a b c r w h0 hf l0 f1 f2
  · exact words_one a b c r w h1 hf l1 f0 f2
  · exact words_two a b c r w h2 hf l2 f0 f1
end Go.Proofs.YtnjjlnhchfoigabDoor
