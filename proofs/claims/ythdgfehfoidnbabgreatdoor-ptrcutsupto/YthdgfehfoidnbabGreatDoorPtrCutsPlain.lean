/- Plain facts for the law PtrCuts: what Cut answers. -/
import Derived.Test.YthdgfehfoidnbabGreatDoorPtrCutPlain
import Derived.Test.YthdgfehfoidnbabGreatDoorKindAny
namespace Go.Proofs.YthdgfehfoidnbabGreatDoor
open Go.RowKit
set_option linter.unusedVariables false
set_option linter.unusedSimpArgs false
theorem stepsE_nz {p : Bs} {e : Nat} (hs : stepsE p = .error e) : e ≠ 0 := by
  unfold stepsE at hs
  split at hs
  · cases hs
  · split at hs
    · cases hs; decide
    · split at hs
      · cases hs; decide
      · cases hs
theorem rd20_nz' {N : Nat} {x : Bs} {e : Nat} (h : rd20 N x = .error e) : e ≠ 0 := by
  unfold rd20 at h
  cases hr : read x with
  | error e' =>
    rw [hr] at h
    cases h
    exact read_err hr
  | ok j => rw [hr] at h; cases h
theorem putAt_nz {n : Nat} {j : J (n + 1)} {s : Bs} {c : J n} {e : Nat} (h : putAt j s c = .error e) : e = 7 := by
  match j, h with
  | Sum.inl _, h => cases h; rfl
  | Sum.inr (Sum.inl xs), h =>
    unfold putAt at h
    simp only [] at h
    split at h
    · cases h; rfl
    · cases h
  | Sum.inr (Sum.inr fs), h => cases h
theorem cutE_nz {n : Nat} {j : J (n + 1)} {s : Bs} {e : Nat} (h : cutE j s = .error e) : e = 7 := by
  match j, h with
  | Sum.inl _, h => cases h; rfl
  | Sum.inr (Sum.inl xs), h =>
    unfold cutE at h
    simp only [] at h
    split at h
    · cases h; rfl
    · split at h
      · cases h
      · cases h; rfl
  | Sum.inr (Sum.inr fs), h =>
    unfold cutE at h
    simp only [] at h
    split at h
    · cases h
    · cases h; rfl
theorem change_nz (s : Bs) : ∀ (M : List Bs) (n : Nat) (D : J n) (e : Nat), changeP n D M (cutEnd s) = .error e → e = 7
  | [], 0, D, e, h => by cases h; rfl
  | [], n + 1, D, e, h => cutE_nz (show cutE D s = .error e from h)
  | t :: M, 0, D, e, h => by cases h; rfl
  | t :: M, n + 1, D, e, h => by
    have h' : (match childP D t with
      | none => .error eNone
      | some c => match changeP n c M (cutEnd s) with
        | .error x => .error x
        | .ok c' => putAt D t c') = (Except.error e : Except Nat (J (n + 1))) := h
    cases hc : childP D t with
    | none => rw [hc] at h'; cases h'; rfl
    | some c =>
      rw [hc] at h'
      simp only [] at h'
      cases hm : changeP n c M (cutEnd s) with
      | error x =>
        rw [hm] at h'
        cases h'
        exact change_nz s M n c _ hm
      | ok c' =>
        rw [hm] at h'
        exact putAt_nz h'
theorem cutR_some {N : Nat} {D : J N} {M : List Bs} {s : Bs} : cutR N D (M ++ [s]) = changeP N D M (cutEnd s) := by
  unfold cutR
  rw [if_neg (by simp), List.dropLast_concat]
  simp
theorem cut_fine {N : Nat} (hN : 20 ≤ N) (hM : N ≤ 100000) {x y : Bs} : ∀ D L R, rd20 N x = .ok D → stepsE y = .ok L → cutR N D L = .ok R → Fine N R := by
  intro D L R h1 h2 h3
  have hD := rd20_told hN h1
  by_cases hL : L = []
  · subst hL; cases h3
  · obtain ⟨M, s, rfl⟩ : ∃ M s, L = M ++ [s] := ⟨L.dropLast, L.getLast hL, (List.dropLast_concat_getLast hL).symm⟩
    rw [cutR_some] at h3
    have h := cut_facts s M N D R hD.good h3
    have a := h.nodes
    have b := h.len
    have c := hD.nodes
    have d := hD.len
    have e := depth_bound N R
    exact ⟨fit_of_good _ _ h.good, by omega, by omega, by omega⟩
theorem cutA_cases (N : Nat) (hN : 20 ≤ N) (doc p : Bs) : (∃ er : Nat, er ≠ 0 ∧ cutA N doc p = #[.string ByteArray.empty, .int .i64 er]) ∨ ∃ D M s R, rd20 N doc = .ok D ∧ stepsE p = .ok (M ++ [s]) ∧ changeP N D M (cutEnd s) = .ok R ∧ Told20 N R ∧ cutA N doc p = #[.string ⟨(tell N R).toArray⟩, .int .i64 0] := by
  unfold cutA
  cases hd : rd20 N doc with
  | error e => exact Or.inl ⟨e, rd20_nz' hd, rfl⟩
  | ok D =>
    simp only []
    cases hs : stepsE p with
    | error e => exact Or.inl ⟨e, stepsE_nz hs, rfl⟩
    | ok L =>
      simp only []
      by_cases hL : L = []
      · subst hL
        exact Or.inl ⟨1, by decide, rfl⟩
      · obtain ⟨M, s, rfl⟩ : ∃ M s, L = M ++ [s] := ⟨L.dropLast, L.getLast hL, (List.dropLast_concat_getLast hL).symm⟩
        rw [cutR_some]
        cases hc : changeP N D M (cutEnd s) with
        | error e => exact Or.inl ⟨e, by rw [change_nz s M N D e hc]; decide, rfl⟩
        | ok R =>
          have hg := (cut_facts s M N D R (rd20_told hN hd).good hc).good
          show (∃ er : Nat, er ≠ 0 ∧ toldE N R = _) ∨ _
          obtain ⟨t, er, hf⟩ := toldE_form N R
          by_cases h0 : er = 0
          · subst h0
            obtain ⟨hT, ht⟩ := told_zero hg hf
            refine Or.inr ⟨D, M, s, R, rfl, rfl, hc, hT, ?_⟩
            show toldE N R = _
            rw [hf, ht]
            rfl
          · refine Or.inl ⟨er, h0, ?_⟩
            rw [hf]
            unfold toldE at hf
            split at hf
            · simp at hf; rw [hf.1]
            · split at hf
              · simp at hf; rw [hf.1]
              · split at hf
                · simp at hf; rw [hf.1]
                · simp at hf; omega
theorem cutA_one {N : Nat} : cutA N [49] [] = #[.string ByteArray.empty, .int .i64 1] := by
  unfold cutA
  rw [rd20_ok read_one, lift_leaf]
  rfl
theorem rd20_nodes {N : Nat} {doc : Bs} {D : J N} (hN : 20 ≤ N) (h : rd20 N doc = .ok D) : ∃ j, read doc = .ok j ∧ tell 10 j = tell N D ∧ nodes 10 j = nodes N D := by
  unfold rd20 at h
  cases hr : read doc with
  | error e => rw [hr] at h; cases h
  | ok j =>
    rw [hr] at h
    have e : lift 10 N j = D := by
      have h' : Except.ok (lift 10 N j) = (Except.ok D : Except Nat (J N)) := h
      exact Except.ok.inj h'
    subst e
    have := lift_said 10 N j (Nat.le_trans (depth_bound 10 j) (by omega))
    exact ⟨j, rfl, this.1.symm, this.2.1.symm⟩
theorem told_read10 {N : Nat} {D : J N} (h : Told20 N D) : ∃ j, read (tell N D) = .ok j ∧ nodes 10 j = nodes N D ∧ kindJ 10 j = kindJ N D := by
  have := lift_said N 10 D h.depth
  exact ⟨lift N 10 D, read_told h.good h.nodes h.depth h.len, this.2.1, this.2.2.2⟩
/-- the text ahead of the last step -/
theorem ahead {p : ByteArray} {M : List Bs} {s : Bs} (h : stepsE p.data.toList = .ok (M ++ [s])) : Lib.lastIndexByte p 47 = ((joinB M).length : Int) ∧ (joinB M).length ≤ p.size ∧ (p.extract 0 (joinB M).length).data.toList = joinB M ∧ stepsE (joinB M) = .ok M := by
  obtain ⟨h1, h2⟩ := join_steps h
  rw [join_app] at h1
  have h3 : p.data.toList = joinB M ++ 47 :: written s := by rw [← h1]; simp [joinB]
  have hz : p.size = p.data.toList.length := by simp
  refine ⟨last_of p _ _ h3 (written_fine s).2.2, ?_, ?_, steps_join M (by simp at h2; omega)⟩
  · rw [hz, h3]; simp
  · rw [Lib.extract_data, h3]
    simp
theorem kind_ok2 {t : ByteArray} {x : Bs} {j : J 10} {k : Nat} {w : World} (hs : t.size ≤ maxLen) (hx : t.data.toList = x) (hr : read x = .ok j) (hk : kindJ 10 j = k) :
    Says w 12 #[.string t] (.tuple #[.int .i64 k, .int .i64 0]) := by
  intro w1 hb
  have h := kind_any t w1 hs
  rw [hx] at h
  refine h.mono ?_
  rintro e w2 ⟨rfl, b2⟩
  refine ⟨?_, b2⟩
  rw [kindE, hr, ← hk]
theorem cut_says (N : Nat) (hN : 20 ≤ N) (hM : N ≤ 100000) {doc p : ByteArray} {x y : Bs} {a : Array Value} {w : World} (hE : Env w) (hd : doc.size ≤ 8000000) (hp : p.size ≤ 8000000) (hx : doc.data.toList = x) (hy : p.data.toList = y) (ha : cutA N x y = a) :
    Says w 10 #[.string doc, .string p] (.tuple a) := by
  intro w1 hb
  subst hx hy ha
  exact cutTop_any N hN doc p w1 hd hp (hE.below hb) (cut_fine hN hM)
end Go.Proofs.YthdgfehfoidnbabGreatDoor
