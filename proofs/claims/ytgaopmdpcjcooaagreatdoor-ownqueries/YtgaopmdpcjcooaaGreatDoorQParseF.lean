/- Plain: parts that were read are not greater than the text. -/
import Derived.Test.YtgaopmdpcjcooaaGreatDoorQParseR
namespace Go.Proofs.YtgaopmdpcjcooaaGreatDoor
open Go.RowKit
set_option linter.unusedVariables false
set_option linter.unusedSimpArgs false
theorem moreV_fit : ∀ (n : Nat) (s : Bs), ∀ v ∈ (moreV n s).1, v.length ≤ s.length
  | 0, s => fun v hv => by simp [moreV] at hv
  | n + 1, s => by
    intro v hv
    rw [moreV] at hv
    cases h : tk [44] s with
    | none => rw [h] at hv; simp at hv
    | some s1 =>
      rw [h] at hv
      have h1 := tk_len h (by decide)
      have h2 := rr_len s1
      have h3 := rn_len s1
      rcases List.mem_cons.1 hv with rfl | hv
      · omega
      · have := moreV_fit n (rr s1) v hv
        omega
theorem valsP_fit {N : Nat} {s t : Bs} {vs : List Bs} (h : valsP N s = some (vs, t)) : ∀ v ∈ vs, v.length ≤ s.length := by
  rw [valsP] at h
  cases h1 : tk [40] s with
  | none => rw [h1] at h; cases h
  | some s1 =>
    rw [h1] at h
    cases h2 : tk [41] (moreV N (rr s1)).2 with
    | none => simp only [h2] at h; cases h
    | some s2 =>
      simp only [h2] at h
      injection h with h
      have e : rn s1 :: (moreV N (rr s1)).1 = vs := by injection h
      have h3 := tk_len h1 (by decide)
      have h4 := rr_len s1
      have h5 := rn_len s1
      intro v hv
      rw [← e] at hv
      rcases List.mem_cons.1 hv with rfl | hv
      · omega
      · have := moreV_fit N (rr s1) v hv
        omega
def FitB (n : Nat) (r : Rq) : Prop := r.1.length ≤ n ∧ ∀ v ∈ r.2.2, v.length ≤ n
theorem wordP_fit {N : Nat} {key s t : Bs} {r : Rq} {n : Nat} (hk : key.length ≤ n) (hs : s.length ≤ n) (h : wordP N key s = some (r, t)) : FitB n r := by
  unfold wordP at h
  have h0 := rr_len s
  by_cases h1 : rn s = []
  · rw [if_pos h1] at h
    injection h with h
    have e : (key, (3 : Int), ([] : List Bs)) = r := by injection h
    rw [← e]
    exact ⟨hk, fun v hv => by simp at hv⟩
  · rw [if_neg h1] at h
    have both : ∀ (kd : Int), (valsP N (rr s)).map (fun p => ((key, kd, p.1), p.2)) = some (r, t) → FitB n r := fun kd h => by
      obtain ⟨⟨vs, t'⟩, hv, e⟩ := Option.map_eq_some_iff.1 h
      have e2 : (key, kd, vs) = r := by injection e
      rw [← e2]
      exact ⟨hk, fun v hv' => by have := valsP_fit hv v hv'; omega⟩
    by_cases h2 : rn s = [105, 110]
    · rw [if_pos h2] at h
      exact both 1 h
    · rw [if_neg h2] at h
      by_cases h3 : rn s = [110, 111, 116, 105, 110]
      · rw [if_pos h3] at h
        exact both 2 h
      · rw [if_neg h3] at h
        cases h
theorem part_fit {N : Nat} {s t : Bs} {r : Rq} {n : Nat} (hs : s.length ≤ n) (h : partP N s = some (r, t)) : FitB n r := by
  unfold partP at h
  have h0 := rr_len s
  have hr := rn_len s
  have one : ∀ (g s2 : Bs) (kd : Int), g ≠ [] → tk g (rr s) = some s2 → some ((rn s, kd, [rn s2]), rr s2) = some (r, t) → FitB n r := fun g s2 kd hg hk h => by
    injection h with h
    have e : (rn s, kd, [rn s2]) = r := by injection h
    rw [← e]
    have h1 := tk_len hk hg
    have h2 := rn_len s2
    refine ⟨by show (rn s).length ≤ n; omega, fun v hv => ?_⟩
    simp only [List.mem_singleton] at hv
    subst hv
    omega
  cases h1 : tk [61, 61] (rr s) with
  | some s2 => simp only [h1] at h; exact one _ _ _ (by decide) h1 h
  | none =>
    cases h2 : tk [61] (rr s) with
    | some s2 => simp only [h1, h2] at h; exact one _ _ _ (by decide) h2 h
    | none =>
      cases h3 : tk [33, 61] (rr s) with
      | some s2 => simp only [h1, h2, h3] at h; exact one _ _ _ (by decide) h3 h
      | none =>
        simp only [h1, h2, h3] at h
        unfold notP at h
        by_cases hk : rn s = []
        · rw [if_pos hk] at h
          cases h4 : tk [33] (rr s) with
          | some s2 =>
            simp only [h4] at h
            injection h with h
            have e : (rn s2, (4 : Int), ([] : List Bs)) = r := by injection h
            have h5 := tk_len h4 (by decide)
            have h6 := rn_len s2
            rw [← e]
            exact ⟨by show (rn s2).length ≤ n; omega, fun v hv => by simp at hv⟩
          | none =>
            simp only [h4] at h
            exact wordP_fit (by omega) (by omega) h
        · rw [if_neg hk] at h
          exact wordP_fit (by omega) (by omega) h
theorem more_fit {N m : Nat} : ∀ (n : Nat) (s : Bs) (l : List Rq), s.length ≤ m → moreP N n s = some l → ∀ r ∈ l, FitB m r
  | 0, s, l, _, h => by cases h
  | n + 1, s, l, hs, h => by
    intro r hr
    rw [moreP] at h
    cases hp : partP N s with
    | none => rw [hp] at h; cases h
    | some p =>
      obtain ⟨q, s1⟩ := p
      rw [hp] at h
      have hq := part_fit hs hp
      have hl := part_len hp
      by_cases h1 : s1 = []
      · simp only [h1, if_true] at h
        injection h with h
        rw [← h, List.mem_singleton] at hr
        rw [hr]
        exact hq
      · simp only [h1, if_false] at h
        cases h2 : tk [44] s1 with
        | none => rw [h2] at h; cases h
        | some s2 =>
          rw [h2] at h
          have h3 := tk_len h2 (by decide)
          obtain ⟨l2, h4, h5⟩ := Option.map_eq_some_iff.1 h
          rw [← h5] at hr
          rcases List.mem_cons.1 hr with rfl | hr
          · exact hq
          · exact more_fit n s2 l2 (by omega) h4 r hr
theorem read_fit {N : Nat} {s : Bs} {l : List Rq} (h : readP N s = some l) (hs : s.length ≤ 300) : ∀ r ∈ l, Fit r := by
  intro r hr
  unfold readP at h
  by_cases h1 : lv s = []
  · rw [if_pos h1] at h
    injection h with h
    rw [← h] at hr
    cases hr
  · rw [if_neg h1] at h
    obtain ⟨a, b⟩ := more_fit (m := 300) N (lv s) l (by have := lv_len s; omega) h r hr
    exact ⟨by unfold maxLen; omega, fun v hv => by have := b v hv; unfold maxLen; omega⟩
/-- Parse, of every text -/
theorem parse_all (N : Nat) (s : Bs) (w : World) (hN : 310 ≤ N) (hs : s.length ≤ maxLen) (hR : Room w) :
    Calls Tryz.prog 18 #[.string (Ba s)] w fun e w' => ∃ v er, e = .returned (.tuple #[v, .int .i64 er]) ∧ ParseR N w.heap.size s w' v er ∧ Below w.heap.size w w' :=
  parse_any N s w hN hs hR fun l h hl => read_fit h hl
theorem parse_fit {N : Nat} {s : Bs} : ∀ r ∈ (parseE N s).1, Fit r := by
  intro r hr
  by_cases h1 : 300 < s.length
  · rw [parse_large h1] at hr; cases hr
  · cases h2 : readP N s with
    | none => rw [parse_syntax h1 h2] at hr; cases hr
    | some l =>
      by_cases h3 : chkI l = 0
      · rw [parse_ok h1 h2 h3] at hr
        exact read_fit h2 (by omega) r hr
      · rw [parse_chk h1 h2 h3] at hr; cases hr
end Go.Proofs.YtgaopmdpcjcooaaGreatDoor
