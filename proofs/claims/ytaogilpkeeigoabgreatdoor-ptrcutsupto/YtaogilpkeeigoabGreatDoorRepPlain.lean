/- Plain facts: texts in which all of one text is replaced by another, and texts cut at a sign, sign by sign. -/
import Derived.Test.YtaogilpkeeigoabGreatDoorDoc
import Derived.Lib.Replace
import Derived.Lib.SplitLaws
namespace Go.Proofs.YtaogilpkeeigoabGreatDoor
set_option linter.unusedVariables false
set_option linter.unusedSimpArgs false
theorem index_cons (b : UInt8) (l sub : Bs) (h : sub.isPrefixOf (b :: l) = false) : Lib.index (b :: l) sub = if Lib.index l sub == -1 then -1 else Lib.index l sub + 1 := by
  rw [Lib.index, h]
  simp
theorem index_pre (s sub : Bs) (h : sub.isPrefixOf s = true) (hs : s ≠ []) : Lib.index s sub = ((0 : Nat) : Int) := by
  cases s with
  | nil => exact absurd rfl hs
  | cons b l =>
    rw [Lib.index, h]
    simp
theorem index_nil (sub : Bs) (h : sub ≠ []) : Lib.index [] sub = -1 := by
  cases sub with
  | nil => exact absurd rfl h
  | cons c r => simp [Lib.index]
def rep (old new s : Bs) : Bs := Lib.replaceK old new (Lib.count s old) s
theorem replaceAll_rep (s old new : Bs) (h : old ≠ new) : Lib.replaceAll s old new = rep old new s := by
  unfold Lib.replaceAll Lib.replace rep
  rw [if_neg (by simpa using h)]
  unfold Lib.replaceNum
  rw [if_pos (Or.inl (by decide))]
theorem rep_nil (old new : Bs) (h : old ≠ []) : rep old new [] = [] := by
  unfold rep
  rw [Lib.count_miss (index_nil old h)]
  rfl
theorem rep_hit (old new s : Bs) (h : old ≠ []) (hp : old.isPrefixOf s = true) : rep old new s = new ++ rep old new (s.drop old.length) := by
  have hs : s ≠ [] := by
    rintro rfl
    cases old with
    | nil => exact h rfl
    | cons c r => simp at hp
  have hi := index_pre s old hp hs
  unfold rep
  rw [Lib.count_hit (by simpa using h) hi, Nat.zero_add, Nat.add_comm, Lib.replaceK_hit _ _ _ _ 0 hi]
  simp
theorem rep_miss (old new : Bs) (b : UInt8) (l : Bs) (h : old ≠ []) (hp : old.isPrefixOf (b :: l) = false) : rep old new (b :: l) = b :: rep old new l := by
  have hx := index_cons b l old hp
  unfold rep
  by_cases hm : Lib.index l old = -1
  · rw [Lib.count_miss hm, Lib.count_miss (by rw [hx, if_pos (beq_iff_eq.2 hm)])]
    rfl
  · have hge := Lib.index_ge l old
    obtain ⟨j, hj⟩ : ∃ j : Nat, Lib.index l old = j := ⟨(Lib.index l old).toNat, by omega⟩
    have hx' : Lib.index (b :: l) old = ((j + 1 : Nat) : Int) := by rw [hx, if_neg (fun e => hm (beq_iff_eq.1 e)), hj]; omega
    have e1 : (b :: l).drop (j + 1 + old.length) = l.drop (j + old.length) := by
      rw [show j + 1 + old.length = (j + old.length) + 1 from by omega]
      rfl
    rw [Lib.count_hit (by simpa using h) hj, Lib.count_hit (by simpa using h) hx', e1, Nat.add_comm 1, Lib.replaceK_hit _ _ _ _ (j + 1) hx', Lib.replaceK_hit _ _ _ _ j hj, e1]
    simp
/-- one sign -/
theorem rep_one (c : UInt8) (new : Bs) : ∀ s : Bs, rep [c] new s = s.flatMap fun b => if b = c then new else [b]
  | [] => rep_nil _ _ (by simp)
  | b :: l => by
    by_cases h : b = c
    · subst h
      rw [rep_hit [b] new (b :: l) (by simp) (by simp), List.flatMap_cons, if_pos rfl]
      simp only [List.length_singleton, List.drop_succ_cons, List.drop_zero]
      rw [rep_one b new l]
    · rw [rep_miss [c] new b l (by simp) (by simp [List.isPrefixOf, Ne.symm h]), List.flatMap_cons, if_neg h, rep_one c new l]
      rfl
/-- a text, cut at each sign c -/
def parts (c : UInt8) : Bs → List Bs
  | [] => [[]]
  | b :: l => if b = c then [] :: parts c l else match parts c l with
    | [] => [[b]]
    | x :: r => (b :: x) :: r
theorem parts_ne (c : UInt8) : ∀ s : Bs, parts c s ≠ []
  | [] => by simp [parts]
  | b :: l => by
    rw [parts]
    split
    · simp
    · split <;> simp
theorem parts_len (c : UInt8) : ∀ s : Bs, (parts c s).length = s.count c + 1
  | [] => rfl
  | b :: l => by
    have ih := parts_len c l
    have hn := parts_ne c l
    rw [parts]
    split
    · rename_i h
      subst h
      rw [List.length_cons, ih, List.count_cons_self]
    · rename_i h
      rw [List.count_cons_of_ne h]
      cases hp : parts c l with
      | nil => exact absurd hp hn
      | cons x r =>
        rw [hp] at ih
        simpa using ih
theorem part_le_len (c : UInt8) : ∀ (s x : Bs), x ∈ parts c s → x.length ≤ s.length
  | [], x, h => by
    simp [parts] at h
    subst h
    exact Nat.le_refl _
  | b :: l, x, h => by
    have ih := part_le_len c l
    have hn := parts_ne c l
    rw [parts] at h
    split at h
    · rcases List.mem_cons.1 h with rfl | h
      · simp
      · have := ih x h
        simp only [List.length_cons]
        omega
    · cases hp : parts c l with
      | nil => exact absurd hp hn
      | cons y ys =>
        rw [hp] at h ih
        simp only [] at h
        rcases List.mem_cons.1 h with rfl | h
        · have := ih y (by simp)
          simp only [List.length_cons]
          omega
        · have := ih x (by simp [h])
          simp only [List.length_cons]
          omega
theorem split_parts (c : UInt8) : ∀ s : Bs, Lib.splitK [c] 0 (Lib.count s [c]) s = parts c s
  | [] => by
    rw [Lib.count_miss (index_nil [c] (by simp))]
    rfl
  | b :: l => by
    have ih := split_parts c l
    by_cases h : b = c
    · subst h
      have hi := index_pre (b :: l) [b] (by simp) (by simp)
      rw [Lib.count_cons_eq, Nat.add_comm, parts, if_pos rfl, ← ih]
      have hm : ¬ (Lib.index (b :: l) [b] == -1) = true := fun e => by have := beq_iff_eq.1 e; omega
      rw [Lib.splitK, if_neg hm, hi]
      simp
    · have hp : ([c] : Bs).isPrefixOf (b :: l) = false := by simp [List.isPrefixOf, Ne.symm h]
      have hx := index_cons b l [c] hp
      rw [Lib.count_cons_ne b c l h, parts, if_neg h, ← ih]
      by_cases hm : Lib.index l [c] = -1
      · rw [Lib.count_miss hm]
        rfl
      · have hge := Lib.index_ge l [c]
        obtain ⟨j, hj⟩ : ∃ j : Nat, Lib.index l [c] = j := ⟨(Lib.index l [c]).toNat, by omega⟩
        have hx' : Lib.index (b :: l) [c] = ((j + 1 : Nat) : Int) := by rw [hx, if_neg (fun e => hm (beq_iff_eq.1 e)), hj]; omega
        rw [Lib.count_hit (by simp) hj, Nat.add_comm 1]
        have m1 : ¬ (Lib.index (b :: l) [c] == -1) = true := fun e => by have := beq_iff_eq.1 e; omega
        have m2 : ¬ (Lib.index l [c] == -1) = true := fun e => by have := beq_iff_eq.1 e; omega
        rw [Lib.splitK, Lib.splitK, if_neg m1, if_neg m2, hj, hx']
        simp
/-! Pointers. -/
def esc (c : UInt8) : Bs := if c = 126 then [126, 48] else if c = 47 then [126, 49] else [c]
/-- a step as it is written -/
def written (s : Bs) : Bs := s.flatMap esc
/-- no sign stands for nothing -/
def noStray : Bs → Bool
  | [] => true
  | c :: r => if c = 126 then (match r with
    | [] => false
    | d :: r' => (d == 48 || d == 49) && noStray r')
    else noStray r
/-- a step as it is meant -/
def meantB : Bs → Bs
  | [] => []
  | c :: r => if c = 126 then (match r with
    | [] => [c]
    | d :: r' => (if d = 49 then 47 else 126) :: meantB r')
    else c :: meantB r
theorem noStray_tilde (d : UInt8) (r : Bs) : noStray (126 :: d :: r) = ((d == 48 || d == 49) && noStray r) := by rw [noStray]; simp
theorem noStray_other (c : UInt8) (r : Bs) (h : c ≠ 126) : noStray (c :: r) = noStray r := by cases r <;> simp [noStray, h]
theorem meantB_other (c : UInt8) (r : Bs) (h : c ≠ 126) : meantB (c :: r) = c :: meantB r := by cases r <;> simp [meantB, h]
theorem meantB_tilde (d : UInt8) (r : Bs) : meantB (126 :: d :: r) = (if d = 49 then 47 else 126) :: meantB r := by rw [meantB]; simp
/-- what the two replacements make of a step -/
theorem rep_meant : ∀ (k : Nat) (s : Bs), s.length ≤ k → noStray s = true → rep [126, 48] [126] (rep [126, 49] [47] s) = meantB s
  | k, [], _, _ => by rw [rep_nil _ _ (by simp), rep_nil _ _ (by simp)]; rfl
  | 0, c :: r, hk, _ => by simp at hk
  | k + 1, c :: r, hk, h => by
    by_cases hc : c = 126
    · subst hc
      cases r with
      | nil => simp [noStray] at h
      | cons d r =>
        rw [noStray_tilde] at h
        have h2 : noStray r = true := by simp at h; exact h.2
        have ih := rep_meant k r (by simp at hk; omega) h2
        rw [meantB_tilde, ← ih]
        by_cases hd : d = 49
        · subst hd
          rw [rep_hit [126, 49] [47] (126 :: 49 :: r) (by simp) (by simp)]
          simp only [List.length_cons, List.length_nil, List.drop_succ_cons, List.drop_zero, List.singleton_append]
          rw [rep_miss [126, 48] [126] 47 _ (by simp) (by simp [List.isPrefixOf]), if_pos trivial]
        · have hd0 : d = 48 := by simp [hd] at h; exact h.1
          subst hd0
          rw [rep_miss [126, 49] [47] 126 (48 :: r) (by simp) (by simp [List.isPrefixOf]), rep_miss [126, 49] [47] 48 r (by simp) (by simp [List.isPrefixOf])]
          rw [rep_hit [126, 48] [126] (126 :: 48 :: rep [126, 49] [47] r) (by simp) (by simp)]
          simp
    · rw [noStray_other c r hc] at h
      have ih := rep_meant k r (by simp at hk; omega) h
      rw [meantB_other c r hc, ← ih, rep_miss [126, 49] [47] c r (by simp) (by simp [List.isPrefixOf, Ne.symm hc]), rep_miss [126, 48] [126] c _ (by simp) (by simp [List.isPrefixOf, Ne.symm hc])]
theorem rep_written (s : Bs) : rep [47] [126, 49] (rep [126] [126, 48] s) = written s := by
  rw [rep_one, rep_one]
  unfold written
  rw [List.flatMap_assoc]
  congr 1
  funext b
  unfold esc
  by_cases h : b = 126
  · subst h; decide
  · by_cases h2 : b = 47
    · subst h2; decide
    · simp [h, h2]
/-- one for one -/
theorem written_fine : ∀ s : Bs, noStray (written s) = true ∧ meantB (written s) = s ∧ 47 ∉ written s
  | [] => ⟨rfl, rfl, by simp [written]⟩
  | c :: r => by
    obtain ⟨h1, h2, h3⟩ := written_fine r
    have e : written (c :: r) = esc c ++ written r := rfl
    rw [e]
    unfold esc
    by_cases hc : c = 126
    · subst hc
      rw [if_pos rfl]
      simp only [List.cons_append, List.nil_append]
      rw [noStray_tilde, meantB_tilde]
      refine ⟨by simp [h1], by simp [h2], by simp [h3]⟩
    · by_cases h47 : c = 47
      · subst h47
        rw [if_neg (by decide), if_pos rfl]
        simp only [List.cons_append, List.nil_append]
        rw [noStray_tilde, meantB_tilde]
        refine ⟨by simp [h1], by simp [h2], by simp [h3]⟩
      · rw [if_neg hc, if_neg h47]
        simp only [List.cons_append, List.nil_append]
        rw [noStray_other c _ hc, meantB_other c _ hc]
        exact ⟨h1, by rw [h2], by simp [h3, Ne.symm h47]⟩
theorem meant_back : ∀ (k : Nat) (s : Bs), s.length ≤ k → noStray s = true → 47 ∉ s → written (meantB s) = s
  | _, [], _, _, _ => rfl
  | 0, c :: r, hk, _, _ => by simp at hk
  | k + 1, c :: r, hk, h, hn => by
    by_cases hc : c = 126
    · subst hc
      cases r with
      | nil => simp [noStray] at h
      | cons d r =>
        rw [noStray_tilde] at h
        have h2 : noStray r = true := by simp at h; exact h.2
        have ih := meant_back k r (by simp at hk; omega) h2 (by simp at hn; exact hn.2)
        rw [meantB_tilde]
        have e : ∀ x, written (x :: meantB r) = esc x ++ written (meantB r) := fun x => rfl
        rw [e, ih]
        by_cases hd : d = 49
        · subst hd; rfl
        · have hd0 : d = 48 := by simp [hd] at h; exact h.1
          subst hd0; rfl
    · rw [noStray_other c r hc] at h
      have ih := meant_back k r (by simp at hk; omega) h (by simp at hn; exact hn.2)
      rw [meantB_other c r hc]
      have e : written (c :: meantB r) = esc c ++ written (meantB r) := rfl
      rw [e, ih]
      unfold esc
      rw [if_neg hc, if_neg (by simp at hn; exact Ne.symm hn.1)]
      rfl
abbrev eForm : Nat := 16
abbrev eNone : Nat := 7
abbrev eArg : Nat := 1
/-- what a pointer's steps are, or what is wrong with it -/
def stepsE (p : Bs) : Except Nat (List Bs) :=
  if p = [] then .ok []
  else if hd p ≠ 47 ∨ noStray p = false then .error eForm
  else if 10 < p.count 47 then .error eLarge
  else .ok ((parts 47 p.tail).map meantB)
def joinB : List Bs → Bs
  | [] => []
  | s :: r => 47 :: (written s ++ joinB r)
def joinE (l : List Bs) : Except Nat Bs := if 10 < l.length then .error eLarge else .ok (joinB l)
theorem parts_stray : ∀ (k : Nat) (s : Bs), s.length ≤ k → noStray s = true → ∀ x ∈ parts 47 s, noStray x = true ∧ 47 ∉ x
  | _, [], _, _, x, hx => by
    simp [parts] at hx
    subst hx
    exact ⟨rfl, by simp⟩
  | 0, c :: r, hk, _, _, _ => by simp at hk
  | k + 1, c :: r, hk, h, x, hx => by
    by_cases h47 : c = 47
    · subst h47
      rw [parts, if_pos rfl] at hx
      rw [noStray_other 47 r (by decide)] at h
      rcases List.mem_cons.1 hx with rfl | hx
      · exact ⟨rfl, by simp⟩
      · exact parts_stray k r (by simp at hk; omega) h x hx
    · by_cases hc : c = 126
      · subst hc
        cases r with
        | nil => simp [noStray] at h
        | cons d r =>
          rw [noStray_tilde] at h
          have h2 : noStray r = true := by simp at h; exact h.2
          have hd : d = 48 ∨ d = 49 := by simp at h; exact h.1
          have hd47 : d ≠ 47 := by rcases hd with rfl | rfl <;> decide
          have hn := parts_ne 47 r
          have ih := parts_stray k r (by simp at hk; omega) h2
          rw [parts, if_neg (by decide), parts, if_neg hd47] at hx
          cases hp : parts 47 r with
          | nil => exact absurd hp hn
          | cons y ys =>
            rw [hp] at hx ih
            simp only [] at hx
            rcases List.mem_cons.1 hx with rfl | hx
            · have hy := ih y (by simp)
              rw [noStray_tilde]
              refine ⟨by rcases hd with rfl | rfl <;> simp [hy.1], ?_⟩
              intro hm
              rcases List.mem_cons.1 hm with e | hm
              · exact absurd e (by decide)
              · rcases List.mem_cons.1 hm with e | hm
                · exact hd47 e.symm
                · exact hy.2 hm
            · exact ih x (by simp [hx])
      · rw [noStray_other c r hc] at h
        have hn := parts_ne 47 r
        have ih := parts_stray k r (by simp at hk; omega) h
        rw [parts, if_neg h47] at hx
        cases hp : parts 47 r with
        | nil => exact absurd hp hn
        | cons y ys =>
          rw [hp] at hx ih
          simp only [] at hx
          rcases List.mem_cons.1 hx with rfl | hx
          · have hy := ih y (by simp)
            rw [noStray_other c y hc]
            refine ⟨hy.1, ?_⟩
            intro hm
            rcases List.mem_cons.1 hm with e | hm
            · exact h47 e.symm
            · exact hy.2 hm
          · exact ih x (by simp [hx])
/-- the parts, with the sign ahead of each, are the text -/
def slashes : List Bs → Bs
  | [] => []
  | x :: r => 47 :: (x ++ slashes r)
theorem slashes_parts : ∀ s : Bs, slashes (parts 47 s) = 47 :: s
  | [] => rfl
  | c :: r => by
    have ih := slashes_parts r
    have hn := parts_ne 47 r
    rw [parts]
    split
    · rename_i h
      subst h
      show 47 :: ([] ++ slashes (parts 47 r)) = _
      rw [ih]
      rfl
    · cases hp : parts 47 r with
      | nil => exact absurd hp hn
      | cons y ys =>
        rw [hp] at ih
        have e : 47 :: (y ++ slashes ys) = 47 :: r := ih
        have e2 : y ++ slashes ys = r := by simpa using e
        show 47 :: (c :: y ++ slashes ys) = _
        rw [List.cons_append, e2]
theorem parts_none : ∀ x : Bs, 47 ∉ x → parts 47 x = [x]
  | [], _ => rfl
  | c :: x, h => by
    rw [parts, if_neg (by simp at h; exact Ne.symm h.1), parts_none x (by simp at h; exact h.2)]
theorem parts_cut : ∀ (x : Bs) (s : Bs), 47 ∉ x → parts 47 (x ++ 47 :: s) = x :: parts 47 s
  | [], s, _ => by
    show parts 47 (47 :: s) = _
    rw [parts, if_pos rfl]
  | c :: x, s, h => by
    show parts 47 (c :: (x ++ 47 :: s)) = _
    rw [parts, if_neg (by simp at h; exact Ne.symm h.1), parts_cut x s (by simp at h; exact h.2)]
theorem parts_slashes : ∀ (x : Bs) (l : List Bs), (∀ y ∈ x :: l, 47 ∉ y) → parts 47 (x ++ slashes l) = x :: l
  | x, [], h => by
    show parts 47 (x ++ []) = _
    rw [List.append_nil]
    exact parts_none x (h x (by simp))
  | x, y :: l, h => by
    show parts 47 (x ++ 47 :: (y ++ slashes l)) = _
    rw [parts_cut x _ (h x (by simp)), parts_slashes y l (fun z hz => h z (by simp at hz ⊢; exact Or.inr hz))]
theorem joinB_slashes (l : List Bs) : joinB l = slashes (l.map written) := by
  induction l with
  | nil => rfl
  | cons s r ih => simp [joinB, slashes, ih]
theorem noStray_app : ∀ (k : Nat) (x y : Bs), x.length ≤ k → noStray x = true → noStray (x ++ y) = noStray y
  | _, [], y, _, _ => rfl
  | 0, c :: r, y, hk, _ => by simp at hk
  | k + 1, c :: r, y, hk, h => by
    by_cases hc : c = 126
    · subst hc
      cases r with
      | nil => simp [noStray] at h
      | cons d r =>
        rw [noStray_tilde] at h
        have h2 : noStray r = true := by simp at h; exact h.2
        have h1 : (d == 48 || d == 49) = true := by simp at h ⊢; exact h.1
        show noStray (126 :: d :: (r ++ y)) = _
        rw [noStray_tilde, h1, Bool.true_and, noStray_app k r y (by simp at hk; omega) h2]
    · rw [noStray_other c r hc] at h
      show noStray (c :: (r ++ y)) = _
      rw [noStray_other c _ hc, noStray_app k r y (by simp at hk; omega) h]
theorem joinB_fine (l : List Bs) : noStray (joinB l) = true := by
  induction l with
  | nil => rfl
  | cons s r ih =>
    show noStray (47 :: (written s ++ joinB r)) = true
    rw [noStray_other 47 _ (by decide), noStray_app _ _ _ (Nat.le_refl _) (written_fine s).1, ih]
theorem joinB_count (l : List Bs) : (joinB l).count 47 = l.length := by
  induction l with
  | nil => rfl
  | cons s r ih =>
    show (47 :: (written s ++ joinB r)).count 47 = _
    rw [List.count_cons_self, List.count_append, ih, List.count_eq_zero.2 (written_fine s).2.2]
    simp
/-- steps, written and read again -/
theorem steps_join (l : List Bs) (h : l.length ≤ 10) : stepsE (joinB l) = .ok l := by
  cases l with
  | nil => rfl
  | cons s r =>
    have e : joinB (s :: r) = 47 :: (written s ++ joinB r) := rfl
    have hc := joinB_count (s :: r)
    have hf := joinB_fine (s :: r)
    unfold stepsE
    rw [if_neg (by rw [e]; simp), if_neg (by rw [hf, e]; simp [hd]), if_neg (by rw [hc]; omega)]
    have e2 : (joinB (s :: r)).tail = written s ++ slashes (r.map written) := by rw [e, ← joinB_slashes]; rfl
    rw [e2, parts_slashes (written s) (r.map written) (fun y hy => by
      rcases List.mem_cons.1 hy with rfl | hy
      · exact (written_fine s).2.2
      · obtain ⟨z, _, rfl⟩ := List.mem_map.1 hy
        exact (written_fine z).2.2)]
    have e3 : (r.map written).map meantB = r := by
      rw [List.map_map]
      exact (List.map_congr_left (g := id) (fun x _ => (written_fine x).2.1)).trans (List.map_id _)
    rw [List.map_cons, (written_fine s).2.1, e3]
/-- a pointer's steps, written, are the pointer -/
theorem join_steps {p : Bs} {l : List Bs} (h : stepsE p = .ok l) : joinB l = p ∧ l.length ≤ 10 := by
  unfold stepsE at h
  split at h
  · rename_i hp
    cases h
    exact ⟨hp.symm, by simp⟩
  · rename_i hp
    split at h
    · cases h
    · rename_i hq
      split at h
      · cases h
      · rename_i hr
        cases h
        cases p with
        | nil => exact absurd rfl hp
        | cons c p =>
          have hc : c = 47 := by
            have : ¬ hd (c :: p) ≠ 47 := fun e => hq (Or.inl e)
            simpa [hd] using this
          subst hc
          have hs : noStray p = true := by
            have : ¬ noStray (47 :: p) = false := fun e => hq (Or.inr e)
            rw [noStray_other 47 p (by decide)] at this
            simpa using this
          refine ⟨?_, ?_⟩
          · have e : (parts 47 p).map (written ∘ meantB) = parts 47 p := (List.map_congr_left (g := id) (fun x hx => by
              have := parts_stray _ p (Nat.le_refl _) hs x hx
              exact meant_back _ x (Nat.le_refl _) this.1 this.2)).trans (List.map_id _)
            rw [joinB_slashes, List.map_map, List.tail_cons, e]
            exact slashes_parts p
          · rw [List.length_map, List.tail_cons, parts_len]
            rw [List.count_cons_self] at hr
            omega
theorem steps_inj {p q : Bs} {l : List Bs} (h : stepsE p = .ok l) (g : stepsE q = .ok l) : p = q := by
  rw [← (join_steps h).1, ← (join_steps g).1]
theorem esc_pos (c : UInt8) : 1 ≤ (esc c).length := by
  unfold esc
  split
  · simp
  · split <;> simp
theorem written_ge : ∀ s : Bs, s.length ≤ (written s).length
  | [] => Nat.le_refl _
  | c :: s => by
    have := written_ge s
    have e : written (c :: s) = esc c ++ written s := rfl
    have h := esc_pos c
    rw [e, List.length_append, List.length_cons]
    omega
theorem sum_le_join (l : List Bs) : (l.map List.length).sum ≤ (joinB l).length := by
  induction l with
  | nil => simp
  | cons x l ih =>
    have := written_ge x
    simp only [joinB, List.length_cons, List.length_append, List.map_cons, List.sum_cons]
    omega
theorem steps_sum {p : Bs} {l : List Bs} (h : stepsE p = .ok l) : (l.map List.length).sum ≤ p.length := by
  have h1 := sum_le_join l
  rw [(join_steps h).1] at h1
  exact h1
theorem len_le_sum (l : List Bs) (k : Nat) (h : k < l.length) : l[k].length ≤ (l.map List.length).sum := by
  induction l generalizing k with
  | nil => simp at h
  | cons x l ih =>
    cases k with
    | zero => simp
    | succ k =>
      have := ih k (by simpa using h)
      simp only [List.getElem_cons_succ, List.map_cons, List.sum_cons]
      omega
end Go.Proofs.YtaogilpkeeigoabGreatDoor
