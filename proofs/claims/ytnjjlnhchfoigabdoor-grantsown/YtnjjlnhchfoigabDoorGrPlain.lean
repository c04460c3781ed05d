/- Plain facts: rules, roles, binds, what is asked; what is wrong with them; who has which rules. -/
import Derived.Test.YtnjjlnhchfoigabDoorSlBase
import Derived.Test.YtnjjlnhchfoigabDoorWord
namespace Go.Proofs.YtnjjlnhchfoigabDoor
set_option linter.unusedVariables false
set_option linter.unusedSimpArgs false
/-- a rule: verbs, kinds, names -/
abbrev Rl := List Bs × List Bs × List Bs
/-- a role: space, name, rules -/
abbrev Ro := Bs × Bs × List Rl
/-- a bind: space, name, role, whole, users, groups -/
abbrev Bi := Bs × Bs × Bs × Bool × List Bs × List Bs
/-- what is asked: verb, kind, space, name -/
abbrev Ak := Bs × Bs × Bs × Bs
/-- the first number that is not 0 -/
def firstE {α : Type} (f : α → Int) : List α → Int
  | [] => 0
  | x :: r => if f x = 0 then firstE f r else f x
theorem firstE_step {α : Type} {f : α → Int} {l : List α} {k : Nat} (hk : k < l.length) (h : f l[k] = 0) : firstE f (l.drop k) = firstE f (l.drop (k + 1)) := by
  rw [List.drop_eq_getElem_cons hk, firstE, if_pos h]
theorem firstE_hit {α : Type} {f : α → Int} {l : List α} {k : Nat} (hk : k < l.length) (h : f l[k] ≠ 0) : firstE f (l.drop k) = f l[k] := by
  rw [List.drop_eq_getElem_cons hk, firstE, if_neg h]
theorem firstE_end {α : Type} {f : α → Int} {l : List α} {k : Nat} (hk : l.length ≤ k) : firstE f (l.drop k) = 0 := by
  rw [List.drop_eq_nil_of_le hk]; rfl
theorem firstE_zero {α : Type} {f : α → Int} : ∀ {l : List α}, firstE f l = 0 ↔ ∀ x ∈ l, f x = 0
  | [] => by simp [firstE]
  | x :: r => by
    rw [firstE]
    by_cases h : f x = 0
    · rw [if_pos h, firstE_zero]; simp [h]
    · rw [if_neg h]; simp [h]
/-- the same, with what stands ahead -/
def firstA {α : Type} (f : List α → α → Int) : List α → List α → Int
  | _, [] => 0
  | p, x :: r => if f p x = 0 then firstA f (p ++ [x]) r else f p x
theorem firstA_step {α : Type} {f : List α → α → Int} {l : List α} {k : Nat} (hk : k < l.length) (h : f (l.take k) l[k] = 0) : firstA f (l.take k) (l.drop k) = firstA f (l.take (k + 1)) (l.drop (k + 1)) := by
  rw [List.drop_eq_getElem_cons hk, firstA, if_pos h, List.take_succ_eq_append_getElem hk]
theorem firstA_hit {α : Type} {f : List α → α → Int} {l : List α} {k : Nat} (hk : k < l.length) (h : f (l.take k) l[k] ≠ 0) : firstA f (l.take k) (l.drop k) = f (l.take k) l[k] := by
  rw [List.drop_eq_getElem_cons hk, firstA, if_neg h]
theorem firstA_end {α : Type} {f : List α → α → Int} {l : List α} {k : Nat} (hk : l.length ≤ k) : firstA f (l.take k) (l.drop k) = 0 := by
  rw [List.drop_eq_nil_of_le hk]; rfl
/-- the first of two that isn't 0 -/
def orE (a b : Int) : Int := if a = 0 then b else a
theorem orE_l {a b : Int} (h : a ≠ 0) : orE a b = a := if_neg h
theorem orE_r {a b : Int} (h : a = 0) : orE a b = b := if_pos h
theorem orE_zero {a b : Int} : orE a b = 0 ↔ a = 0 ∧ b = 0 := by
  unfold orE
  by_cases h : a = 0 <;> simp [h]
theorem orE_assoc (a b c : Int) : orE (orE a b) c = orE a (orE b c) := by
  unfold orE
  by_cases h : a = 0 <;> simp [h]
/-- a number, if something holds -/
def ifE (b : Bool) (e : Int) : Int := if b then e else 0
def cI (s : Bs) : Int := checkI (Ba s)
theorem cI_cases (s : Bs) : cI s = 0 ∨ cI s = 2 ∨ cI s = 6 := by
  unfold cI checkI
  split
  · simp
  · split <;> simp
def ifI (s : Bs) : Int := if s = [] then 0 else cI s
def wordI (s : Bs) : Int := if s = [42] then 0 else cI s
def bigB (r : Rl) : Bool := decide (6 < r.1.length) || decide (6 < r.2.1.length) || decide (6 < r.2.2.length)
def bareB (r : Rl) : Bool := decide (r.1.length = 0) || decide (r.2.1.length = 0)
/-- what is wrong with a rule -/
def ruleI (r : Rl) : Int := orE (ifE (bigB r) 2) (orE (ifE (bareB r) 1) (orE (firstE wordI r.1) (orE (firstE wordI r.2.1) (firstE cI r.2.2))))
def rulesI (l : List Rl) : Int := orE (ifE (decide (8 < l.length)) 2) (firstE ruleI l)
def placeI (s n : Bs) : Int := orE (ifI s) (cI n)
def roleB (p : List Ro) (r : Ro) : Bool := p.any fun q => decide (q.1 = r.1) && decide (q.2.1 = r.2.1)
/-- what is wrong with a role behind others -/
def roleI (p : List Ro) (r : Ro) : Int := orE (placeI r.1 r.2.1) (orE (ifE (roleB p r) 5) (rulesI r.2.2))
def bindB (p : List Bi) (r : Bi) : Bool := p.any fun q => decide (q.1 = r.1) && decide (q.2.1 = r.2.1)
def bindI (p : List Bi) (b : Bi) : Int :=
  orE (placeI b.1 b.2.1) (orE (cI b.2.2.1) (orE (ifE (bindB p b) 5) (orE (ifE (decide (b.1 = []) && !b.2.2.2.1) 1)
    (orE (ifE (decide (6 < b.2.2.2.2.1.length) || decide (6 < b.2.2.2.2.2.length)) 2) (orE (firstE cI b.2.2.2.2.1) (firstE cI b.2.2.2.2.2))))))
/-- what is wrong with grants -/
def grI (rs : List Ro) (bs : List Bi) : Int :=
  orE (ifE (decide (12 < rs.length) || decide (12 < bs.length)) 2) (orE (firstA roleI [] rs) (firstA bindI [] bs))
def askI (a : Ak) : Int := orE (firstE cI [a.1, a.2.1]) (orE (ifI a.2.2.1) (ifI a.2.2.2))
/-- what is wrong with the name of a user or a group -/
def nmI (s : Bs) : Int := if checkI (Ba s) ≠ 0 then checkI (Ba s) else if 20 < s.length then 2 else 0
/-- what is wrong with groups that stand behind others -/
def grpI : List Bs → List Bs → Int
  | _, [] => 0
  | p, g :: r => if nmI g ≠ 0 then nmI g else if g ∈ p then 5 else grpI (p ++ [g]) r
def userI (n : Bs) (gs : List Bs) : Int := if nmI n ≠ 0 then nmI n else if 6 < gs.length then 2 else grpI [] gs
theorem grp_name {gs : List Bs} {k : Nat} (hk : k < gs.length) (h : nmI gs[k] ≠ 0) : grpI (gs.take k) (gs.drop k) = nmI gs[k] := by
  rw [List.drop_eq_getElem_cons hk, grpI, if_pos h]
theorem grp_twice {gs : List Bs} {k : Nat} (hk : k < gs.length) (h : nmI gs[k] = 0) (g : gs[k] ∈ gs.take k) : grpI (gs.take k) (gs.drop k) = 5 := by
  rw [List.drop_eq_getElem_cons hk, grpI, if_neg (by simp [h]), if_pos g]
theorem grp_step {gs : List Bs} {k : Nat} (hk : k < gs.length) (h : nmI gs[k] = 0) (g : gs[k] ∉ gs.take k) : grpI (gs.take k) (gs.drop k) = grpI (gs.take (k + 1)) (gs.drop (k + 1)) := by
  rw [List.drop_eq_getElem_cons hk, grpI, if_neg (by simp [h]), if_neg g, List.take_succ_eq_append_getElem hk]
theorem grp_end {gs : List Bs} {k : Nat} (hk : gs.length ≤ k) : grpI (gs.take k) (gs.drop k) = 0 := by
  rw [List.drop_of_length_le hk, grpI]
/-- why there is no telling what a user has -/
def holdI (rs : List Ro) (bs : List Bi) (n : Bs) (gs : List Bs) : Int := orE (grI rs bs) (userI n gs)
def whyI (rs : List Ro) (bs : List Bi) (n : Bs) (gs : List Bs) (sp : Bs) : Int := orE (holdI rs bs n gs) (ifI sp)
def whyMayI (rs : List Ro) (bs : List Bi) (n : Bs) (gs : List Bs) (a : Ak) : Int := orE (holdI rs bs n gs) (askI a)
/-- does a bind concern a user? -/
def concB (b : Bi) (n : Bs) (gs : List Bs) : Bool := decide (n ∈ b.2.2.2.2.1) || gs.any fun x => decide (x ∈ b.2.2.2.2.2)
def spOf (b : Bi) : Bs := if b.2.2.2.1 then [] else b.1
def isRole (b : Bi) (r : Ro) : Bool := decide (r.1 = spOf b) && decide (r.2.1 = b.2.2.1)
/-- the rules of the role of a bind -/
def roleOf (rs : List Ro) (b : Bi) : List Rl :=
  match rs with
  | [] => []
  | r :: l => if isRole b r then r.2.2 else roleOf l b
theorem roleOf_hit {rs : List Ro} {b : Bi} {k : Nat} (hk : k < rs.length) (h : isRole b rs[k] = true) : roleOf (rs.drop k) b = rs[k].2.2 := by
  rw [List.drop_eq_getElem_cons hk, roleOf, if_pos h]
theorem roleOf_step {rs : List Ro} {b : Bi} {k : Nat} (hk : k < rs.length) (h : isRole b rs[k] = false) : roleOf (rs.drop k) b = roleOf (rs.drop (k + 1)) b := by
  rw [List.drop_eq_getElem_cons hk, roleOf, if_neg (by simp [h])]
theorem roleOf_end {rs : List Ro} {b : Bi} {k : Nat} (hk : rs.length ≤ k) : roleOf (rs.drop k) b = [] := by
  rw [List.drop_eq_nil_of_le hk]; rfl
def countsB (b : Bi) (n : Bs) (gs : List Bs) (sp : Bs) : Bool := concB b n gs && (decide (b.1 = sp) || decide (b.1 = []))
def heldOf (rs : List Ro) (n : Bs) (gs : List Bs) (sp : Bs) (b : Bi) : List Rl := if countsB b n gs sp then roleOf rs b else []
/-- the rules that a user has in a space -/
def heldP (rs : List Ro) (bs : List Bi) (n : Bs) (gs : List Bs) (sp : Bs) : List Rl := bs.flatMap (heldOf rs n gs sp)
theorem held_step {rs : List Ro} {bs : List Bi} {n : Bs} {gs : List Bs} {sp : Bs} {k : Nat} (hk : k < bs.length) : heldP rs (bs.take (k + 1)) n gs sp = heldP rs (bs.take k) n gs sp ++ heldOf rs n gs sp bs[k] := by
  unfold heldP
  rw [List.take_succ_eq_append_getElem hk, List.flatMap_append]
  simp
def hasB (l : List Bs) (s : Bs) : Bool := decide (s ∈ l) || decide (([42] : Bs) ∈ l)
def nameOkB (l : List Bs) (s : Bs) : Bool := decide (l.length = 0) || (!decide (s = []) && decide (s ∈ l))
/-- does a rule allow what is asked? -/
def alB (r : Rl) (a : Ak) : Bool := hasB r.1 a.1 && (hasB r.2.1 a.2.1 && nameOkB r.2.2 a.2.2.2)
def allB (l : List Rl) (a : Ak) : Bool := l.any fun r => alB r a
theorem allB_cons (r : Rl) (l : List Rl) (a : Ak) : allB (r :: l) a = (alB r a || allB l a) := by simp [allB]
theorem all_hit {l : List Rl} {a : Ak} {k : Nat} (hk : k < l.length) (h : alB l[k] a = true) : allB (l.drop k) a = true := by
  rw [List.drop_eq_getElem_cons hk, allB_cons, h]; rfl
theorem all_step {l : List Rl} {a : Ak} {k : Nat} (hk : k < l.length) (h : alB l[k] a = false) : allB (l.drop k) a = allB (l.drop (k + 1)) a := by
  rw [List.drop_eq_getElem_cons hk, allB_cons, h]; rfl
theorem all_end {l : List Rl} {a : Ak} {k : Nat} (hk : l.length ≤ k) : allB (l.drop k) a = false := by
  rw [List.drop_eq_nil_of_le hk]; rfl
theorem allB_true {l : List Rl} {a : Ak} : allB l a = true ↔ ∃ r ∈ l, alB r a = true := by simp [allB]
theorem allB_mono {l m : List Rl} {a : Ak} (h : ∀ r ∈ l, r ∈ m) (g : allB l a = true) : allB m a = true := by
  obtain ⟨r, hr, ha⟩ := allB_true.1 g
  exact allB_true.2 ⟨r, h r hr, ha⟩
/-- what May tells -/
def mayB (rs : List Ro) (bs : List Bi) (n : Bs) (gs : List Bs) (a : Ak) : Bool := decide (whyMayI rs bs n gs a = 0) && allB (heldP rs bs n gs a.2.2.1) a
def heldE (rs : List Ro) (bs : List Bi) (n : Bs) (gs : List Bs) (sp : Bs) : List Rl := if whyI rs bs n gs sp = 0 then heldP rs bs n gs sp else []
theorem mem_held {rs : List Ro} {bs : List Bi} {n : Bs} {gs : List Bs} {sp : Bs} {r : Rl} : r ∈ heldP rs bs n gs sp ↔ ∃ b ∈ bs, countsB b n gs sp = true ∧ r ∈ roleOf rs b := by
  unfold heldP
  rw [List.mem_flatMap]
  constructor
  · rintro ⟨b, hb, h⟩
    unfold heldOf at h
    split at h
    · exact ⟨b, hb, by assumption, h⟩
    · cases h
  · rintro ⟨b, hb, h1, h2⟩
    exact ⟨b, hb, by unfold heldOf; rw [if_pos h1]; exact h2⟩
theorem roleOf_more (rs : List Ro) (x : Ro) (b : Bi) {r : Rl} : r ∈ roleOf rs b → r ∈ roleOf (rs ++ [x]) b := by
  induction rs with
  | nil => intro h; cases h
  | cons y l ih =>
    intro h
    rw [List.cons_append, roleOf]
    rw [roleOf] at h
    by_cases hy : isRole b y = true
    · rw [if_pos hy] at h ⊢; exact h
    · rw [if_neg hy] at h ⊢; exact ih h
theorem held_more {rs : List Ro} {bs : List Bi} {n : Bs} {gs : List Bs} {sp : Bs} (x : Ro) (y : Bi) {r : Rl} (h : r ∈ heldP rs bs n gs sp) : r ∈ heldP (rs ++ [x]) (bs ++ [y]) n gs sp := by
  obtain ⟨b, hb, h1, h2⟩ := mem_held.1 h
  exact mem_held.2 ⟨b, by simp [hb], h1, roleOf_more rs x b h2⟩
theorem counts_all {b : Bi} {n : Bs} {gs : List Bs} {sp : Bs} (h : countsB b n gs [] = true) : countsB b n gs sp = true := by
  unfold countsB at *
  simp only [Bool.and_eq_true, Bool.or_eq_true, decide_eq_true_eq] at *
  exact ⟨h.1, .inr (by rcases h.2 with h | h <;> exact h)⟩
theorem held_wide {rs : List Ro} {bs : List Bi} {n : Bs} {gs : List Bs} (sp : Bs) {r : Rl} (h : r ∈ heldP rs bs n gs []) : r ∈ heldP rs bs n gs sp := by
  obtain ⟨b, hb, h1, h2⟩ := mem_held.1 h
  exact mem_held.2 ⟨b, hb, counts_all h1, h2⟩
theorem held_wide_len (rs : List Ro) (bs : List Bi) (n : Bs) (gs : List Bs) (sp : Bs) : (heldP rs bs n gs []).length ≤ (heldP rs bs n gs sp).length := by
  induction bs with
  | nil => exact Nat.le_refl _
  | cons b l ih =>
    show (heldOf rs n gs [] b ++ heldP rs l n gs []).length ≤ (heldOf rs n gs sp b ++ heldP rs l n gs sp).length
    rw [List.length_append, List.length_append]
    have : (heldOf rs n gs [] b).length ≤ (heldOf rs n gs sp b).length := by
      unfold heldOf
      by_cases h : countsB b n gs [] = true
      · rw [if_pos h, if_pos (counts_all h)]; exact Nat.le_refl _
      · rw [if_neg h]; exact Nat.zero_le _
    omega
theorem held_none {rs : List Ro} {bs : List Bi} {n : Bs} {gs : List Bs} (sp : Bs) (h : ∀ b ∈ bs, concB b n gs = false) : heldP rs bs n gs sp = [] := by
  cases hl : heldP rs bs n gs sp with
  | nil => rfl
  | cons r l =>
    have hm : r ∈ heldP rs bs n gs sp := by rw [hl]; simp
    obtain ⟨b, hb, h1, _⟩ := mem_held.1 hm
    unfold countsB at h1
    rw [h b hb] at h1
    cases h1
theorem allB_nil (a : Ak) : allB [] a = false := rfl
theorem ask_none : askI ([], [], [], []) = 6 := by
  have h : cI [] = 6 := by unfold cI; decide +kernel
  unfold askI firstE
  rw [h]
  rfl
theorem ask_space {a b c d : Bs} (h : askI (a, b, c, d) = 0) : ifI c = 0 := (orE_zero.1 (orE_zero.1 h).2).1
theorem ask_all {a b c d : Bs} (h : askI (a, b, c, d) = 0) : askI (a, b, [], d) = 0 := by
  obtain ⟨h1, h2⟩ := orE_zero.1 h
  exact orE_zero.2 ⟨h1, orE_zero.2 ⟨rfl, (orE_zero.1 h2).2⟩⟩
theorem allB_space (l : List Rl) (a b c d e : Bs) : allB l (a, b, c, d) = allB l (a, b, e, d) := rfl
end Go.Proofs.YtnjjlnhchfoigabDoor
