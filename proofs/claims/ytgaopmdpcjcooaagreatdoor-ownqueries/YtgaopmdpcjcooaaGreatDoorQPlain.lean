/- Plain functions on selectors and labels: what Check, CheckLabels and Match answer. -/
import Derived.Test.YtgaopmdpcjcooaaGreatDoorKeyPlain
namespace Go.Proofs.YtgaopmdpcjcooaaGreatDoor
set_option linter.unusedVariables false
set_option linter.unusedSimpArgs false
abbrev Bs := List UInt8
/-- a part of a selector: key, kind, values -/
abbrev Rq := Bs × Int × List Bs
/-- a label: key, value -/
abbrev Lb := Bs × Bs
def kI (s : Bs) : Int := keyI ⟨s.toArray⟩
def vI (s : Bs) : Int := valI ⟨s.toArray⟩
/-- the first number that is not 0 -/
def firstE {α : Type} (f : α → Int) : List α → Int
  | [] => 0
  | x :: r => if f x = 0 then firstE f r else f x
theorem firstE_step {α : Type} {f : α → Int} {l : List α} {k : Nat} (hk : k < l.length) (h : f l[k] = 0) : firstE f (l.drop k) = firstE f (l.drop (k + 1)) := by
  rw [List.drop_eq_getElem_cons hk, firstE, if_pos h]
theorem firstE_hit {α : Type} {f : α → Int} {l : List α} {k : Nat} (hk : k < l.length) (h : f l[k] ≠ 0) : firstE f (l.drop k) = f l[k] := by
  rw [List.drop_eq_getElem_cons hk, firstE, if_neg h]
theorem firstE_end {α : Type} {f : α → Int} {l : List α} {k : Nat} (hk : l.length ≤ k) : firstE f (l.drop k) = 0 := by
  rw [List.drop_eq_nil_of_le hk]; rfl
theorem firstE_zero {α : Type} {f : α → Int} : ∀ {l : List α}, firstE f l = 0 ↔ ∀ x ∈ l, f x = 0
  | [] => by simp [firstE]
  | x :: r => by
    rw [firstE]
    by_cases h : f x = 0
    · rw [if_pos h, firstE_zero]; simp [h]
    · rw [if_neg h]; simp [h]
def fitsB (kd : Int) (n : Nat) : Bool := (decide (kd = 1) || decide (kd = 2)) && decide (0 < n) || (decide (kd = 3) || decide (kd = 4)) && decide (n = 0)
/-- what is wrong with one part -/
def partI (r : Rq) : Int := if kI r.1 ≠ 0 then kI r.1 else if fitsB r.2.1 r.2.2.length = false then 1 else if 8 < r.2.2.length then 2 else firstE vI r.2.2
def chkI (l : List Rq) : Int := if 8 < l.length then 2 else firstE partI l
def bless (a b : Bs) : Bool := Op.bytesLess a b
theorem bless_iff : ∀ (a b : Bs), bless a b = true ↔ a < b
  | [], [] => by simp [bless, Op.bytesLess]
  | [], _ :: _ => by simp [bless, Op.bytesLess]
  | _ :: _, [] => by simp [bless, Op.bytesLess]
  | x :: a, y :: b => by
    have ih := bless_iff a b
    unfold bless at ih ⊢
    rw [Op.bytesLess, List.cons_lt_cons_iff]
    by_cases h1 : x < y
    · simp [h1]
    · by_cases h2 : x = y
      · simp [h2, ih]
      · simp [h1, h2]
def above (p : Option Bs) (k : Bs) : Bool :=
  match p with
  | some q => bless q k
  | none => true
def labsI : List Lb → Option Bs → Int
  | [], _ => 0
  | x :: r, p => if kI x.1 ≠ 0 then kI x.1 else if vI x.2 ≠ 0 then vI x.2 else if above p x.1 = false then 1 else labsI r (some x.1)
def labelsI (l : List Lb) : Int := if 10 < l.length then 2 else labsI l none
/-- the key ahead of place k -/
def ahead (l : List Lb) (k : Nat) : Option Bs := if k = 0 then none else (l[k - 1]?).map (·.1)
theorem labs_key {l : List Lb} {k : Nat} (hk : k < l.length) {p : Option Bs} (h : kI l[k].1 ≠ 0) : labsI (l.drop k) p = kI l[k].1 := by
  rw [List.drop_eq_getElem_cons hk, labsI, if_pos h]
theorem labs_val {l : List Lb} {k : Nat} (hk : k < l.length) {p : Option Bs} (h : kI l[k].1 = 0) (g : vI l[k].2 ≠ 0) : labsI (l.drop k) p = vI l[k].2 := by
  rw [List.drop_eq_getElem_cons hk, labsI, if_neg (by simp [h]), if_pos g]
theorem labs_row {l : List Lb} {k : Nat} (hk : k < l.length) (h0 : 0 < k) (h : kI l[k].1 = 0) (g : vI l[k].2 = 0) (f : bless (l[k - 1]'(by omega)).1 l[k].1 = false) : labsI (l.drop k) (ahead l k) = 1 := by
  rw [List.drop_eq_getElem_cons hk, labsI, if_neg (by simp [h]), if_neg (by simp [g])]
  have e : ahead l k = some (l[k - 1]'(by omega)).1 := by
    unfold ahead
    rw [if_neg (by omega), List.getElem?_eq_getElem (by omega)]
    rfl
  rw [e]
  exact if_pos f
theorem labs_step {l : List Lb} {k : Nat} (hk : k < l.length) (h : kI l[k].1 = 0) (g : vI l[k].2 = 0) (f : ∀ h0 : 0 < k, bless (l[k - 1]'(by omega)).1 l[k].1 = true) : labsI (l.drop k) (ahead l k) = labsI (l.drop (k + 1)) (ahead l (k + 1)) := by
  rw [List.drop_eq_getElem_cons hk, labsI, if_neg (by simp [h]), if_neg (by simp [g])]
  have e1 : ahead l (k + 1) = some l[k].1 := by
    unfold ahead
    rw [if_neg (by omega), Nat.add_sub_cancel, List.getElem?_eq_getElem hk]
    rfl
  rw [e1]
  by_cases h0 : 0 < k
  · have e : ahead l k = some (l[k - 1]'(by omega)).1 := by
      unfold ahead
      rw [if_neg (by omega), List.getElem?_eq_getElem (by omega)]
      rfl
    rw [e]
    exact if_neg (by simp [above, f h0])
  · have e : ahead l k = none := by
      unfold ahead
      rw [if_pos (by omega)]
    rw [e]
    exact if_neg (by simp [above])
theorem labs_end {l : List Lb} {k : Nat} (hk : l.length ≤ k) {p : Option Bs} : labsI (l.drop k) p = 0 := by
  rw [List.drop_eq_nil_of_le hk]
  rfl
/-- what labels have of a key -/
def stateB (ls : List Lb) (key : Bs) : Option Bs := (ls.find? fun x => decide (x.1 = key)).map (·.2)
def holdsB (r : Rq) (o : Option Bs) : Bool :=
  if r.2.1 = 1 then (match o with | some v => decide (v ∈ r.2.2) | none => false)
  else if r.2.1 = 2 then (match o with | some v => !decide (v ∈ r.2.2) | none => true)
  else if r.2.1 = 3 then o.isSome else !o.isSome
def matchB (l : List Rq) (ls : List Lb) : Bool := l.all fun r => holdsB r (stateB ls r.1)
def matchE (l : List Rq) (ls : List Lb) : Bool × Int := if chkI l ≠ 0 then (false, chkI l) else if labelsI ls ≠ 0 then (false, labelsI ls) else (matchB l ls, 0)
theorem matchE_chk {l : List Rq} {ls : List Lb} (h : chkI l ≠ 0) : matchE l ls = (false, chkI l) := by rw [matchE, if_pos h]
theorem matchE_labs {l : List Rq} {ls : List Lb} (h : chkI l = 0) (g : labelsI ls ≠ 0) : matchE l ls = (false, labelsI ls) := by rw [matchE, if_neg (by simp [h]), if_pos g]
theorem matchE_ok {l : List Rq} {ls : List Lb} (h : chkI l = 0) (g : labelsI ls = 0) : matchE l ls = (matchB l ls, 0) := by rw [matchE, if_neg (by simp [h]), if_neg (by simp [g])]
theorem chk_ok {l : List Rq} : chkI l = 0 ↔ l.length ≤ 8 ∧ ∀ r ∈ l, partI r = 0 := by
  unfold chkI
  by_cases h : 8 < l.length
  · rw [if_pos h]; constructor
    · intro h'; omega
    · intro h'; omega
  · rw [if_neg h, firstE_zero]
    constructor
    · exact fun g => ⟨by omega, g⟩
    · exact fun g => g.2
theorem part_ok {r : Rq} : partI r = 0 ↔ kI r.1 = 0 ∧ fitsB r.2.1 r.2.2.length = true ∧ r.2.2.length ≤ 8 ∧ ∀ v ∈ r.2.2, vI v = 0 := by
  unfold partI
  by_cases h1 : kI r.1 = 0
  · rw [if_neg (by simp [h1])]
    cases h2 : fitsB r.2.1 r.2.2.length with
    | false => simp
    | true =>
      rw [if_neg (by simp)]
      by_cases h3 : 8 < r.2.2.length
      · rw [if_pos h3]; constructor
        · intro h; omega
        · intro h; omega
      · rw [if_neg h3, firstE_zero]
        constructor
        · exact fun g => ⟨h1, rfl, by omega, g⟩
        · exact fun g => g.2.2.2
  · rw [if_pos h1]
    constructor
    · exact fun g => absurd g h1
    · exact fun g => absurd g.1 h1
/-- the opposite of a part -/
def oppK (k : Int) : Int := if k = 1 ∨ k = 3 then k + 1 else if k = 2 ∨ k = 4 then k - 1 else k
def oppR (r : Rq) : Rq := (r.1, oppK r.2.1, r.2.2)
theorem fits_opp (k : Int) (n : Nat) : fitsB (oppK k) n = fitsB k n := by
  unfold oppK
  by_cases h1 : k = 1
  · subst h1; rfl
  by_cases h2 : k = 2
  · subst h2; rfl
  by_cases h3 : k = 3
  · subst h3; rfl
  by_cases h4 : k = 4
  · subst h4; rfl
  rw [if_neg (by omega), if_neg (by omega)]
theorem part_opp (r : Rq) : partI (oppR r) = partI r := by
  unfold partI oppR
  simp only [fits_opp]
theorem fits_kind {k : Int} {n : Nat} (h : fitsB k n = true) : k = 1 ∨ k = 2 ∨ k = 3 ∨ k = 4 := by
  simp only [fitsB, Bool.or_eq_true, Bool.and_eq_true, decide_eq_true_eq] at h
  omega
theorem holds_opp {r : Rq} (h : r.2.1 = 1 ∨ r.2.1 = 2 ∨ r.2.1 = 3 ∨ r.2.1 = 4) (o : Option Bs) : holdsB (oppR r) o = !holdsB r o := by
  obtain ⟨a, k, vs⟩ := r
  simp only at h
  rcases h with rfl | rfl | rfl | rfl <;> cases o <;> simp [holdsB, oppR, oppK]
theorem chk_opp (r : Rq) : chkI [oppR r] = chkI [r] := by
  unfold chkI
  rw [if_neg (by simp), if_neg (by simp), firstE, firstE, part_opp]
  simp [firstE]
theorem match_one (r : Rq) (ls : List Lb) : matchB [r] ls = holdsB r (stateB ls r.1) := by simp [matchB]
theorem not_law (r : Rq) (ls : List Lb) : if (matchE [r] ls).2 ≠ 0 ∨ (matchE [oppR r] ls).2 ≠ 0 then (matchE [r] ls).2 = (matchE [oppR r] ls).2 ∧ (matchE [r] ls).1 = false ∧ (matchE [oppR r] ls).1 = false else (matchE [r] ls).1 ≠ (matchE [oppR r] ls).1 := by
  by_cases h : chkI [r] = 0
  · by_cases g : labelsI ls = 0
    · rw [matchE_ok h g, matchE_ok (by rw [chk_opp]; exact h) g, if_neg (by simp)]
      have hk := fits_kind (part_ok.1 ((chk_ok.1 h).2 r (by simp))).2.1
      simp only [match_one]
      rw [holds_opp hk, show (oppR r).1 = r.1 from rfl]
      cases holdsB r (stateB ls r.1) <;> simp
    · rw [matchE_labs h g, matchE_labs (by rw [chk_opp]; exact h) g, if_pos (by simp [g])]
      simp
  · rw [matchE_chk h, matchE_chk (by rw [chk_opp]; exact h), if_pos (by simp [h]), chk_opp]
    simp
theorem chk_append_bad {l m : List Rq} (h : chkI l ≠ 0 ∨ chkI m ≠ 0) : chkI (l ++ m) ≠ 0 := by
  intro g
  obtain ⟨g1, g2⟩ := chk_ok.1 g
  rw [List.length_append] at g1
  rcases h with h | h
  · exact h (chk_ok.2 ⟨by omega, fun r hr => g2 r (by simp [hr])⟩)
  · exact h (chk_ok.2 ⟨by omega, fun r hr => g2 r (by simp [hr])⟩)
theorem chk_append_ok {l m : List Rq} (h : chkI l = 0) (g : chkI m = 0) (n : (l ++ m).length ≤ 8) : chkI (l ++ m) = 0 := by
  refine chk_ok.2 ⟨n, fun r hr => ?_⟩
  rcases List.mem_append.1 hr with hr | hr
  · exact (chk_ok.1 h).2 r hr
  · exact (chk_ok.1 g).2 r hr
theorem chk_rev (l : List Rq) (h : chkI l = 0) : chkI l.reverse = 0 := by
  obtain ⟨h1, h2⟩ := chk_ok.1 h
  exact chk_ok.2 ⟨by simpa using h1, fun r hr => h2 r (by simpa using hr)⟩
theorem and_bad (l m : List Rq) (ls : List Lb) (h : (matchE l ls).2 ≠ 0 ∨ (matchE m ls).2 ≠ 0 ∨ 8 < (l ++ m).length) : (matchE (l ++ m) ls).2 ≠ 0 ∧ (matchE (l ++ m) ls).1 = false := by
  by_cases c : chkI (l ++ m) = 0
  · have cl : chkI l = 0 := Classical.byContradiction fun x => chk_append_bad (Or.inl x) c
    have cm : chkI m = 0 := Classical.byContradiction fun x => chk_append_bad (Or.inr x) c
    have n := (chk_ok.1 c).1
    by_cases g : labelsI ls = 0
    · rw [matchE_ok cl g, matchE_ok cm g] at h
      rcases h with h | h | h
      · exact absurd rfl h
      · exact absurd rfl h
      · omega
    · rw [matchE_labs c g]
      exact ⟨g, rfl⟩
  · rw [matchE_chk c]
    exact ⟨c, rfl⟩
theorem and_ok (l m : List Rq) (ls : List Lb) (h : (matchE l ls).2 = 0) (g : (matchE m ls).2 = 0) (n : (l ++ m).length ≤ 8) :
    matchE (l ++ m) ls = ((matchE l ls).1 && (matchE m ls).1, 0) ∧ matchE (l ++ m).reverse ls = ((matchE l ls).1 && (matchE m ls).1, 0) := by
  have cl : chkI l = 0 := Classical.byContradiction fun x => by rw [matchE_chk x] at h; exact x h
  have cm : chkI m = 0 := Classical.byContradiction fun x => by rw [matchE_chk x] at g; exact x g
  have gl : labelsI ls = 0 := Classical.byContradiction fun x => by rw [matchE_labs cl x] at h; exact x h
  have c := chk_append_ok cl cm n
  rw [matchE_ok cl gl, matchE_ok cm gl, matchE_ok c gl, matchE_ok (chk_rev _ c) gl]
  constructor
  · simp [matchB]
  · simp only [matchB, List.all_reverse, List.all_append]
end Go.Proofs.YtgaopmdpcjcooaaGreatDoor
