/- Several texts in one: Doc, DocQuote, DocNum, Order, DocGood. -/
import Derived.WalkKit
import Derived.Lib.ItoaNum
import Derived.Lib.ParseIntB
import Derived.Lib.Bytealg
import Derived.Lib.ParseIntBCases
/- Plain functions on bytes: what a document's values are, how they are told, and how a text is read; of no program. -/
namespace Go.Proofs.YtmleekpghdfdgabDoor
abbrev Bs := List UInt8
/-- null, a bool, a number, a text -/
abbrev Leaf := Option (Sum Bool (Sum Int Bs))
/-- a value with at most n lists and objects in one another -/
def J : Nat → Type
  | 0 => Leaf
  | n + 1 => Sum Leaf (Sum (List (J n)) (List (Bs × J n)))
def leaf : (n : Nat) → Leaf → J n
  | 0, l => l
  | _ + 1, l => Sum.inl l
/-! How a value is told. -/
def quoteB (c : UInt8) : Bs := if c = 10 then [92, 110] else if c = 9 then [92, 116] else if c = 34 ∨ c = 92 then [92, c] else [c]
def quote (s : Bs) : Bs := 34 :: (s.flatMap quoteB ++ [34])
def nullB : Bs := [110, 117, 108, 108]
def trueB : Bs := [116, 114, 117, 101]
def falseB : Bs := [102, 97, 108, 115, 101]
def tellLeaf : Leaf → Bs
  | none => nullB
  | some (Sum.inl true) => trueB
  | some (Sum.inl false) => falseB
  | some (Sum.inr (Sum.inl i)) => Lib.itoa i
  | some (Sum.inr (Sum.inr s)) => quote s
def commas : List Bs → Bs
  | [] => []
  | [x] => x
  | x :: y :: r => x ++ 44 :: commas (y :: r)
def tell : (n : Nat) → J n → Bs
  | 0, l => tellLeaf l
  | _ + 1, Sum.inl l => tellLeaf l
  | n + 1, Sum.inr (Sum.inl xs) => 91 :: (commas (xs.map (tell n)) ++ [93])
  | n + 1, Sum.inr (Sum.inr fs) => 123 :: (commas (fs.map fun f => quote f.1 ++ 58 :: tell n f.2) ++ [125])
/-! How many values there are, how deep they lie, of which kind a value is. -/
def nodes : (n : Nat) → J n → Nat
  | 0, _ => 1
  | _ + 1, Sum.inl _ => 1
  | n + 1, Sum.inr (Sum.inl xs) => 1 + (xs.map (nodes n)).sum
  | n + 1, Sum.inr (Sum.inr fs) => 1 + (fs.map fun f => nodes n f.2).sum
def maxOf : List Nat → Nat
  | [] => 0
  | x :: r => max x (maxOf r)
def depth : (n : Nat) → J n → Nat
  | 0, _ => 0
  | _ + 1, Sum.inl _ => 0
  | n + 1, Sum.inr (Sum.inl xs) => 1 + maxOf (xs.map (depth n))
  | n + 1, Sum.inr (Sum.inr fs) => 1 + maxOf (fs.map fun f => depth n f.2)
def kindLeaf : Leaf → Nat
  | none => 1
  | some (Sum.inl _) => 2
  | some (Sum.inr (Sum.inl _)) => 3
  | some (Sum.inr (Sum.inr _)) => 4
def kindJ : (n : Nat) → J n → Nat
  | 0, l => kindLeaf l
  | _ + 1, Sum.inl l => kindLeaf l
  | _ + 1, Sum.inr (Sum.inl _) => 5
  | _ + 1, Sum.inr (Sum.inr _) => 6
/-! How a text is read: what is left of it is handed on. -/
def blank (c : UInt8) : Bool := c == 32 || (c == 10 || c == 9)
def skip : Bs → Bs
  | [] => []
  | c :: r => if blank c then skip r else c :: r
def hd (r : Bs) : UInt8 := r.headD 0
abbrev eLarge : Nat := 2
abbrev eSyntax : Nat := 3
abbrev eDeep : Nat := 4
abbrev eTwice : Nat := 5
def opens : Bs := [110, 116, 102, 34, 91, 123, 45, 48, 49, 50, 51, 52, 53, 54, 55, 56, 57]
/-- what is wrong where a value begins (0: nothing) -/
def beginE (n k : Nat) (r : Bs) : Nat :=
  if ¬ hd r ∈ opens then eSyntax else if 200 ≤ k then eLarge else if n = 0 ∧ (hd r = 91 ∨ hd r = 123) then eDeep else 0
def isDigit (c : UInt8) : Bool := decide (48 ≤ c) && decide (c ≤ 57)
def word (w r : Bs) (l : Leaf) : Except Nat (Leaf × Bs) := if w.isPrefixOf r then .ok (l, r.drop w.length) else .error eSyntax
/-- what digits say -/
def decV (ds : Bs) : Nat := ds.foldl (fun n c => 10 * n + (c.toNat - 48)) 0
def numVal (below : Bool) (ds : Bs) : Int := if below then -(decV ds : Int) else (decV ds : Int)
def number (r : Bs) : Except Nat (Leaf × Bs) :=
  let below := hd r == 45
  let r1 := if below then r.tail else r
  let ds := r1.takeWhile isDigit
  if ds = [] then .error eSyntax
  else if hd ds = 48 ∧ (below = true ∨ 1 < ds.length) then .error eSyntax
  else if 18 < ds.length then .error eLarge
  else .ok (some (Sum.inr (Sum.inl (numVal below ds))), r1.dropWhile isDigit)
def meaning (c : UInt8) : UInt8 := if c = 34 ∨ c = 92 then c else if c = 110 then 10 else if c = 116 then 9 else 0
def plain (c : UInt8) : Bool := decide (32 ≤ c) && decide (c ≤ 126)
/-- a text, behind its first sign: what it means, and what is left behind its last one -/
def signs : Bs → Option (Bs × Bs)
  | [] => none
  | c :: r =>
    if c = 34 then some ([], r)
    else if c = 92 then
      match r with
      | [] => none
      | d :: r' => if meaning d = 0 then none else (signs r').map fun p => (meaning d :: p.1, p.2)
    else if plain c then (signs r).map fun p => (c :: p.1, p.2)
    else none
def quoted (r : Bs) : Option (Bs × Bs) := if hd r = 34 then signs r.tail else none
def textE (r : Bs) : Except Nat (Leaf × Bs) :=
  match quoted r with
  | none => .error eSyntax
  | some p => .ok (some (Sum.inr (Sum.inr p.1)), p.2)
def leafE (r : Bs) : Except Nat (Leaf × Bs) :=
  if hd r = 110 then word nullB r none
  else if hd r = 116 then word trueB r (some (Sum.inl true))
  else if hd r = 102 then word falseB r (some (Sum.inl false))
  else if hd r = 34 then textE r
  else number r
/-- from a row's first part on to the sign that ends it -/
def rowGo {σ : Type} (z : UInt8) (one : σ → Nat → Bs → Except Nat (σ × Nat × Bs)) : Nat → σ → Nat → Bs → Except Nat (σ × Nat × Bs)
  | 0, _, _, _ => .error eSyntax
  | f + 1, s, k, r =>
    match one s k r with
    | .error e => .error e
    | .ok (s', k', r1) =>
      if hd (skip r1) = z then .ok (s', k', (skip r1).tail)
      else if hd (skip r1) = 44 then rowGo z one f s' k' (skip r1).tail
      else .error eSyntax
def row {σ : Type} (z : UInt8) (one : σ → Nat → Bs → Except Nat (σ × Nat × Bs)) (s : σ) (k : Nat) (r : Bs) : Except Nat (σ × Nat × Bs) :=
  if hd (skip r.tail) = z then .ok (s, k, (skip r.tail).tail) else rowGo z one (r.length + 1) s k (skip r.tail)
def oneItem {α : Type} (pv : Nat → Bs → Except Nat (α × Nat × Bs)) (s : List α) (k : Nat) (r : Bs) : Except Nat (List α × Nat × Bs) :=
  match pv k r with
  | .error e => .error e
  | .ok (v, k', r') => .ok (s ++ [v], k', r')
def less (a b : Bs) : Bool := decide (Lib.compareBytes a b < 0)
def insertAt {α : Type} (fs : List (Bs × α)) (nm : Bs) (v : α) : List (Bs × α) := fs.takeWhile (fun f => less f.1 nm) ++ (nm, v) :: fs.dropWhile (fun f => less f.1 nm)
def nameE {α : Type} (fs : List (Bs × α)) (r : Bs) : Except Nat (Bs × Bs) :=
  match quoted (skip r) with
  | none => .error eSyntax
  | some p =>
    if fs.any (fun f => f.1 == p.1) then .error eTwice
    else if hd (skip p.2) = 58 then .ok (p.1, (skip p.2).tail)
    else .error eSyntax
def oneField {α : Type} (pv : Nat → Bs → Except Nat (α × Nat × Bs)) (s : List (Bs × α)) (k : Nat) (r : Bs) : Except Nat (List (Bs × α) × Nat × Bs) :=
  match nameE s r with
  | .error e => .error e
  | .ok (nm, r1) =>
    match pv k r1 with
    | .error e => .error e
    | .ok (v, k', r') => .ok (insertAt s nm v, k', r')
def leafAt (n k : Nat) (r : Bs) : Except Nat (J n × Nat × Bs) :=
  match leafE r with
  | .error e => .error e
  | .ok (l, r') => .ok (leaf n l, k + 1, r')
def value : (n : Nat) → Nat → Bs → Except Nat (J n × Nat × Bs)
  | 0, k, r => if beginE 0 k (skip r) ≠ 0 then .error (beginE 0 k (skip r)) else leafAt 0 k (skip r)
  | n + 1, k, r =>
    if beginE (n + 1) k (skip r) ≠ 0 then .error (beginE (n + 1) k (skip r))
    else if hd (skip r) = 91 then
      match row 93 (oneItem (value n)) [] (k + 1) (skip r) with
      | .error e => .error e
      | .ok (s, k', r') => .ok (Sum.inr (Sum.inl s), k', r')
    else if hd (skip r) = 123 then
      match row 125 (oneField (value n)) [] (k + 1) (skip r) with
      | .error e => .error e
      | .ok (s, k', r') => .ok (Sum.inr (Sum.inr s), k', r')
    else leafAt (n + 1) k (skip r)
/-- what a text has, or what is wrong with it -/
def read (s : Bs) : Except Nat (J 10) :=
  if 2000 < s.length then .error eLarge
  else match value 10 0 s with
    | .error e => .error e
    | .ok (j, _, r) => if skip r = [] then .ok j else .error eSyntax
end Go.Proofs.YtmleekpghdfdgabDoor
/- Plain facts on texts: a text that is quoted reads as itself. -/
namespace Go.Proofs.YtmleekpghdfdgabDoor
/-- may the byte stand in a text that is meant? -/
def meant (c : UInt8) : Bool := plain c || (c == 10 || c == 9)
theorem meaning_meant (d : UInt8) (h : ¬ meaning d = 0) : meant (meaning d) = true ∧ (quoteB (meaning d)).length ≤ 2 := by
  unfold meaning at h ⊢
  split at h
  · rename_i h1
    rw [if_pos h1]
    rcases h1 with rfl | rfl <;> decide
  · rename_i h1
    rw [if_neg h1]
    split at h
    · rename_i h2
      rw [if_pos h2]
      decide
    · rename_i h2
      rw [if_neg h2]
      split at h
      · rename_i h3
        rw [if_pos h3]
        decide
      · exact absurd rfl h
theorem plain_meant (c : UInt8) (h34 : ¬ c = 34) (h92 : ¬ c = 92) (hp : plain c = true) : meant c = true ∧ (quoteB c).length ≤ 1 := by
  refine ⟨by simp [meant, hp], ?_⟩
  have h10 : c ≠ 10 := by intro e; subst e; revert hp; decide
  have h9 : c ≠ 9 := by intro e; subst e; revert hp; decide
  simp [quoteB, h10, h9, h34, h92]
theorem signs_nil : signs [] = none := by rw [signs.eq_def]
theorem signs_cons (c : UInt8) (r : Bs) : signs (c :: r) = if c = 34 then some ([], r)
    else if c = 92 then
      match r with
      | [] => none
      | d :: r' => if meaning d = 0 then none else (signs r').map fun p => (meaning d :: p.1, p.2)
    else if plain c then (signs r).map fun p => (c :: p.1, p.2)
    else none := by
  rw [signs.eq_def]
  rfl
theorem quoteB_cases (c : UInt8) (h : meant c = true) : (quoteB c = [c] ∧ c ≠ 34 ∧ c ≠ 92 ∧ plain c = true) ∨ ∃ d, quoteB c = [92, d] ∧ meaning d = c ∧ c ≠ 0 := by
  by_cases h10 : c = 10
  · subst h10; exact Or.inr ⟨110, by decide⟩
  by_cases h9 : c = 9
  · subst h9; exact Or.inr ⟨116, by decide⟩
  by_cases h34 : c = 34
  · subst h34; exact Or.inr ⟨34, by decide⟩
  by_cases h92 : c = 92
  · subst h92; exact Or.inr ⟨92, by decide⟩
  refine Or.inl ⟨by simp [quoteB, h10, h9, h34, h92], h34, h92, ?_⟩
  simpa [meant, h10, h9] using h
theorem signs_quoteB (c : UInt8) (h : meant c = true) (r : Bs) : signs (quoteB c ++ r) = (signs r).map fun p => (c :: p.1, p.2) := by
  rcases quoteB_cases c h with ⟨e, h1, h2, h3⟩ | ⟨d, e, hm, h0⟩
  · rw [e]
    show signs (c :: r) = _
    rw [signs_cons]
    simp only [h1, h2, h3, if_true, if_false]
  · rw [e]
    show signs (92 :: d :: r) = _
    rw [signs_cons]
    simp [hm, h0]
theorem signs_quote : ∀ (s : Bs) (_ : ∀ c ∈ s, meant c = true) (r : Bs), signs (s.flatMap quoteB ++ 34 :: r) = some (s, r)
  | [], _, r => by simp [signs_cons]
  | c :: s, h, r => by
    rw [List.flatMap_cons, List.append_assoc, signs_quoteB c (h c (by simp)), signs_quote s (fun d hd => h d (by simp [hd])) r]
    rfl
theorem quoted_quote (s : Bs) (h : ∀ c ∈ s, meant c = true) (r : Bs) : quoted (quote s ++ r) = some (s, r) := by
  have : quote s ++ r = 34 :: (s.flatMap quoteB ++ 34 :: r) := by simp [quote]
  rw [this, quoted]
  simp only [hd, List.headD_cons, List.tail_cons, if_true]
  exact signs_quote s h r
theorem quote_inj {a b : Bs} (ha : ∀ c ∈ a, meant c = true) (hb : ∀ c ∈ b, meant c = true) (h : quote a = quote b) : a = b := by
  have h1 := quoted_quote a ha []
  have h2 := quoted_quote b hb []
  rw [h, h2] at h1
  simpa using h1.symm
theorem signs_meant : ∀ (n : Nat) (r : Bs) (_ : r.length ≤ n) (p : Bs × Bs), signs r = some p → (∀ c ∈ p.1, meant c = true) ∧ (p.1.flatMap quoteB).length + p.2.length < r.length
  | 0, [], _, p, h => by simp [signs_nil] at h
  | 0, _ :: _, hn, _, _ => by simp at hn
  | _ + 1, [], _, p, h => by simp [signs_nil] at h
  | n + 1, c :: r, hn, p, h => by
    rw [signs_cons] at h
    have hn' : r.length ≤ n := by simpa using hn
    split at h
    · cases h; simp
    · rename_i h34
      split at h
      · split at h
        · cases h
        · rename_i d r'
          split at h
          · cases h
          · rename_i hm
            cases hs : signs r' with
            | none => rw [hs] at h; cases h
            | some q =>
              rw [hs] at h
              cases h
              have ih := signs_meant n r' (by simp at hn'; omega) q hs
              have hd := meaning_meant d hm
              refine ⟨fun c hc => ?_, ?_⟩
              · rcases List.mem_cons.1 hc with rfl | hc
                · exact hd.1
                · exact ih.1 c hc
              · simp only [List.flatMap_cons, List.length_append, List.length_cons]
                have := ih.2
                omega
      · rename_i h92
        split at h
        · rename_i hp
          cases hs : signs r with
          | none => rw [hs] at h; cases h
          | some q =>
            rw [hs] at h
            cases h
            have ih := signs_meant n r hn' q hs
            have hd := plain_meant c h34 h92 hp
            refine ⟨fun c hc => ?_, ?_⟩
            · rcases List.mem_cons.1 hc with rfl | hc
              · exact hd.1
              · exact ih.1 c hc
            · simp only [List.flatMap_cons, List.length_append, List.length_cons]
              have := ih.2
              omega
        · cases h
theorem quoted_meant {r : Bs} {p : Bs × Bs} (h : quoted r = some p) : (∀ c ∈ p.1, meant c = true) ∧ (quote p.1).length + p.2.length ≤ r.length := by
  unfold quoted at h
  split at h
  · cases r with
    | nil => simp [signs_nil] at h
    | cons c r =>
      have := signs_meant r.length r (Nat.le_refl _) p h
      refine ⟨this.1, ?_⟩
      simp only [quote, List.length_cons, List.length_append, List.length_nil]
      have := this.2
      omega
  · cases h
end Go.Proofs.YtmleekpghdfdgabDoor
/- Plain facts on numbers: digits that are read, and what they say. -/
namespace Go.Proofs.YtmleekpghdfdgabDoor
set_option linter.unusedVariables false
set_option linter.unusedSimpArgs false
theorem numVal_eq (below : Bool) (ds : Bs) : numVal below ds = if below then -(decV ds : Int) else (decV ds : Int) := rfl
theorem digit_iff (c : UInt8) : isDigit c = true ↔ 48 ≤ c.toNat ∧ c.toNat ≤ 57 := by
  unfold isDigit
  simp only [Bool.and_eq_true, decide_eq_true_eq, UInt8.le_iff_toNat_le]
  exact Iff.rfl
theorem foldl_lt : ∀ (ds : Bs) (a k : Nat), (∀ c ∈ ds, isDigit c = true) → a < 10 ^ k → ds.foldl (fun n c => 10 * n + (c.toNat - 48)) a < 10 ^ (k + ds.length)
  | [], a, k, _, ha => by simpa using ha
  | c :: ds, a, k, h, ha => by
    have hc := (digit_iff c).1 (h c (by simp))
    have := foldl_lt ds (10 * a + (c.toNat - 48)) (k + 1) (fun d hd => h d (by simp [hd])) (by rw [Nat.pow_succ]; omega)
    rw [List.foldl_cons, List.length_cons]
    rw [show k + (ds.length + 1) = k + 1 + ds.length by omega]
    exact this
theorem decV_lt (ds : Bs) (h : ∀ c ∈ ds, isDigit c = true) : decV ds < 10 ^ ds.length := by
  have := foldl_lt ds 0 0 h (by simp)
  simpa [decV] using this
theorem parseM_ok : ∀ (ds : Bs) (a k M : Nat), (∀ c ∈ ds, isDigit c = true) → a < 10 ^ k → k + ds.length ≤ 18 → 10 ^ 18 ≤ M → Lib.parseUintM M a ds = .ok (ds.foldl (fun n c => 10 * n + (c.toNat - 48)) a)
  | [], a, k, M, _, ha, hk, hM => by simp [Lib.parseUintM]
  | c :: ds, a, k, M, h, ha, hk, hM => by
    have hc := (digit_iff c).1 (h c (by simp))
    have hlt : 10 * a + (c.toNat - 48) < 10 ^ (k + 1) := by rw [Nat.pow_succ]; omega
    have hle : 10 ^ (k + 1) ≤ 10 ^ 18 := Nat.pow_le_pow_right (by decide) (by simp at hk; omega)
    have ih := parseM_ok ds (10 * a + (c.toNat - 48)) (k + 1) M (fun d hd => h d (by simp [hd])) hlt (by simp at hk ⊢; omega) hM
    unfold Lib.parseUintM
    have h10 : 10 ^ k ≤ 10 ^ 17 := Nat.pow_le_pow_right (by decide) (by simp at hk; omega)
    rw [if_pos hc, if_neg (by omega), if_neg (by omega), Nat.mul_comm a 10, ih]
    rfl
theorem parse_ok (below : Bool) (ds : Bs) (h : ∀ c ∈ ds, isDigit c = true) (h0 : ds ≠ []) (h18 : ds.length ≤ 18) :
    Lib.parseIntB 64 ((if below then [45] else []) ++ ds) = .ok (numVal below ds) := by
  have hu : Lib.parseUintB 64 ds = .ok (decV ds) := by
    unfold Lib.parseUintB
    rw [if_neg h0]
    exact parseM_ok ds 0 0 _ h (by simp) (by omega) (by decide)
  have hlt := decV_lt ds h
  have hle : 10 ^ ds.length ≤ 10 ^ 18 := Nat.pow_le_pow_right (by decide) h18
  have hb : decV ds < 2 ^ 63 := by omega
  cases below with
  | true =>
    show Lib.parseIntB 64 (45 :: ds) = _
    rw [Lib.parseIntB_minus, hu]
    show (if 2 ^ 63 < decV ds then _ else _) = _
    rw [if_neg (by omega)]
    rfl
  | false =>
    show Lib.parseIntB 64 ds = _
    cases ds with
    | nil => exact absurd rfl h0
    | cons c r =>
      have hc := (digit_iff c).1 (h c (by simp))
      rw [Lib.parseIntB_plain 64 c r (by omega) (by omega), hu]
      show (if 2 ^ 63 ≤ decV (c :: r) then _ else _) = _
      rw [if_neg (by omega)]
      rfl
end Go.Proofs.YtmleekpghdfdgabDoor
/- Plain facts on the order of names, and on fields that rise by their names. -/
namespace Go.Proofs.YtmleekpghdfdgabDoor
set_option linter.unusedVariables false
set_option linter.unusedSimpArgs false
theorem cmp_self : ∀ a : Bs, Lib.compareBytes a a = 0
  | [] => rfl
  | x :: a => by
    rw [Lib.compareBytes, if_neg (UInt8.lt_irrefl x), if_neg (UInt8.lt_irrefl x)]
    exact cmp_self a
theorem cmp_vals : ∀ a b : Bs, Lib.compareBytes a b = 0 ∨ Lib.compareBytes a b = 1 ∨ Lib.compareBytes a b = -1
  | [], [] => Or.inl rfl
  | [], _ :: _ => Or.inr (Or.inr rfl)
  | _ :: _, [] => Or.inr (Or.inl rfl)
  | x :: a, y :: b => by
    rw [Lib.compareBytes]
    split
    · exact Or.inr (Or.inr rfl)
    · split
      · exact Or.inr (Or.inl rfl)
      · exact cmp_vals a b
theorem cmp_eq : ∀ a b : Bs, Lib.compareBytes a b = 0 → a = b
  | [], [], _ => rfl
  | [], _ :: _, h => by rw [Lib.compareBytes] at h; omega
  | _ :: _, [], h => by rw [Lib.compareBytes] at h; omega
  | x :: a, y :: b, h => by
    rw [Lib.compareBytes] at h
    split at h
    · omega
    · split at h
      · omega
      · rename_i h1 h2
        have e : x = y := UInt8.toNat_inj.1 (by rw [UInt8.lt_iff_toNat_lt] at h1 h2; omega)
        rw [e, cmp_eq a b h]
theorem cmp_swap : ∀ a b : Bs, Lib.compareBytes b a = - Lib.compareBytes a b
  | [], [] => rfl
  | [], _ :: _ => rfl
  | _ :: _, [] => rfl
  | x :: a, y :: b => by
    rw [Lib.compareBytes, Lib.compareBytes]
    by_cases h1 : x < y
    · have h2 : ¬ y < x := by rw [UInt8.lt_iff_toNat_lt] at h1 ⊢; omega
      simp [h1, h2]
    · by_cases h2 : y < x
      · simp [h1, h2]
      · simp [h1, h2]
        exact cmp_swap a b
theorem cmp_trans : ∀ a b c : Bs, Lib.compareBytes a b < 0 → Lib.compareBytes b c < 0 → Lib.compareBytes a c < 0
  | [], [], _, h, _ => by rw [Lib.compareBytes] at h; omega
  | [], _ :: _, [], _, h => by rw [Lib.compareBytes] at h; omega
  | [], _ :: _, _ :: _, _, _ => by rw [Lib.compareBytes]; omega
  | _ :: _, [], _, h, _ => by rw [Lib.compareBytes] at h; omega
  | _ :: _, _ :: _, [], _, h => by rw [Lib.compareBytes] at h; omega
  | x :: a, y :: b, z :: c, h, g => by
    rw [Lib.compareBytes] at h g ⊢
    simp only [UInt8.lt_iff_toNat_lt] at h g ⊢
    by_cases h1 : x.toNat < y.toNat
    · by_cases g1 : y.toNat < z.toNat
      · rw [if_pos (by omega)]; omega
      · rw [if_neg g1] at g
        by_cases g2 : z.toNat < y.toNat
        · rw [if_pos g2] at g; omega
        · rw [if_pos (by omega)]; omega
    · rw [if_neg h1] at h
      by_cases h2 : y.toNat < x.toNat
      · rw [if_pos h2] at h; omega
      · rw [if_neg h2] at h
        by_cases g1 : y.toNat < z.toNat
        · rw [if_pos (by omega)]; omega
        · rw [if_neg g1] at g
          by_cases g2 : z.toNat < y.toNat
          · rw [if_pos g2] at g; omega
          · rw [if_neg g2] at g
            rw [if_neg (by omega), if_neg (by omega)]
            exact cmp_trans a b c h g
theorem less_iff (a b : Bs) : less a b = true ↔ Lib.compareBytes a b < 0 := by simp [less]
/-- the fields rise by their names -/
def Rising {α : Type} (fs : List (Bs × α)) : Prop := fs.Pairwise fun f g => less f.1 g.1 = true
/-- where the field of a name is, or would be -/
def placeOfName {α : Type} (fs : List (Bs × α)) (nm : Bs) : Nat := (fs.takeWhile fun f => less f.1 nm).length
theorem place_le {α : Type} (fs : List (Bs × α)) (nm : Bs) : placeOfName fs nm ≤ fs.length := (List.takeWhile_sublist _).length_le
theorem place_of {α : Type} : ∀ (fs : List (Bs × α)) (nm : Bs) (i : Nat), i ≤ fs.length → (∀ (x : Nat) (f : Bs × α), x < i → fs[x]? = some f → less f.1 nm = true) → (∀ (f : Bs × α), fs[i]? = some f → less f.1 nm = false) → placeOfName fs nm = i
  | [], nm, i, hi, _, _ => by simp at hi; subst hi; rfl
  | f :: fs, nm, 0, _, _, h2 => by
    have := h2 f rfl
    unfold placeOfName
    rw [List.takeWhile_cons, if_neg (by simp [this])]
    rfl
  | f :: fs, nm, i + 1, hi, h1, h2 => by
    have h0 := h1 0 f (by omega) rfl
    have ih := place_of fs nm i (by simpa using hi) (fun x g hx hg => h1 (x + 1) g (by omega) (by simpa using hg)) (fun g hg => h2 g (by simpa using hg))
    unfold placeOfName at ih ⊢
    rw [List.takeWhile_cons, if_pos h0, List.length_cons, ih]
theorem insert_eq {α : Type} (fs : List (Bs × α)) (nm : Bs) (v : α) : insertAt fs nm v = fs.take (placeOfName fs nm) ++ (nm, v) :: fs.drop (placeOfName fs nm) := by
  unfold insertAt placeOfName
  have h := List.takeWhile_append_dropWhile (p := fun f : Bs × α => less f.1 nm) (l := fs)
  have h1 : fs.take (fs.takeWhile fun f => less f.1 nm).length = fs.takeWhile fun f => less f.1 nm := (List.prefix_iff_eq_take.1 (List.takeWhile_prefix _)).symm
  have h2 : fs.drop (fs.takeWhile fun f => less f.1 nm).length = fs.dropWhile fun f => less f.1 nm := by
    have e : fs.drop (fs.takeWhile fun f => less f.1 nm).length = ((fs.takeWhile fun f => less f.1 nm) ++ fs.dropWhile fun f => less f.1 nm).drop (fs.takeWhile fun f => less f.1 nm).length := by rw [h]
    rw [e, List.drop_left]
  rw [h1, h2]
theorem rising_get {α : Type} {fs : List (Bs × α)} (h : Rising fs) {i j : Nat} {f g : Bs × α} (hij : i < j) (hf : fs[i]? = some f) (hg : fs[j]? = some g) : less f.1 g.1 = true := by
  obtain ⟨hi, rfl⟩ := List.getElem?_eq_some_iff.1 hf
  obtain ⟨hj, rfl⟩ := List.getElem?_eq_some_iff.1 hg
  exact List.pairwise_iff_getElem.1 h i j hi hj hij
theorem place_spec {α : Type} (fs : List (Bs × α)) (nm : Bs) : (∀ (x : Nat) (f : Bs × α), x < placeOfName fs nm → fs[x]? = some f → less f.1 nm = true) ∧ ∀ (f : Bs × α), fs[placeOfName fs nm]? = some f → less f.1 nm = false := by
  induction fs with
  | nil => exact ⟨fun x f _ h => by simp at h, fun f h => by simp at h⟩
  | cons f fs ih =>
    unfold placeOfName
    rw [List.takeWhile_cons]
    split
    · rename_i hl
      refine ⟨fun x g hx hg => ?_, fun g hg => ?_⟩
      · cases x with
        | zero => simp at hg; subst hg; exact hl
        | succ x => exact ih.1 x g (by simpa [placeOfName] using hx) (by simpa using hg)
      · exact ih.2 g (by simpa [placeOfName] using hg)
    · rename_i hl
      refine ⟨fun x g hx hg => by simp at hx, fun g hg => ?_⟩
      simp at hg
      subst hg
      simpa using hl
/-- there is a field of that name just if it is at that place -/
theorem any_place {α : Type} {fs : List (Bs × α)} (h : Rising fs) (nm : Bs) : (fs.any fun f => f.1 == nm) = (match fs[placeOfName fs nm]? with | none => false | some f => decide (Lib.compareBytes f.1 nm = 0)) := by
  have hs := place_spec fs nm
  rw [Bool.eq_iff_iff, List.any_eq_true]
  constructor
  · rintro ⟨f, hf, he⟩
    obtain ⟨x, hx, rfl⟩ := List.getElem_of_mem hf
    have he' : fs[x].1 = nm := by simpa using he
    have hx' : fs[x]? = some fs[x] := List.getElem?_eq_getElem hx
    have hge : placeOfName fs nm ≤ x := by
      rcases Nat.lt_or_ge x (placeOfName fs nm) with h' | h'
      · have := hs.1 x _ h' hx'
        rw [he', less_iff, cmp_self] at this
        omega
      · exact h'
    have hle : x ≤ placeOfName fs nm := by
      rcases Nat.lt_or_ge (placeOfName fs nm) x with h' | h'
      · have hp : placeOfName fs nm < fs.length := by omega
        have hp' : fs[placeOfName fs nm]? = some fs[placeOfName fs nm] := List.getElem?_eq_getElem hp
        have h1 := rising_get h h' hp' hx'
        rw [he'] at h1
        have h2 := hs.2 _ hp'
        rw [h1] at h2
        cases h2
      · exact h'
    have e : placeOfName fs nm = x := by omega
    rw [e, hx']
    simp [he', cmp_self]
  · intro hm
    cases hp : fs[placeOfName fs nm]? with
    | none => rw [hp] at hm; cases hm
    | some f =>
      rw [hp] at hm
      have := cmp_eq _ _ (of_decide_eq_true hm)
      exact ⟨f, List.mem_of_getElem? hp, by simp [this]⟩
theorem less_of_not {a b : Bs} (h : less a b = false) (hne : a ≠ b) : less b a = true := by
  rw [less_iff, cmp_swap a b]
  have h1 : ¬ Lib.compareBytes a b < 0 := by simpa [less] using h
  rcases cmp_vals a b with h2 | h2 | h2
  · exact absurd (cmp_eq _ _ h2) hne
  · omega
  · omega
theorem rising_insert {α : Type} {fs : List (Bs × α)} (h : Rising fs) (nm : Bs) (v : α) (hn : (fs.any fun f => f.1 == nm) = false) : Rising (insertAt fs nm v) := by
  have hs := place_spec fs nm
  rw [insert_eq]
  unfold Rising
  rw [List.pairwise_append]
  have hne : ∀ f ∈ fs, f.1 ≠ nm := by
    intro f hf e
    rw [List.any_eq_false] at hn
    exact hn f hf (by simp [e])
  refine ⟨List.Pairwise.sublist (List.take_sublist _ _) h, ?_, ?_⟩
  · rw [List.pairwise_cons]
    refine ⟨fun g hg => ?_, List.Pairwise.sublist (List.drop_sublist _ _) h⟩
    obtain ⟨x, hx, rfl⟩ := List.getElem_of_mem hg
    rw [List.getElem_drop]
    have hx' : placeOfName fs nm + x < fs.length := by simp at hx; omega
    have hget : fs[placeOfName fs nm + x]? = some fs[placeOfName fs nm + x] := List.getElem?_eq_getElem hx'
    have hp' : fs[placeOfName fs nm]? = some (fs[placeOfName fs nm]'(by omega)) := List.getElem?_eq_getElem (by omega)
    have h0 : less nm (fs[placeOfName fs nm]'(by omega)).1 = true := less_of_not (hs.2 _ hp') (hne _ (List.getElem_mem _))
    rcases Nat.eq_zero_or_pos x with rfl | hpos
    · exact h0
    · have h1 := rising_get h (show placeOfName fs nm < placeOfName fs nm + x by omega) hp' hget
      rw [less_iff] at h0 h1 ⊢
      exact cmp_trans _ _ _ h0 h1
  · intro f hf g hg
    obtain ⟨x, hx, rfl⟩ := List.getElem_of_mem hf
    have hxl : x < placeOfName fs nm := by simp at hx; omega
    have hxf : x < fs.length := by have := place_le fs nm; omega
    rw [List.getElem_take]
    have hget : fs[x]? = some fs[x] := List.getElem?_eq_getElem hxf
    have h1 := hs.1 x _ hxl hget
    rcases List.mem_cons.1 hg with rfl | hg
    · exact h1
    · obtain ⟨y, hy, rfl⟩ := List.getElem_of_mem hg
      rw [List.getElem_drop]
      have hy' : placeOfName fs nm + y < fs.length := by simp at hy; omega
      exact rising_get h (show x < placeOfName fs nm + y by omega) hget (List.getElem?_eq_getElem hy')
end Go.Proofs.YtmleekpghdfdgabDoor
/- Plain facts on values: which are within their bounds; how long their documents are. -/
namespace Go.Proofs.YtmleekpghdfdgabDoor
set_option linter.unusedVariables false
set_option linter.unusedSimpArgs false
def GoodLeaf : Leaf → Prop
  | some (Sum.inr (Sum.inl i)) => -1000000000000000000 < i ∧ i < 1000000000000000000
  | some (Sum.inr (Sum.inr s)) => ∀ c ∈ s, meant c = true
  | _ => True
/-- numbers of 18 digits, texts of bytes that may be, fields that rise -/
def Good : (n : Nat) → J n → Prop
  | 0, l => GoodLeaf l
  | _ + 1, Sum.inl l => GoodLeaf l
  | n + 1, Sum.inr (Sum.inl xs) => ∀ x ∈ xs, Good n x
  | n + 1, Sum.inr (Sum.inr fs) => Rising fs ∧ ∀ f ∈ fs, (∀ c ∈ f.1, meant c = true) ∧ Good n f.2
/-- numbers that fit -/
def FitLeaf : Leaf → Prop
  | some (Sum.inr (Sum.inl i)) => -1000000000000000000 < i ∧ i < 1000000000000000000
  | _ => True
def Fit : (n : Nat) → J n → Prop
  | 0, l => FitLeaf l
  | _ + 1, Sum.inl l => FitLeaf l
  | n + 1, Sum.inr (Sum.inl xs) => ∀ x ∈ xs, Fit n x
  | n + 1, Sum.inr (Sum.inr fs) => ∀ f ∈ fs, Fit n f.2
theorem fit_leaf {l : Leaf} (h : GoodLeaf l) : FitLeaf l := by
  rcases l with _ | b | i | s
  · trivial
  · trivial
  · exact h
  · trivial
theorem fit_of_good : ∀ (n : Nat) (j : J n), Good n j → Fit n j
  | 0, l, h => fit_leaf h
  | _ + 1, Sum.inl l, h => fit_leaf h
  | n + 1, Sum.inr (Sum.inl xs), h => fun x hx => fit_of_good n x (h x hx)
  | n + 1, Sum.inr (Sum.inr fs), h => fun f hf => fit_of_good n f.2 (h.2 f hf).2
theorem good_leaf {n : Nat} {l : Leaf} (h : GoodLeaf l) : Good n (leaf n l) := by
  cases n <;> exact h
theorem leafE_good {r : Bs} {l : Leaf} {r' : Bs} (h : leafE r = .ok (l, r')) : GoodLeaf l := by
  unfold leafE at h
  split at h
  · unfold word at h; split at h <;> cases h; trivial
  · split at h
    · unfold word at h; split at h <;> cases h; trivial
    · split at h
      · unfold word at h; split at h <;> cases h; trivial
      · split at h
        · unfold textE at h
          cases hq : quoted r with
          | none => rw [hq] at h; cases h
          | some p =>
            rw [hq] at h
            cases h
            exact (quoted_meant hq).1
        · unfold number at h
          simp only [] at h
          generalize (if (hd r == 45) = true then r.tail else r) = r1 at h
          split at h
          · cases h
          · split at h
            · cases h
            · split at h
              · cases h
              · rename_i h1 h2 h3
                cases h
                show -1000000000000000000 < numVal _ _ ∧ numVal _ _ < 1000000000000000000
                have hdg : ∀ c ∈ r1.takeWhile isDigit, isDigit c = true := fun c hc => by
                  have := List.all_takeWhile (p := isDigit) (l := r1)
                  rw [List.all_eq_true] at this
                  exact this c hc
                have hlt := decV_lt _ hdg
                have hle : 10 ^ (r1.takeWhile isDigit).length ≤ 10 ^ 18 := Nat.pow_le_pow_right (by decide) (by omega)
                have hb : decV (r1.takeWhile isDigit) < 1000000000000000000 := by omega
                unfold numVal
                split <;> omega
/-- what holds of all parts -/
theorem rowGo_all {σ : Type} {z : UInt8} {one : σ → Nat → Bs → Except Nat (σ × Nat × Bs)} {P : σ → Prop} (h : ∀ s k r s' k' r', P s → one s k r = .ok (s', k', r') → P s') : ∀ (f : Nat) (s : σ) (k : Nat) (r : Bs) (s' : σ) (k' : Nat) (r' : Bs), P s → rowGo z one f s k r = .ok (s', k', r') → P s'
  | 0, s, k, r, s', k', r', _, e => by simp [rowGo] at e
  | f + 1, s, k, r, s', k', r', hs, e => by
    rw [rowGo] at e
    cases ho : one s k r with
    | error er => rw [ho] at e; cases e
    | ok p =>
      obtain ⟨s1, k1, r1⟩ := p
      have h1 := h s k r s1 k1 r1 hs ho
      rw [ho] at e
      simp only [] at e
      split at e
      · cases e; exact h1
      · split at e
        · exact rowGo_all h f s1 k1 _ s' k' r' h1 e
        · cases e
theorem row_all {σ : Type} {z : UInt8} {one : σ → Nat → Bs → Except Nat (σ × Nat × Bs)} {P : σ → Prop} (h : ∀ s k r s' k' r', P s → one s k r = .ok (s', k', r') → P s') (s : σ) (k : Nat) (r : Bs) (s' : σ) (k' : Nat) (r' : Bs) (hs : P s) (e : row z one s k r = .ok (s', k', r')) : P s' := by
  unfold row at e
  split at e
  · cases e; exact hs
  · exact rowGo_all h _ _ _ _ _ _ _ hs e
theorem oneItem_ok {α : Type} {pv : Nat → Bs → Except Nat (α × Nat × Bs)} {s s' : List α} {k k' : Nat} {r r' : Bs} (h : oneItem pv s k r = .ok (s', k', r')) : ∃ v, pv k r = .ok (v, k', r') ∧ s' = s ++ [v] := by
  unfold oneItem at h
  cases hv : pv k r with
  | error er => rw [hv] at h; cases h
  | ok p =>
    obtain ⟨v, k1, r1⟩ := p
    rw [hv] at h
    cases h
    exact ⟨v, rfl, rfl⟩
theorem nameE_ok {α : Type} {fs : List (Bs × α)} {r nm r' : Bs} (h : nameE fs r = .ok (nm, r')) : ∃ q, quoted (skip r) = some (nm, q) ∧ (fs.any fun f => f.1 == nm) = false ∧ hd (skip q) = 58 ∧ r' = (skip q).tail := by
  unfold nameE at h
  cases hq : quoted (skip r) with
  | none => rw [hq] at h; cases h
  | some p =>
    rw [hq] at h
    simp only [] at h
    split at h
    · cases h
    · split at h
      · rename_i h1 h2
        cases h
        exact ⟨p.2, rfl, by rw [← Bool.not_eq_true]; exact h1, h2, rfl⟩
      · cases h
theorem oneField_ok {α : Type} {pv : Nat → Bs → Except Nat (α × Nat × Bs)} {s s' : List (Bs × α)} {k k' : Nat} {r r' : Bs} (h : oneField pv s k r = .ok (s', k', r')) : ∃ nm v r1, nameE s r = .ok (nm, r1) ∧ pv k r1 = .ok (v, k', r') ∧ s' = insertAt s nm v := by
  unfold oneField at h
  cases hn : nameE s r with
  | error er => rw [hn] at h; cases h
  | ok p =>
    obtain ⟨nm, r1⟩ := p
    rw [hn] at h
    simp only [] at h
    cases hv : pv k r1 with
    | error er => rw [hv] at h; cases h
    | ok p =>
      obtain ⟨v, k1, r2⟩ := p
      rw [hv] at h
      cases h
      exact ⟨nm, v, r1, rfl, hv, rfl⟩
theorem mem_insertAt {α : Type} {fs : List (Bs × α)} {nm : Bs} {v : α} {f : Bs × α} (h : f ∈ insertAt fs nm v) : f = (nm, v) ∨ f ∈ fs := by
  rw [insert_eq] at h
  rcases List.mem_append.1 h with h | h
  · exact Or.inr (List.mem_of_mem_take h)
  · rcases List.mem_cons.1 h with h | h
    · exact Or.inl h
    · exact Or.inr (List.mem_of_mem_drop h)
/-- the ways of a value that is read -/
theorem value_cases {n k : Nat} {r : Bs} {j : J n} {k' : Nat} {r' : Bs} (e : value n k r = .ok (j, k', r')) :
    (beginE n k (skip r) = 0) ∧ ((∃ l, hd (skip r) ≠ 91 ∧ hd (skip r) ≠ 123 ∧ leafE (skip r) = .ok (l, r') ∧ j = leaf n l ∧ k' = k + 1) ∨
      (∃ m, ∃ hm : n = m + 1, ∃ xs : List (J m), hd (skip r) = 91 ∧ row 93 (oneItem (value m)) [] (k + 1) (skip r) = .ok (xs, k', r') ∧ j = hm ▸ (Sum.inr (Sum.inl xs) : J (m + 1))) ∨
      (∃ m, ∃ hm : n = m + 1, ∃ fs : List (Bs × J m), hd (skip r) = 123 ∧ row 125 (oneField (value m)) [] (k + 1) (skip r) = .ok (fs, k', r') ∧ j = hm ▸ (Sum.inr (Sum.inr fs) : J (m + 1)))) := by
  cases n with
  | zero =>
    rw [value] at e
    split at e
    · cases e
    · rename_i h0
      have h0' : beginE 0 k (skip r) = 0 := by simpa using h0
      refine ⟨h0', Or.inl ?_⟩
      unfold leafAt at e
      cases hl : leafE (skip r) with
      | error er => rw [hl] at e; cases e
      | ok p =>
        obtain ⟨l, r1⟩ := p
        rw [hl] at e
        cases e
        have hne : hd (skip r) ≠ 91 ∧ hd (skip r) ≠ 123 := by
          unfold beginE at h0'
          split at h0'
          · simp at h0'
          · split at h0'
            · simp at h0'
            · split at h0'
              · simp at h0'
              · rename_i h
                exact ⟨fun e => h ⟨rfl, Or.inl e⟩, fun e => h ⟨rfl, Or.inr e⟩⟩
        exact ⟨l, hne.1, hne.2, rfl, rfl, rfl⟩
  | succ n =>
    rw [value] at e
    split at e
    · cases e
    · rename_i h0
      refine ⟨by simpa using h0, ?_⟩
      split at e
      · rename_i h91
        cases hr : row 93 (oneItem (value n)) [] (k + 1) (skip r) with
        | error er => rw [hr] at e; cases e
        | ok p =>
          obtain ⟨s1, k1, r1⟩ := p
          rw [hr] at e
          cases e
          exact Or.inr (Or.inl ⟨n, rfl, s1, h91, hr, rfl⟩)
      · rename_i h91
        split at e
        · rename_i h123
          cases hr : row 125 (oneField (value n)) [] (k + 1) (skip r) with
          | error er => rw [hr] at e; cases e
          | ok p =>
            obtain ⟨s1, k1, r1⟩ := p
            rw [hr] at e
            cases e
            exact Or.inr (Or.inr ⟨n, rfl, s1, h123, hr, rfl⟩)
        · rename_i h123
          unfold leafAt at e
          cases hl : leafE (skip r) with
          | error er => rw [hl] at e; cases e
          | ok p =>
            obtain ⟨l, r1⟩ := p
            rw [hl] at e
            cases e
            exact Or.inl ⟨l, h91, h123, rfl, rfl, rfl⟩
theorem value_good : ∀ (n : Nat) (k : Nat) (r : Bs) (j : J n) (k' : Nat) (r' : Bs), value n k r = .ok (j, k', r') → Good n j
  | 0, k, r, j, k', r', e => by
    rcases (value_cases e).2 with ⟨l, _, _, hl, rfl, _⟩ | ⟨m, hm, _⟩ | ⟨m, hm, _⟩
    · exact good_leaf (leafE_good hl)
    · cases hm
    · cases hm
  | n + 1, k, r, j, k', r', e => by
    rcases (value_cases e).2 with ⟨l, _, _, hl, rfl, _⟩ | ⟨m, hm, xs, _, hr, hj⟩ | ⟨m, hm, fs, _, hr, hj⟩
    · exact good_leaf (leafE_good hl)
    · cases hm
      subst hj
      refine row_all (one := oneItem (value n)) (P := fun s => ∀ x ∈ s, Good n x) (fun s k r s' k' r' hs ho => ?_) _ _ _ _ _ _ (fun x hx => by simp at hx) hr
      obtain ⟨v, hv, rfl⟩ := oneItem_ok ho
      intro x hx
      rcases List.mem_append.1 hx with hx | hx
      · exact hs x hx
      · simp at hx
        subst hx
        exact value_good n k r x k' r' hv
    · cases hm
      subst hj
      refine row_all (one := oneField (value n)) (P := fun s => Rising s ∧ ∀ f ∈ s, (∀ c ∈ f.1, meant c = true) ∧ Good n f.2) (fun s k r s' k' r' hs ho => ?_) _ _ _ _ _ _ ⟨List.Pairwise.nil, fun x hx => by simp at hx⟩ hr
      obtain ⟨nm, v, r1, hn, hv, rfl⟩ := oneField_ok ho
      obtain ⟨q, hq, hany, _, _⟩ := nameE_ok hn
      refine ⟨rising_insert hs.1 nm v hany, fun f hf => ?_⟩
      rcases mem_insertAt hf with rfl | hf
      · exact ⟨(quoted_meant hq).1, value_good n k r1 v k' r' hv⟩
      · exact hs.2 f hf
theorem read_good {s : Bs} {j : J 10} (h : read s = .ok j) : Good 10 j := by
  unfold read at h
  split at h
  · cases h
  · cases hv : value 10 0 s with
    | error er => rw [hv] at h; cases h
    | ok p =>
      obtain ⟨j1, k1, r1⟩ := p
      rw [hv] at h
      simp only [] at h
      split at h
      · cases h
        exact value_good 10 0 s j k1 r1 hv
      · cases h
end Go.Proofs.YtmleekpghdfdgabDoor
