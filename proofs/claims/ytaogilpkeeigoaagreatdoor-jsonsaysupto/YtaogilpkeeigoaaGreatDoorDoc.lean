/- Plain functions on bytes: what a document's values are, how they are told, and how a text is read; of no program. -/
import Derived.WalkKit
import Derived.Lib.ItoaNum
import Derived.Lib.ParseIntB
import Derived.Lib.Bytealg
namespace Go.Proofs.YtaogilpkeeigoaaGreatDoor
abbrev Bs := List UInt8
/-- null, a bool, a number, a text -/
abbrev Leaf := Option (Sum Bool (Sum Int Bs))
/-- a value with at most n lists and objects in one another -/
def J : Nat → Type
  | 0 => Leaf
  | n + 1 => Sum Leaf (Sum (List (J n)) (List (Bs × J n)))
def leaf : (n : Nat) → Leaf → J n
  | 0, l => l
  | _ + 1, l => Sum.inl l
/-! How a value is told. -/
def quoteB (c : UInt8) : Bs := if c = 10 then [92, 110] else if c = 9 then [92, 116] else if c = 34 ∨ c = 92 then [92, c] else [c]
def quote (s : Bs) : Bs := 34 :: (s.flatMap quoteB ++ [34])
def nullB : Bs := [110, 117, 108, 108]
def trueB : Bs := [116, 114, 117, 101]
def falseB : Bs := [102, 97, 108, 115, 101]
def tellLeaf : Leaf → Bs
  | none => nullB
  | some (Sum.inl true) => trueB
  | some (Sum.inl false) => falseB
  | some (Sum.inr (Sum.inl i)) => Lib.itoa i
  | some (Sum.inr (Sum.inr s)) => quote s
def commas : List Bs → Bs
  | [] => []
  | [x] => x
  | x :: y :: r => x ++ 44 :: commas (y :: r)
def tell : (n : Nat) → J n → Bs
  | 0, l => tellLeaf l
  | _ + 1, Sum.inl l => tellLeaf l
  | n + 1, Sum.inr (Sum.inl xs) => 91 :: (commas (xs.map (tell n)) ++ [93])
  | n + 1, Sum.inr (Sum.inr fs) => 123 :: (commas (fs.map fun f => quote f.1 ++ 58 :: tell n f.2) ++ [125])
/-! How many values there are, how deep they lie, of which kind a value is. -/
def nodes : (n : Nat) → J n → Nat
  | 0, _ => 1
  | _ + 1, Sum.inl _ => 1
  | n + 1, Sum.inr (Sum.inl xs) => 1 + (xs.map (nodes n)).sum
  | n + 1, Sum.inr (Sum.inr fs) => 1 + (fs.map fun f => nodes n f.2).sum
def maxOf : List Nat → Nat
  | [] => 0
  | x :: r => max x (maxOf r)
def depth : (n : Nat) → J n → Nat
  | 0, _ => 0
  | _ + 1, Sum.inl _ => 0
  | n + 1, Sum.inr (Sum.inl xs) => 1 + maxOf (xs.map (depth n))
  | n + 1, Sum.inr (Sum.inr fs) => 1 + maxOf (fs.map fun f => depth n f.2)
def kindLeaf : Leaf → Nat
  | none => 1
  | some (Sum.inl _) => 2
  | some (Sum.inr (Sum.inl _)) => 3
  | some (Sum.inr (Sum.inr _)) => 4
def kindJ : (n : Nat) → J n → Nat
  | 0, l => kindLeaf l
  | _ + 1, Sum.inl l => kindLeaf l
  | _ + 1, Sum.inr (Sum.inl _) => 5
  | _ + 1, Sum.inr (Sum.inr _) => 6
/-! How a text is read: what is left of it is handed on. -/
def blank (c : UInt8) : Bool := c == 32 || (c == 10 || c == 9)
def skip : Bs → Bs
  | [] => []
  | c :: r => if blank c then skip r else c :: r
def hd (r : Bs) : UInt8 := r.headD 0
abbrev eLarge : Nat := 2
abbrev eSyntax : Nat := 3
abbrev eDeep : Nat := 4
abbrev eTwice : Nat := 5
def opens : Bs := [110, 116, 102, 34, 91, 123, 45, 48, 49, 50, 51, 52, 53, 54, 55, 56, 57]
/-- what is wrong where a value begins (0: nothing) -/
def beginE (n k : Nat) (r : Bs) : Nat :=
  if ¬ hd r ∈ opens then eSyntax else if 200 ≤ k then eLarge else if n = 0 ∧ (hd r = 91 ∨ hd r = 123) then eDeep else 0
def isDigit (c : UInt8) : Bool := decide (48 ≤ c) && decide (c ≤ 57)
def word (w r : Bs) (l : Leaf) : Except Nat (Leaf × Bs) := if w.isPrefixOf r then .ok (l, r.drop w.length) else .error eSyntax
/-- what digits say -/
def decV (ds : Bs) : Nat := ds.foldl (fun n c => 10 * n + (c.toNat - 48)) 0
def numVal (below : Bool) (ds : Bs) : Int := if below then -(decV ds : Int) else (decV ds : Int)
def number (r : Bs) : Except Nat (Leaf × Bs) :=
  let below := hd r == 45
  let r1 := if below then r.tail else r
  let ds := r1.takeWhile isDigit
  if ds = [] then .error eSyntax
  else if hd ds = 48 ∧ (below = true ∨ 1 < ds.length) then .error eSyntax
  else if 18 < ds.length then .error eLarge
  else .ok (some (Sum.inr (Sum.inl (numVal below ds))), r1.dropWhile isDigit)
def meaning (c : UInt8) : UInt8 := if c = 34 ∨ c = 92 then c else if c = 110 then 10 else if c = 116 then 9 else 0
def plain (c : UInt8) : Bool := decide (32 ≤ c) && decide (c ≤ 126)
/-- a text, behind its first sign: what it means, and what is left behind its last one -/
def signs : Bs → Option (Bs × Bs)
  | [] => none
  | c :: r =>
    if c = 34 then some ([], r)
    else if c = 92 then
      match r with
      | [] => none
      | d :: r' => if meaning d = 0 then none else (signs r').map fun p => (meaning d :: p.1, p.2)
    else if plain c then (signs r).map fun p => (c :: p.1, p.2)
    else none
def quoted (r : Bs) : Option (Bs × Bs) := if hd r = 34 then signs r.tail else none
def textE (r : Bs) : Except Nat (Leaf × Bs) :=
  match quoted r with
  | none => .error eSyntax
  | some p => .ok (some (Sum.inr (Sum.inr p.1)), p.2)
def leafE (r : Bs) : Except Nat (Leaf × Bs) :=
  if hd r = 110 then word nullB r none
  else if hd r = 116 then word trueB r (some (Sum.inl true))
  else if hd r = 102 then word falseB r (some (Sum.inl false))
  else if hd r = 34 then textE r
  else number r
/-- from a row's first part on to the sign that ends it -/
def rowGo {σ : Type} (z : UInt8) (one : σ → Nat → Bs → Except Nat (σ × Nat × Bs)) : Nat → σ → Nat → Bs → Except Nat (σ × Nat × Bs)
  | 0, _, _, _ => .error eSyntax
  | f + 1, s, k, r =>
    match one s k r with
    | .error e => .error e
    | .ok (s', k', r1) =>
      if hd (skip r1) = z then .ok (s', k', (skip r1).tail)
      else if hd (skip r1) = 44 then rowGo z one f s' k' (skip r1).tail
      else .error eSyntax
def row {σ : Type} (z : UInt8) (one : σ → Nat → Bs → Except Nat (σ × Nat × Bs)) (s : σ) (k : Nat) (r : Bs) : Except Nat (σ × Nat × Bs) :=
  if hd (skip r.tail) = z then .ok (s, k, (skip r.tail).tail) else rowGo z one (r.length + 1) s k (skip r.tail)
def oneItem {α : Type} (pv : Nat → Bs → Except Nat (α × Nat × Bs)) (s : List α) (k : Nat) (r : Bs) : Except Nat (List α × Nat × Bs) :=
  match pv k r with
  | .error e => .error e
  | .ok (v, k', r') => .ok (s ++ [v], k', r')
def less (a b : Bs) : Bool := decide (Lib.compareBytes a b < 0)
def insertAt {α : Type} (fs : List (Bs × α)) (nm : Bs) (v : α) : List (Bs × α) := fs.takeWhile (fun f => less f.1 nm) ++ (nm, v) :: fs.dropWhile (fun f => less f.1 nm)
def nameE {α : Type} (fs : List (Bs × α)) (r : Bs) : Except Nat (Bs × Bs) :=
  match quoted (skip r) with
  | none => .error eSyntax
  | some p =>
    if fs.any (fun f => f.1 == p.1) then .error eTwice
    else if hd (skip p.2) = 58 then .ok (p.1, (skip p.2).tail)
    else .error eSyntax
def oneField {α : Type} (pv : Nat → Bs → Except Nat (α × Nat × Bs)) (s : List (Bs × α)) (k : Nat) (r : Bs) : Except Nat (List (Bs × α) × Nat × Bs) :=
  match nameE s r with
  | .error e => .error e
  | .ok (nm, r1) =>
    match pv k r1 with
    | .error e => .error e
    | .ok (v, k', r') => .ok (insertAt s nm v, k', r')
def leafAt (n k : Nat) (r : Bs) : Except Nat (J n × Nat × Bs) :=
  match leafE r with
  | .error e => .error e
  | .ok (l, r') => .ok (leaf n l, k + 1, r')
def value : (n : Nat) → Nat → Bs → Except Nat (J n × Nat × Bs)
  | 0, k, r => if beginE 0 k (skip r) ≠ 0 then .error (beginE 0 k (skip r)) else leafAt 0 k (skip r)
  | n + 1, k, r =>
    if beginE (n + 1) k (skip r) ≠ 0 then .error (beginE (n + 1) k (skip r))
    else if hd (skip r) = 91 then
      match row 93 (oneItem (value n)) [] (k + 1) (skip r) with
      | .error e => .error e
      | .ok (s, k', r') => .ok (Sum.inr (Sum.inl s), k', r')
    else if hd (skip r) = 123 then
      match row 125 (oneField (value n)) [] (k + 1) (skip r) with
      | .error e => .error e
      | .ok (s, k', r') => .ok (Sum.inr (Sum.inr s), k', r')
    else leafAt (n + 1) k (skip r)
/-- what a text has, or what is wrong with it -/
def read (s : Bs) : Except Nat (J 10) :=
  if 2000 < s.length then .error eLarge
  else match value 10 0 s with
    | .error e => .error e
    | .ok (j, _, r) => if skip r = [] then .ok j else .error eSyntax
end Go.Proofs.YtaogilpkeeigoaaGreatDoor
