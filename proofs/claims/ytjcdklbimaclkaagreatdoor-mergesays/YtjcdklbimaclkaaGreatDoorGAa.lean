import Derived.WalkKit
import Derived.Lib.ItoaNum
import Derived.Lib.ParseIntB
import Derived.Lib.Bytealg
import Derived.Deep.QuietTactic
import Derived.Test.YtjcdklbimaclkaaGreatDoorRows
import Derived.Laws.BytesArg
import Derived.Lib.AppendIntMem
import Derived.Lib.OthersKept
import Derived.WalkSpells
import Derived.BigQuiet
import Derived.Lib.ParseIntBCases
import Derived.Laws.Externs
namespace Go.Proofs.YtjcdklbimaclkaaGreatDoor
abbrev Bs := List UInt8
abbrev Leaf := Option (Sum Bool (Sum Int Bs))
def J : Nat -> Type
 | 0 => Leaf
 | n + 1 => Sum Leaf (Sum (List (J n)) (List (Bs × J n)))
def leaf : (n : Nat) -> Leaf -> J n
 | 0, l => l
 | _ + 1, l => Sum.inl l
/-! How a value is told. -/
def quoteB (c : UInt8) : Bs := if c = 10 then [92, 110] else if c = 9 then [92, 116] else if c = 34 ∨ c = 92 then [92, c] else [c]
def quote (s : Bs) : Bs := 34 :: (s.flatMap quoteB ++ [34])
def nullB : Bs := [110, 117, 108, 108]
def trueB : Bs := [116, 114, 117, 101]
def falseB : Bs := [102, 97, 108, 115, 101]
def tellLeaf : Leaf -> Bs
 | none => nullB
 | some (Sum.inl true) => trueB
 | some (Sum.inl false) => falseB
 | some (Sum.inr (Sum.inl i)) => Lib.itoa i
 | some (Sum.inr (Sum.inr s)) => quote s
def commas : List Bs -> Bs
 | [] => []
 | [x] => x
 | x :: y :: r => x ++ 44 :: commas (y :: r)
def tell : (n : Nat) -> J n -> Bs
 | 0, l => tellLeaf l
 | _ + 1, Sum.inl l => tellLeaf l
 | n + 1, Sum.inr (Sum.inl xs) => 91 :: (commas (xs.map (tell n)) ++ [93])
 | n + 1, Sum.inr (Sum.inr fs) => 123 :: (commas (fs.map fun f => quote f.1 ++ 58 :: tell n f.2) ++ [125])
/-! How many values there are, how deep they lie, of which kind a value is. -/
def nodes : (n : Nat) -> J n -> Nat
 | 0, _ => 1
 | _ + 1, Sum.inl _ => 1
 | n + 1, Sum.inr (Sum.inl xs) => 1 + (xs.map (nodes n)).sum
 | n + 1, Sum.inr (Sum.inr fs) => 1 + (fs.map fun f => nodes n f.2).sum
def maxOf : List Nat -> Nat
 | [] => 0
 | x :: r => max x (maxOf r)
def depth : (n : Nat) -> J n -> Nat
 | 0, _ => 0
 | _ + 1, Sum.inl _ => 0
 | n + 1, Sum.inr (Sum.inl xs) => 1 + maxOf (xs.map (depth n))
 | n + 1, Sum.inr (Sum.inr fs) => 1 + maxOf (fs.map fun f => depth n f.2)
def kindLeaf : Leaf -> Nat
 | none => 1
 | some (Sum.inl _) => 2
 | some (Sum.inr (Sum.inl _)) => 3
 | some (Sum.inr (Sum.inr _)) => 4
def kindJ : (n : Nat) -> J n -> Nat
 | 0, l => kindLeaf l
 | _ + 1, Sum.inl l => kindLeaf l
 | _ + 1, Sum.inr (Sum.inl _) => 5
 | _ + 1, Sum.inr (Sum.inr _) => 6
/-! How a text is read: what is left of it is handed on. -/
def blank (c : UInt8) : Bool := c == 32 || (c == 10 || c == 9)
def skip : Bs -> Bs
 | [] => []
 | c :: r => if blank c then skip r else c :: r
def hd (r : Bs) : UInt8 := r.headD 0
abbrev eLarge : Nat := 2
abbrev eSyntax : Nat := 3
abbrev eDeep : Nat := 4
abbrev eTwice : Nat := 5
def opens : Bs := [110, 116, 102, 34, 91, 123, 45, 48, 49, 50, 51, 52, 53, 54, 55, 56, 57]
def beginE (n k : Nat) (r : Bs) : Nat :=
 if ¬ hd r ∈ opens then eSyntax else if 200 <= k then eLarge else if n = 0 /\ (hd r = 91 ∨ hd r = 123) then eDeep else 0
def isDigit (c : UInt8) : Bool := decide (48 <= c) && decide (c <= 57)
def word (w r : Bs) (l : Leaf) : Except Nat (Leaf × Bs) := if w.isPrefixOf r then .ok (l, r.drop w.length) else .error eSyntax
def decV (ds : Bs) : Nat := ds.foldl (fun n c => 10 * n + (c.toNat - 48)) 0
def numVal (below : Bool) (ds : Bs) : Int := if below then -(decV ds : Int) else (decV ds : Int)
def number (r : Bs) : Except Nat (Leaf × Bs) :=
 let below := hd r == 45
 let r1 := if below then r.tail else r
 let ds := r1.takeWhile isDigit
 if ds = [] then .error eSyntax
 else if hd ds = 48 /\ (below = true ∨ 1 < ds.length) then .error eSyntax
 else if 18 < ds.length then .error eLarge
 else .ok (some (Sum.inr (Sum.inl (numVal below ds))), r1.dropWhile isDigit)
def meaning (c : UInt8) : UInt8 := if c = 34 ∨ c = 92 then c else if c = 110 then 10 else if c = 116 then 9 else 0
def plain (c : UInt8) : Bool := decide (32 <= c) && decide (c <= 126)
def signs : Bs -> Option (Bs × Bs)
 | [] => none
 | c :: r =>
  if c = 34 then some ([], r)
  else if c = 92 then
   match r with
   | [] => none
   | d :: r' => if meaning d = 0 then none else (signs r').map fun p => (meaning d :: p.1, p.2)
  else if plain c then (signs r).map fun p => (c :: p.1, p.2)
  else none
def quoted (r : Bs) : Option (Bs × Bs) := if hd r = 34 then signs r.tail else none
def textE (r : Bs) : Except Nat (Leaf × Bs) :=
 match quoted r with
 | none => .error eSyntax
 | some p => .ok (some (Sum.inr (Sum.inr p.1)), p.2)
def leafE (r : Bs) : Except Nat (Leaf × Bs) :=
 if hd r = 110 then word nullB r none
 else if hd r = 116 then word trueB r (some (Sum.inl true))
 else if hd r = 102 then word falseB r (some (Sum.inl false))
 else if hd r = 34 then textE r
 else number r
def rowGo {σ : Type} (z : UInt8) (one : σ -> Nat -> Bs -> Except Nat (σ × Nat × Bs)) : Nat -> σ -> Nat -> Bs -> Except Nat (σ × Nat × Bs)
 | 0, _, _, _ => .error eSyntax
 | f + 1, s, k, r =>
  match one s k r with
  | .error e => .error e
  | .ok (s', k', r1) =>
   if hd (skip r1) = z then .ok (s', k', (skip r1).tail)
   else if hd (skip r1) = 44 then rowGo z one f s' k' (skip r1).tail
   else .error eSyntax
def row {σ : Type} (z : UInt8) (one : σ -> Nat -> Bs -> Except Nat (σ × Nat × Bs)) (s : σ) (k : Nat) (r : Bs) : Except Nat (σ × Nat × Bs) :=
 if hd (skip r.tail) = z then .ok (s, k, (skip r.tail).tail) else rowGo z one (r.length + 1) s k (skip r.tail)
def oneItem {α : Type} (pv : Nat -> Bs -> Except Nat (α × Nat × Bs)) (s : List α) (k : Nat) (r : Bs) : Except Nat (List α × Nat × Bs) :=
 match pv k r with
 | .error e => .error e
 | .ok (v, k', r') => .ok (s ++ [v], k', r')
def less (a b : Bs) : Bool := decide (Lib.compareBytes a b < 0)
def insertAt {α : Type} (fs : List (Bs × α)) (nm : Bs) (v : α) : List (Bs × α) := fs.takeWhile (fun f => less f.1 nm) ++ (nm, v) :: fs.dropWhile (fun f => less f.1 nm)
def nameE {α : Type} (fs : List (Bs × α)) (r : Bs) : Except Nat (Bs × Bs) :=
 match quoted (skip r) with
 | none => .error eSyntax
 | some p =>
  if fs.any (fun f => f.1 == p.1) then .error eTwice
  else if hd (skip p.2) = 58 then .ok (p.1, (skip p.2).tail)
  else .error eSyntax
def oneField {α : Type} (pv : Nat -> Bs -> Except Nat (α × Nat × Bs)) (s : List (Bs × α)) (k : Nat) (r : Bs) : Except Nat (List (Bs × α) × Nat × Bs) :=
 match nameE s r with
 | .error e => .error e
 | .ok (nm, r1) =>
  match pv k r1 with
  | .error e => .error e
  | .ok (v, k', r') => .ok (insertAt s nm v, k', r')
def leafAt (n k : Nat) (r : Bs) : Except Nat (J n × Nat × Bs) :=
 match leafE r with
 | .error e => .error e
 | .ok (l, r') => .ok (leaf n l, k + 1, r')
def value : (n : Nat) -> Nat -> Bs -> Except Nat (J n × Nat × Bs)
 | 0, k, r => if beginE 0 k (skip r) ≠ 0 then .error (beginE 0 k (skip r)) else leafAt 0 k (skip r)
 | n + 1, k, r =>
  if beginE (n + 1) k (skip r) ≠ 0 then .error (beginE (n + 1) k (skip r))
  else if hd (skip r) = 91 then
   match row 93 (oneItem (value n)) [] (k + 1) (skip r) with
   | .error e => .error e
   | .ok (s, k', r') => .ok (Sum.inr (Sum.inl s), k', r')
  else if hd (skip r) = 123 then
   match row 125 (oneField (value n)) [] (k + 1) (skip r) with
   | .error e => .error e
   | .ok (s, k', r') => .ok (Sum.inr (Sum.inr s), k', r')
  else leafAt (n + 1) k (skip r)
def read (s : Bs) : Except Nat (J 10) :=
 if 2000 < s.length then .error eLarge
 else match value 10 0 s with
  | .error e => .error e
  | .ok (j, _, r) => if skip r = [] then .ok j else .error eSyntax
end Go.Proofs.YtjcdklbimaclkaaGreatDoor
namespace Go.Proofs.YtjcdklbimaclkaaGreatDoor
set_option linter.unusedVariables false
set_option linter.unusedSimpArgs false
def rest (t : ByteArray) (p : Nat) : Bs := t.data.toList.drop p
theorem rest_cons {t : ByteArray} {p : Nat} (h : p < t.size) : rest t p = t[p] :: rest t (p + 1) := by
 unfold rest
 have h' : p < t.data.toList.length := by simpa using h
 rw [List.drop_eq_getElem_cons h']
 rfl
theorem rest_nil {t : ByteArray} {p : Nat} (h : t.size <= p) : rest t p = [] := by
 unfold rest
 apply List.drop_of_length_le
 simpa using h
theorem rest_len (t : ByteArray) (p : Nat) : (rest t p).length = t.size - p := by simp [rest]
theorem hd_lt {t : ByteArray} {p : Nat} (h : p < t.size) : hd (rest t p) = t[p] := by rw [rest_cons h]; rfl
theorem hd_end {t : ByteArray} {p : Nat} (h : t.size <= p) : hd (rest t p) = 0 := by rw [rest_nil h]; rfl
theorem rest_tail (t : ByteArray) (p : Nat) : (rest t p).tail = rest t (p + 1) := by simp [rest, List.tail_drop]
theorem lt_of_hd {t : ByteArray} {p : Nat} (h : hd (rest t p) ≠ 0) : p < t.size := by
 rcases Nat.lt_or_ge p t.size with h' | h'
 ·exact h'
 ·exact absurd (hd_end h') h
theorem rest_inj {t : ByteArray} {p q : Nat} (hp : p <= t.size) (hq : q <= t.size) (h : rest t p = rest t q) : p = q := by
 have := congrArg List.length h
 rw [rest_len, rest_len] at this
 omega
end Go.Proofs.YtjcdklbimaclkaaGreatDoor
namespace Go.Proofs.YtjcdklbimaclkaaGreatDoor
open Go.RowKit
set_option linter.unusedVariables false
set_option linter.unusedSimpArgs false
def G (b : Nat) (w w' : World) : Prop := w.grownBy w' (some b)
theorem G.refl (b : Nat) (w : World) : G b w w := ⟨rfl, rfl, rfl, Nat.le_refl _, fun _ _ _ => rfl⟩
theorem G.trans {b : Nat} {x y z : World} (h : G b x y) (g : G b y z) : G b x z :=
 ⟨g.os.trans h.os, g.tape.trans h.tape, g.output.trans h.output, Nat.le_trans h.size g.size, fun k hk hb => (g.block k (Nat.lt_of_lt_of_le hk h.size) hb).trans (h.block k hk hb)⟩
theorem G.drew {b : Nat} {x y : World} (h : G b x y) : G b x y.drew := ⟨h.os, h.tape, h.output, h.size, h.block⟩
theorem G.drewN {b : Nat} {x y : World} (h : G b x y) (n : Nat) : G b x (y.drewN n) := ⟨h.os, h.tape, h.output, h.size, h.block⟩
theorem drewN_two (w : World) (m n : Nat) : (w.drewN m).drewN n = w.drewN (m + n) := by simp [World.drewN, Nat.add_assoc]
theorem G.setCell {b : Nat} {x y : World} (h : G b x y) (o : Nat) (v : Value) : G b x (y.setCell ⟨b, o, none⟩ v) :=
 h.trans ⟨rfl, rfl, rfl, by simp [World.setCell], fun k _ hb => heap_setCell_other _ _ _ _ (fun e => hb (by rw [e]))⟩
theorem G.alloc {b : Nat} {x y : World} (h : G b x y) (o : Obj) : G b x (y.alloc o) := h.trans (World.grownBy_alloc y o (some b))
theorem below_of_new {w w' : World} {o : Obj} (g : G w.heap.size (w.alloc o) w') : Below w.heap.size w w' :=
 ⟨g.os, g.tape, g.output, by have := g.size; simp at this; omega, fun k hk => (g.block k (by simp; omega) (fun e => by cases e; omega)).trans (Below.heap_alloc w o k hk)⟩
theorem below_of_G {b : Nat} {w w' : World} (g : G b w w') (hb : b < w.heap.size) : Below b w w' :=
 ⟨g.os, g.tape, g.output, g.size, fun k hk => g.block k (by omega) (fun e => by cases e; omega)⟩
def Own (B : Nat) (w : World) (v : Value) (l : Bs) : Prop := w.ownsRow B 5 1 v l.length (Lib.byteCells l)
theorem Own.nil (B : Nat) (w : World) : Own B w (.slice none 0 0) [] := World.ownsRow_nil _ _ _ _
theorem Own.kept {b B : Nat} {w w' : World} {v : Value} {l : Bs} (h : Own B w v l) (g : G b w w') (hb : b < B) : Own B w' v l := by
 refine World.ownsRow.kept h g ?_
 cases hv : v.ownBlock with
 | none => exact Or.inl rfl
 | some x =>
  have := (World.ownsRow.lt h x hv).1
  exact Or.inr (fun e => by cases e; omega)
theorem Own.row {B : Nat} {w : World} {v : Value} {l : Bs} (h : Own B w v l) : ∀ k, v.ownBlock = some k -> B <= k := fun k hk => (World.ownsRow.lt h k hk).1
theorem G.grown {b : Nat} {w0 w w' : World} {row : Option Nat} (h : G b w0 w) (hg : w.grownBy w' row) (hr : ∀ k, row = some k -> w0.heap.size <= k) : G b w0 w' :=
 ⟨hg.os.trans h.os, hg.tape.trans h.tape, hg.output.trans h.output, Nat.le_trans h.size hg.size, fun k hk hb => (hg.block k (Nat.lt_of_lt_of_le hk h.size) (fun e => by have := hr k e.symm; omega)).trans (h.block k hk hb)⟩
structure Fr (B : Nat) (w w' : World) : Prop where
 below : Below B w w'
 others : Lib.OthersKept 5 none w w'
theorem Fr.refl (B : Nat) (w : World) : Fr B w w := ⟨Below.refl _ _, Lib.OthersKept.refl _ _ _⟩
theorem Fr.trans {B : Nat} {a b c : World} (h : Fr B a b) (k : Fr B b c) : Fr B a c := ⟨h.below.trans k.below, h.others.trans k.others⟩
theorem Fr.alloc {B : Nat} {a w : World} (h : Fr B a w) (hB : B <= w.heap.size) (o : Obj) : Fr B a (w.alloc o) := ⟨h.below.alloc hB o, h.others.alloc o⟩
theorem Fr.own {B n : Nat} {a w w' : World} {v : Value} {xs : List Value} (h : Fr B a w) (ho : w.ownsRow B 5 1 v n xs) (hB : B <= w.heap.size) (hg : w.grownBy w' v.ownBlock) : Fr B a w' :=
 ⟨h.below.grown hg hB (fun k hk => (World.ownsRow.lt ho k hk).1), h.others.grown hg (fun k hk => by
  rcases ho.2 with ⟨rfl, _⟩ | ⟨g, cap, cur, rfl, _, hh, _⟩
  ·simp [Value.ownBlock] at hk
  ·simp [Value.ownBlock] at hk
   subst hk
   exact ⟨cur, _, hh⟩)⟩
theorem cells_snoc (l : Bs) (c : UInt8) : Lib.byteCells l ++ [.int .u8 c.toNat] = Lib.byteCells (l ++ [c]) := by simp [Lib.byteCells]
theorem strOf_bytes (l : Bs) : strOfNums (l.map fun c => (c.toNat : Int)) = ⟨l.toArray⟩ := by
 have : ((l.map fun c => (c.toNat : Int)).map fun n => UInt8.ofNat n.toNat) = l := by
  rw [List.map_map]
  conv => rhs; rw [<- List.map_id l]
  apply List.map_congr_left
  intro c _
  simp
 unfold strOfNums
 rw [this]
theorem info_u8 : (Tryz.prog.info? 5).map (fun i => (i.zero, i.size, i.bytes)) = some (some (.int .u8 0), 1, 1) := by kernel_rfl
theorem conv_own {B : Nat} {w : World} {v : Value} {l : Bs} (h : Own B w v l) : (convert 95 9 v).run Tryz.prog w = .ok (.string ⟨l.toArray⟩) w := by
 rcases h.2 with ⟨rfl, hn⟩ | ⟨g, cap, cur, rfl, hg, hh, _, _, _, htk⟩
 ·have : l = [] := List.length_eq_zero_iff.1 hn
  subst this
  exact run_convert_bytes_nil w 95 5 Tryz.underlying95 Tryz.underlying5 0 0 9 Tryz.underlying9
 ·have := run_convert_bytes_arg (P := Tryz.prog) w 95 5 Tryz.underlying95 Tryz.underlying5 g 0 l.length cap (l.map fun c => (c.toNat : Int)) (by simp) (by
   intro i hi
   rw [Nat.zero_add, cell_of_row _ _ _ _ _ _ hh]
   have h2 : (cur.toList.take (l.length * 1))[i]? = (Lib.byteCells l)[i]? := by rw [htk]
   rw [List.getElem?_take, if_pos (by omega)] at h2
   rw [Array.getElem?_toList] at h2
   rw [h2]
   simp [Lib.byteCells, hi]) 9 Tryz.underlying9
  have e : strOfNums (l.map fun c => (c.toNat : Int)) = ⟨l.toArray⟩ := strOf_bytes l
  rw [e] at this
  exact this
def leafV : Leaf -> Value
 | none => .iface 66 (.agg #[])
 | some (Sum.inl b) => .iface 74 (.bool b)
 | some (Sum.inr (Sum.inl i)) => .iface 75 (.int .i64 i)
 | some (Sum.inr (Sum.inr s)) => .iface 76 (.string ⟨s.toArray⟩)
def St (av : Nat -> Prop) (w : World) : (n : Nat) -> J n -> Value -> Prop
 | 0, l, v => v = leafV l
 | _ + 1, Sum.inl l, v => v = leafV l
 | n + 1, Sum.inr (Sum.inl xs), v => (xs = [] /\ v = .iface 78 (.slice none 0 0)) ∨ ∃ (g cap : Nat) (vs : List Value), v = .iface 78 (.slice (some ⟨g, 0, none⟩) xs.length cap) /\ vs.length = xs.length /\ xs.length <= cap /\ cap <= maxLen /\ ¬ av g /\ g < w.heap.size /\
   (∀ (i : Nat) (u : Value), vs[i]? = some u -> w.cell? ⟨g, i, none⟩ = some u) /\ ∀ (i : Nat) (x : J n) (u : Value), xs[i]? = some x -> vs[i]? = some u -> St av w n x u
 | n + 1, Sum.inr (Sum.inr fs), v => (fs = [] /\ v = .iface 53 (.slice none 0 0)) ∨ ∃ (g cap : Nat) (vs : List Value), v = .iface 53 (.slice (some ⟨g, 0, none⟩) fs.length cap) /\ vs.length = fs.length /\ fs.length <= cap /\ cap <= maxLen /\ ¬ av g /\ g < w.heap.size /\
   (∀ (i : Nat) (f : Bs × J n) (u : Value), fs[i]? = some f -> vs[i]? = some u -> w.cell? ⟨g, i * 2, none⟩ = some (.string ⟨f.1.toArray⟩) /\ w.cell? ⟨g, i * 2 + 1, none⟩ = some u) /\ ∀ (i : Nat) (f : Bs × J n) (u : Value), fs[i]? = some f -> vs[i]? = some u -> St av w n f.2 u
theorem St.move {av av' : Nat -> Prop} {w w1 : World} (hs : w.heap.size <= w1.heap.size) (hb : ∀ c, c < w.heap.size -> ¬ av c -> w1.heap[c]? = w.heap[c]?) (ha : ∀ c, c < w.heap.size -> ¬ av c -> ¬ av' c) : ∀ (n : Nat) (j : J n) (v : Value), St av w n j v -> St av' w1 n j v
 | 0, _, _, h => h
 | _ + 1, Sum.inl _, _, h => h
 | n + 1, Sum.inr (Sum.inl xs), v, h => by
  rcases h with h | ⟨g, cap, vs, hv, hl, hc, hm, hg, hlt, hcell, hel⟩
  ·exact Or.inl h
  refine Or.inr ⟨g, cap, vs, hv, hl, hc, hm, ha g hlt hg, by omega, fun i u hu => ?_, fun i x u hx hu => St.move hs hb ha n x u (hel i x u hx hu)⟩
  rw [World.cell?_of_block (w := w) (w' := w1) (a := ⟨g, i, none⟩) (hb g hlt hg)]
  exact hcell i u hu
 | n + 1, Sum.inr (Sum.inr fs), v, h => by
  rcases h with h | ⟨g, cap, vs, hv, hl, hc, hm, hg, hlt, hcell, hel⟩
  ·exact Or.inl h
  refine Or.inr ⟨g, cap, vs, hv, hl, hc, hm, ha g hlt hg, by omega, fun i f u hf hu => ?_, fun i f u hf hu => St.move hs hb ha n f.2 u (hel i f u hf hu)⟩
  rw [World.cell?_of_block (w := w) (w' := w1) (a := ⟨g, i * 2, none⟩) (hb g hlt hg), World.cell?_of_block (w := w) (w' := w1) (a := ⟨g, i * 2 + 1, none⟩) (hb g hlt hg)]
  exact hcell i f u hf hu
theorem St.mono {av av' : Nat -> Prop} {w : World} {n : Nat} {j : J n} {v : Value} (h : St av w n j v) (ha : ∀ c, c < w.heap.size -> av' c -> av c) : St av' w n j v :=
 St.move (Nat.le_refl _) (fun _ _ _ => rfl) (fun c hc hn e => hn (ha c hc e)) n j v h
theorem St.step {av : Nat -> Prop} {w w1 : World} {n : Nat} {j : J n} {v : Value} (h : St av w n j v) (hs : w.heap.size <= w1.heap.size) (hb : ∀ c, c < w.heap.size -> ¬ av c -> w1.heap[c]? = w.heap[c]?) : St av w1 n j v :=
 St.move hs hb (fun _ _ hn => hn) n j v h
theorem St.grown {av : Nat -> Prop} {w w1 : World} {n : Nat} {j : J n} {v : Value} {row : Option Nat} (h : St av w n j v) (hg : w.grownBy w1 row) (hr : ∀ k, row = some k -> av k) : St av w1 n j v :=
 h.step hg.size fun c hc hn => hg.block c hc (fun e => hn (hr c e.symm))
theorem St.wide {av av' : Nat -> Prop} {w : World} {n : Nat} {j : J n} {v : Value} (h : St av w n j v) (ha : ∀ c, av' c -> av c ∨ w.heap.size <= c) : St av' w n j v :=
 h.mono (fun c hc e => by rcases ha c e with h1 | h1
                          · exact h1
                          · omega)
theorem st_leaf (av : Nat -> Prop) (w : World) (n : Nat) (l : Leaf) : St av w n (leaf n l) (leafV l) := by
 cases n <;> rfl
theorem st_list {av : Nat -> Prop} {w : World} {n : Nat} {xs : List (J n)} {g cap : Nat} {vs : List Value} (hl : vs.length = xs.length) (hc : xs.length <= cap) (hm : cap <= maxLen) (hg : ¬ av g) (hlt : g < w.heap.size)
  (hcell : ∀ (i : Nat) (u : Value), vs[i]? = some u -> w.cell? ⟨g, i, none⟩ = some u) (hel : ∀ (i : Nat) (x : J n) (u : Value), xs[i]? = some x -> vs[i]? = some u -> St av w n x u) :
  St av w (n + 1) (Sum.inr (Sum.inl xs)) (.iface 78 (.slice (some ⟨g, 0, none⟩) xs.length cap)) :=
 Or.inr ⟨g, cap, vs, rfl, hl, hc, hm, hg, hlt, hcell, hel⟩
theorem st_object {av : Nat -> Prop} {w : World} {n : Nat} {fs : List (Bs × J n)} {g cap : Nat} {vs : List Value} (hl : vs.length = fs.length) (hc : fs.length <= cap) (hm : cap <= maxLen) (hg : ¬ av g) (hlt : g < w.heap.size)
  (hcell : ∀ (i : Nat) (f : Bs × J n) (u : Value), fs[i]? = some f -> vs[i]? = some u -> w.cell? ⟨g, i * 2, none⟩ = some (.string ⟨f.1.toArray⟩) /\ w.cell? ⟨g, i * 2 + 1, none⟩ = some u) (hel : ∀ (i : Nat) (f : Bs × J n) (u : Value), fs[i]? = some f -> vs[i]? = some u -> St av w n f.2 u) :
  St av w (n + 1) (Sum.inr (Sum.inr fs)) (.iface 53 (.slice (some ⟨g, 0, none⟩) fs.length cap)) :=
 Or.inr ⟨g, cap, vs, rfl, hl, hc, hm, hg, hlt, hcell, hel⟩
theorem St.list {av : Nat -> Prop} {w : World} {n : Nat} {xs : List (J n)} {v : Value} (h : St av w (n + 1) (Sum.inr (Sum.inl xs)) v) : ∃ (p : Option Addr) (g cap : Nat) (vs : List Value), v = .iface 78 (.slice p xs.length cap) /\ (∀ k, k < xs.length -> p = some ⟨g, 0, none⟩ /\ ¬ av g /\ g < w.heap.size) /\ vs.length = xs.length /\ xs.length <= cap /\ cap <= maxLen /\
      (∀ (i : Nat) (u : Value), vs[i]? = some u -> w.cell? ⟨g, i, none⟩ = some u) /\ ∀ (i : Nat) (x : J n) (u : Value), xs[i]? = some x -> vs[i]? = some u -> St av w n x u := by
 rcases h with ⟨rfl, rfl⟩ | ⟨g, cap, vs, hv, hl, hc, hm, hg, hlt, hcell, hel⟩
 ·exact ⟨none, 0, 0, [], rfl, fun k hk => by simp at hk, rfl, Nat.le_refl _, Nat.zero_le _, fun i u hu => by simp at hu, fun i x u hx => by simp at hx⟩
 ·exact ⟨_, g, cap, vs, hv, fun k hk => ⟨rfl, hg, hlt⟩, hl, hc, hm, hcell, hel⟩
theorem St.obj {av : Nat -> Prop} {w : World} {n : Nat} {fs : List (Bs × J n)} {v : Value} (h : St av w (n + 1) (Sum.inr (Sum.inr fs)) v) : ∃ (p : Option Addr) (g cap : Nat) (vs : List Value), v = .iface 53 (.slice p fs.length cap) /\ (∀ k, k < fs.length -> p = some ⟨g, 0, none⟩ /\ ¬ av g /\ g < w.heap.size) /\ vs.length = fs.length /\ fs.length <= cap /\ cap <= maxLen /\
      (∀ (i : Nat) (f : Bs × J n) (u : Value), fs[i]? = some f -> vs[i]? = some u -> w.cell? ⟨g, i * 2, none⟩ = some (.string ⟨f.1.toArray⟩) /\ w.cell? ⟨g, i * 2 + 1, none⟩ = some u) /\ ∀ (i : Nat) (f : Bs × J n) (u : Value), fs[i]? = some f -> vs[i]? = some u -> St av w n f.2 u := by
 rcases h with ⟨rfl, rfl⟩ | ⟨g, cap, vs, hv, hl, hc, hm, hg, hlt, hcell, hel⟩
 ·exact ⟨none, 0, 0, [], rfl, fun k hk => by simp at hk, rfl, Nat.le_refl _, Nat.zero_le _, fun i f u hf => by simp at hf, fun i f u hf => by simp at hf⟩
 ·exact ⟨_, g, cap, vs, hv, fun k hk => ⟨rfl, hg, hlt⟩, hl, hc, hm, hcell, hel⟩
def Row (w : World) (e : TypeId) (size g n cap : Nat) (xs : List Value) : Prop :=
 xs.length = n * size /\ ∃ cur, w.heap[g]? = some (.cells cur e (0, 0)) /\ n <= cap /\ cap <= maxLen /\ cur.size = cap * size /\ cur.toList.take (n * size) = xs
section
variable {w w' : World} {e : TypeId} {size g n cap : Nat} {xs : List Value}
theorem Row.owns (h : Row w e size g n cap xs) : w.ownsRow g e size (.slice (some ⟨g, 0, none⟩) n cap) n xs := by
 obtain ⟨h1, cur, h2, h3, h4, h5, h6⟩ := h
 exact ⟨h1, Or.inr ⟨g, cap, cur, rfl, Nat.le_refl _, h2, h3, h4, h5, h6⟩⟩
theorem Row.lt (h : Row w e size g n cap xs) : g < w.heap.size := by
 obtain ⟨_, cur, h2, _⟩ := h
 exact lt_of_block h2
theorem Row.caps (h : Row w e size g n cap xs) : n <= cap /\ cap <= maxLen := by
 obtain ⟨_, cur, _, h3, h4, _⟩ := h
 exact ⟨h3, h4⟩
theorem Row.kept {row : Option Nat} (h : Row w e size g n cap xs) (hg : w.grownBy w' row) (hne : row ≠ some g) : Row w' e size g n cap xs := by
 obtain ⟨h1, cur, h2, r⟩ := h
 exact ⟨h1, cur, (hg.block g (lt_of_block h2) (fun e => hne e.symm)).trans h2, r⟩
theorem Row.of_owns {base : Nat} {v : Value} (h : w.ownsRow base e size v n xs) (hn : n ≠ 0) : ∃ g cap, v = .slice (some ⟨g, 0, none⟩) n cap /\ base <= g /\ Row w e size g n cap xs := by
 obtain ⟨h1, h2⟩ := h
 rcases h2 with ⟨_, h0⟩ | ⟨g, cap, cur, rfl, hb, hh, r⟩
 ·exact absurd h0 hn
 ·exact ⟨g, cap, rfl, hb, h1, cur, hh, r⟩
theorem Row.cell (h : Row w e size g n cap xs) (i : Nat) (u : Value) (hu : xs[i]? = some u) : w.cell? ⟨g, i, none⟩ = some u := by
 obtain ⟨h1, cur, h2, _, _, _, h6⟩ := h
 rw [cell_of_row _ _ _ _ _ _ h2]
 rw [<- h6, List.getElem?_take] at hu
 split at hu
 ·simpa using hu
 ·cases hu
end
def Rd (b : Nat) (t : ByteArray) (p k : Nat) (w : World) : Prop := w.heap[b]? = some (.cells #[.string t, .int .i64 p, .int .i64 k] 72 (0, 0))
section
variable {b : Nat} {t : ByteArray} {p k : Nat} {w w' : World}
theorem Rd.text (h : Rd b t p k w) : w.cell? ⟨b, 0, none⟩ = some (.string t) := by rw [cell_of_row _ _ _ _ _ _ h]; rfl
theorem Rd.place (h : Rd b t p k w) : w.cell? ⟨b, 1, none⟩ = some (.int .i64 p) := by rw [cell_of_row _ _ _ _ _ _ h]; rfl
theorem Rd.many (h : Rd b t p k w) : w.cell? ⟨b, 2, none⟩ = some (.int .i64 k) := by rw [cell_of_row _ _ _ _ _ _ h]; rfl
theorem Rd.free (h : Rd b t p k w) (j : Nat) : w.frozen? ⟨b, j, none⟩ = false := frozen_of_row _ _ _ _ _ h
theorem Rd.drew (h : Rd b t p k w) : Rd b t p k w.drew := h
theorem Rd.drewN (h : Rd b t p k w) (n : Nat) : Rd b t p k (w.drewN n) := h
theorem Rd.lt (h : Rd b t p k w) : b < w.heap.size := lt_of_block h
theorem Rd.move (h : Rd b t p k w) (q : Nat) : Rd b t q k (w.setCell ⟨b, 1, none⟩ (.int .i64 q)) := by
 have := heap_setCell_same w b 1 _ _ (.int .i64 q) h
 exact this
theorem Rd.count (h : Rd b t p k w) (q : Nat) : Rd b t p q (w.setCell ⟨b, 2, none⟩ (.int .i64 q)) := by
 have := heap_setCell_same w b 2 _ _ (.int .i64 q) h
 exact this
theorem Rd.alloc (h : Rd b t p k w) (o : Obj) : Rd b t p k (w.alloc o) := by
 have := Below.heap_alloc w o b h.lt
 exact this.trans h
theorem Rd.kept {row : Option Nat} (h : Rd b t p k w) (hg : w.grownBy w' row) (hne : some b ≠ row) : Rd b t p k w' := (hg.block b h.lt hne).trans h
end
def skipAt (t : ByteArray) (p : Nat) : Nat := t.size - (skip (rest t p)).length
theorem skip_len : ∀ r : Bs, (skip r).length <= r.length
 | [] => Nat.le_refl _
 | c :: r => by
  rw [skip]
  split
  ·exact Nat.le_trans (skip_len r) (by simp)
  ·exact Nat.le_refl _
theorem skip_drop : ∀ r : Bs, skip r = r.drop (r.length - (skip r).length)
 | [] => rfl
 | c :: r => by
  rw [skip]
  split
  ·have := skip_len r
   have e : (c :: r).length - (skip r).length = (r.length - (skip r).length) + 1 := by simp; omega
   rw [e, List.drop_succ_cons]
   exact skip_drop r
  ·simp
theorem rest_skip (t : ByteArray) (p : Nat) (hp : p <= t.size) : rest t (skipAt t p) = skip (rest t p) := by
 have h1 := skip_drop (rest t p)
 have h2 := skip_len (rest t p)
 rw [rest_len] at h1 h2
 conv => rhs; rw [h1]
 unfold rest skipAt
 rw [List.drop_drop]
 congr 1
 unfold rest at h2 ⊢
 omega
theorem skipAt_le (t : ByteArray) (p : Nat) : skipAt t p <= t.size := Nat.sub_le _ _
theorem skipAt_ge (t : ByteArray) (p : Nat) (hp : p <= t.size) : p <= skipAt t p := by
 have h2 := skip_len (rest t p)
 rw [rest_len] at h2
 unfold skipAt
 omega
theorem skipAt_step {t : ByteArray} {p : Nat} (h : blank (hd (rest t p)) = true) : skipAt t p = skipAt t (p + 1) := by
 have hlt : p < t.size := lt_of_hd (fun e => by rw [e] at h; exact absurd h (by decide))
 unfold skipAt
 rw [rest_cons hlt, skip]
 rw [hd_lt hlt] at h
 rw [if_pos h]
theorem skipAt_stop {t : ByteArray} {p : Nat} (hp : p <= t.size) (h : blank (hd (rest t p)) = false) : skipAt t p = p := by
 unfold skipAt
 rcases Nat.lt_or_ge p t.size with h' | h'
 ·rw [hd_lt h'] at h
  have e : skip (rest t p) = rest t p := by rw [rest_cons h', skip, if_neg (by simp [h])]
  rw [e, rest_len]
  omega
 ·rw [rest_nil h']
  simp [skip]
  omega
set_option maxHeartbeats 400000 in
theorem next_any (b : Nat) (t : ByteArray) (p k : Nat) (w : World) (h : Rd b t p k w) (hp : p <= t.size) (ht : t.size <= 2000) :
  Calls Tryz.prog 57 #[.pointer (some ⟨b, 0, none⟩)] w fun e w' => e = .returned (.int .u8 (hd (rest t p)).toNat) /\ ∃ m, w' = w.drewN m := by
 have h0 := h.text
 have h1 := h.place
 have HR : Hid (Rd b t p k w) := h
 clear h
 by_cases hlt : p < t.size
 ·have hh := hd_lt hlt
  have hI : (p : Int) < (t.size : Int) := by omega
  go_enter Tryz.func57, Tryz.ntmps57
  go_wp2
  go_quiet (fail)
  go_wp2
  go_quiet (fail)
  go_wp2
  go_ret
  exact ⟨by rw [hh]; rfl, _, drewN_two _ _ _⟩
 ·have hh := hd_end (Nat.le_of_not_lt hlt)
  have hI : ¬ (p : Int) < (t.size : Int) := by omega
  go_enter Tryz.func57, Tryz.ntmps57
  go_wp2
  go_quiet (fail)
  go_wp2
  go_ret
  exact ⟨by rw [hh]; rfl, _, rfl⟩
theorem next_g (b : Nat) (t : ByteArray) (p k : Nat) (w : World) (h : Rd b t p k w) (hp : p <= t.size) (ht : t.size <= 2000) :
  Calls Tryz.prog 57 #[.pointer (some ⟨b, 0, none⟩)] w fun e w' => e = .returned (.int .u8 (hd (rest t p)).toNat) /\ G b w w' /\ Rd b t p k w' := by
 refine (next_any b t p k w h hp ht).mono ?_
 rintro e w1 ⟨rfl, m, rfl⟩
 exact ⟨rfl, (G.refl b w).drewN m, h.drewN m⟩
theorem bool_ne {c d : UInt8} (h : c ≠ d) : ((c.toNat : Int) != (d.toNat : Int)) = true := by
 rw [bne_iff_ne]
 intro e
 exact h (UInt8.toNat_inj.1 (by omega))
theorem bool_eq {c d : UInt8} (h : c = d) : ((c.toNat : Int) != (d.toNat : Int)) = false := by
 subst h
 simp
set_option maxHeartbeats 400000 in
theorem take_no (b : Nat) (t : ByteArray) (p k : Nat) (c : UInt8) (w : World) (h : Rd b t p k w) (hp : p <= t.size) (ht : t.size <= 2000) (hc : hd (rest t p) ≠ c) :
  Calls Tryz.prog 63 #[.pointer (some ⟨b, 0, none⟩), .int .u8 c.toNat] w fun e w' => e = .returned (.bool false) /\ G b w w' /\ Rd b t p k w' := by
 have hb := bool_ne hc
 have HR : Hid (Rd b t p k w) := h
 clear h
 go_enter Tryz.func63, Tryz.ntmps63
 go_wp2_with fail
 refine (next_any b t p k _ HR.out hp ht).mono ?_
 rintro e w1 ⟨rfl, m, rfl⟩
 go_wp2_with fail
 go_ret
 exact ⟨rfl, (G.refl b w).drewN m, HR.out.drewN m⟩
set_option maxHeartbeats 400000 in
theorem take_yes (b : Nat) (t : ByteArray) (p k : Nat) (c : UInt8) (w : World) (h : Rd b t p k w) (ht : t.size <= 2000) (hlt : p < t.size) (hc : hd (rest t p) = c) :
  Calls Tryz.prog 63 #[.pointer (some ⟨b, 0, none⟩), .int .u8 c.toNat] w fun e w' => e = .returned (.bool true) /\ G b w w' /\ Rd b t (p + 1) k w' := by
 have hb := bool_eq hc
 have h1 := fun m => (h.drewN m).place
 have h2 := fun m => (h.drewN m).free 1
 have HR : Hid (Rd b t p k w) := h
 have HC : Hid (hd (rest t p) = c) := hc
 clear h hc
 go_enter Tryz.func63, Tryz.ntmps63
 go_wp2_with fail
 refine (next_any b t p k _ HR.out (by omega) ht).mono ?_
 rintro e w1 ⟨rfl, m, rfl⟩
 have h1 := h1 m
 have h2 := h2 m
 have HR : Hid (Rd b t p k (w.drewN m)) := HR.out.drewN m
 have HG : Hid (G b w (w.drewN m)) := (G.refl b w).drewN m
 generalize w.drewN m = w1 at *
 go_wp2_with fail
 go_ret
 exact ⟨rfl, HG.out.setCell 1 _, HR.out.move (p + 1)⟩
def ValPost (b : Nat) (t : ByteArray) (p k n : Nat) (w : World) (e : Ending) (w' : World) : Prop :=
 G b w w' /\ ((∃ (er : Nat) (v : Value), value n k (rest t p) = .error er /\ er ≠ 0 /\ er < 100 /\ e = .returned (.tuple #[v, .int .i64 er]) /\ (v = .nilIface ∨ ∃ T x, v = .iface T x)) ∨
  ∃ (j : J n) (k' q : Nat) (v : Value), value n k (rest t p) = .ok (j, k', rest t q) /\ p < q /\ q <= t.size /\ k < k' /\ k' <= 200 /\ e = .returned (.tuple #[v, .int .i64 0]) /\ (∃ T x, v = .iface T x) /\ Rd b t q k' w' /\ St (fun c => c < w.heap.size) w' n j v)
def ValueOK (n : Nat) : Prop := ∀ (b : Nat) (t : ByteArray) (p k : Nat) (d : Int) (w : World), Rd b t p k w -> p <= t.size -> t.size <= 2000 -> k <= 200 -> d + n = 10 -> 0 <= d ->
 Calls Tryz.prog 45 #[.pointer (some ⟨b, 0, none⟩), .int .i64 d] w (ValPost b t p k n w)
structure LBox (b : Nat) (d : Int) (c0 c1 c2 : Nat) (w : World) (sl : Value) : Prop where
 h0 : w.heap[c0]? = some (.cells #[.pointer (some ⟨b, 0, none⟩)] 97 (0, 0))
 h1 : w.heap[c1]? = some (.cells #[.int .i64 d] 3 (0, 0))
 h2 : w.heap[c2]? = some (.cells #[sl] 78 (0, 0))
def LInv (b : Nat) (d : Int) (c0 c1 c2 N0 N1 n : Nat) (s : List (J n)) (k : Nat) (w : World) : Prop :=
 s.length <= k /\ ∃ (g cap : Nat) (vs : List Value), LBox b d c0 c1 c2 w (.slice (some ⟨g, 0, none⟩) s.length cap) /\ Row w 46 1 g s.length cap vs /\ N0 <= g /\ g ≠ c0 /\ g ≠ c1 /\ g ≠ c2 /\
  ∀ (i : Nat) (x : J n) (u : Value), s[i]? = some x -> vs[i]? = some u -> St (fun c => c < N1 ∨ c = g) w n x u
def LErr (c2 : Nat) (w : World) : Prop := ∃ a m cap, w.heap[c2]? = some (.cells #[.slice a m cap] 78 (0, 0))
theorem LInv.err {b : Nat} {d : Int} {c0 c1 c2 N0 N1 n : Nat} {s : List (J n)} {k : Nat} {w : World} (h : LInv b d c0 c1 c2 N0 N1 n s k w) : LErr c2 w := by
 obtain ⟨_, g, cap, vs, hb, _⟩ := h
 exact ⟨_, _, _, hb.h2⟩
theorem LBox.kept {b : Nat} {d : Int} {c0 c1 c2 : Nat} {w w' : World} {sl : Value} {row : Option Nat} (h : LBox b d c0 c1 c2 w sl) (g : w.grownBy w' row) (e0 : row ≠ some c0) (e1 : row ≠ some c1) (e2 : row ≠ some c2) : LBox b d c0 c1 c2 w' sl :=
 ⟨(g.block c0 (lt_of_block h.h0) (fun e => e0 e.symm)).trans h.h0, (g.block c1 (lt_of_block h.h1) (fun e => e1 e.symm)).trans h.h1, (g.block c2 (lt_of_block h.h2) (fun e => e2 e.symm)).trans h.h2⟩
theorem LInv.kept {b : Nat} {d : Int} {c0 c1 c2 N0 N1 n : Nat} {s : List (J n)} {k : Nat} {w w' : World} (h : LInv b d c0 c1 c2 N0 N1 n s k w) (g : G b w w') (hb : b < N0) (h0 : N0 <= c0) (h1 : N0 <= c1) (h2 : N0 <= c2) (hN : N0 <= N1)   : LInv b d c0 c1 c2 N0 N1 n s k w' := by
 obtain ⟨hk, gg, cap, vs, hx, hr, hg, e0, e1, e2, hel⟩ := h
 refine ⟨hk, gg, cap, vs, hx.kept g (fun e => by cases e; omega) (fun e => by cases e; omega) (fun e => by cases e; omega), hr.kept g (fun e => by cases e; omega), hg, e0, e1, e2, fun i x u hx hu => ?_⟩
 exact (hel i x u hx hu).grown g (fun k e => by cases e; exact Or.inl (by omega))
theorem Row.of_slice {w : World} {base e size g n cap : Nat} {xs : List Value} (h : w.ownsRow base e size (.slice (some ⟨g, 0, none⟩) n cap) n xs) : Row w e size g n cap xs := by
 obtain ⟨h1, h2⟩ := h
 rcases h2 with ⟨h0, _⟩ | ⟨g', cap', cur, hv, hb, hh, r⟩
 ·cases h0
 ·cases hv
  exact ⟨h1, cur, hh, r⟩
theorem heap_setCell_size (w : World) (a : Addr) (v : Value) : (w.setCell a v).heap.size = w.heap.size := by simp [World.setCell]
theorem grownBy_setCell (w : World) (c o : Nat) (v : Value) : w.grownBy (w.setCell ⟨c, o, none⟩ v) (some c) :=
 ⟨rfl, rfl, rfl, by rw [heap_setCell_size]; exact Nat.le_refl _, fun k _ hb => heap_setCell_other _ _ _ _ (fun e => hb (by rw [e]))⟩
theorem G.setNew {b c o : Nat} {w0 w : World} (h : G b w0 w) (hc : w0.heap.size <= c) (v : Value) : G b w0 (w.setCell ⟨c, o, none⟩ v) :=
 h.grown (grownBy_setCell w c o v) (fun k e => by cases e; exact hc)
theorem snoc_get {α : Type} {s : List α} {x y : α} {i : Nat} (h : (s ++ [x])[i]? = some y) : (i < s.length /\ s[i]? = some y) ∨ (i = s.length /\ x = y) := by
 rcases Nat.lt_trichotomy i s.length with h' | h' | h'
 ·rw [List.getElem?_append_left h'] at h
  exact Or.inl ⟨h', h⟩
 ·subst h'
  rw [List.getElem?_append_right (Nat.le_refl _)] at h
  simp at h
  exact Or.inr ⟨rfl, h⟩
 ·rw [List.getElem?_append_right (by omega)] at h
  rw [List.getElem?_eq_none (by simp; omega)] at h
  cases h
theorem linv_step {b : Nat} {d : Int} {c0 c1 c2 N0 N1 n g cap g' cap' k' : Nat} {s : List (J n)} {j : J n} {v : Value} {vs : List Value} {w w1 w2 : World} {o : Obj} {row : Option Nat}
  (hx : LBox b d c0 c1 c2 w (.slice (some ⟨g, 0, none⟩) s.length cap)) (hr : Row w 46 1 g s.length cap vs) (hg : N0 <= g) (e0 : g ≠ c0) (e1 : g ≠ c1) (e2 : g ≠ c2)
  (hel : ∀ (i : Nat) (x : J n) (u : Value), s[i]? = some x -> vs[i]? = some u -> St (fun c => c < N1 ∨ c = g) w n x u)
  (hb : b < N0) (k0 : N0 <= c0) (k1 : N0 <= c1) (k2 : N0 <= c2) (l2 : c2 < N1) (l0 : c0 < N1) (l1 : c1 < N1) (n01 : c0 ≠ c2) (n12 : c1 ≠ c2) (hN : N0 <= N1) (hNw : N1 <= w.heap.size)
  (hG : G b w w1) (hst : St (fun c => c < w.heap.size) w1 n j v) (happ : (w1.alloc o).grownBy w2 row)
  (hrow : Row w2 46 1 g' (s.length + 1) cap' (vs ++ [v])) (hg' : (row = some g /\ g' = g) ∨ (row = none /\ w1.heap.size < g')) (hk' : s.length < k') :
  LInv b d c0 c1 c2 N0 N1 n (s ++ [j]) k' (w2.setCell ⟨c2, 0, none⟩ (.slice (some ⟨g', 0, none⟩) (s.length + 1) cap')) := by
 have hgw : g < w.heap.size := hr.lt
 have hsz := hG.size
 have hA : (w1.alloc o).heap.size = w1.heap.size + 1 := by simp
 have hg2 : N0 <= g' /\ g' ≠ c0 /\ g' ≠ c1 /\ g' ≠ c2 := by
  rcases hg' with ⟨_, rfl⟩ | ⟨_, h⟩
  ·exact ⟨hg, e0, e1, e2⟩
  ·have a0 := lt_of_block hx.h0
   have a1 := lt_of_block hx.h1
   have a2 := lt_of_block hx.h2
   omega
 have hx2 : LBox b d c0 c1 c2 w2 (.slice (some ⟨g, 0, none⟩) s.length cap) := by
  have h1 := hx.kept hG (fun e => by cases e; omega) (fun e => by cases e; omega) (fun e => by cases e; omega)
  have h2 := h1.kept (World.grownBy_alloc w1 o none) (fun e => by cases e) (fun e => by cases e) (fun e => by cases e)
  refine h2.kept happ ?_ ?_ ?_
  all_goals (rcases hg' with ⟨rfl, _⟩ | ⟨rfl, _⟩)
  all_goals (intro e; cases e; try contradiction)
 have hrow_av : ∀ k, row = some k -> (k < N1 ∨ k = g ∨ k = g') := by
  rcases hg' with ⟨rfl, _⟩ | ⟨rfl, _⟩
  ·intro k e; cases e; exact Or.inr (Or.inl rfl)
  ·intro k e; cases e
 have hset : ∀ {x : J n} {u : Value}, St (fun c => c < N1 ∨ c = g ∨ c = g') (w1.alloc o) n x u -> St (fun c => c < N1 ∨ c = g') (w2.setCell ⟨c2, 0, none⟩ (.slice (some ⟨g', 0, none⟩) (s.length + 1) cap')) n x u := by
  intro x u h
  have h1 := h.grown happ hrow_av
  have h2 := h1.mono (av' := fun c => c < N1 ∨ c = g') (fun c _ e => by rcases e with e | e
                                                                        · exact Or.inl e
                                                                        · exact Or.inr (Or.inr e))
  exact h2.grown (grownBy_setCell w2 c2 0 _) (fun k e => by cases e; exact Or.inl l2)
 refine ⟨by simp; omega, g', cap', vs ++ [v], ?_, ?_, hg2.1, hg2.2.1, hg2.2.2.1, hg2.2.2.2, ?_⟩
 ·have hs : (s ++ [j]).length = s.length + 1 := by simp
  rw [hs]
  exact ⟨(heap_setCell_other _ _ _ _ n01).trans hx2.h0, (heap_setCell_other _ _ _ _ n12).trans hx2.h1, one_setCell hx2.h2⟩
 ·have hs : (s ++ [j]).length = s.length + 1 := by simp
  rw [hs]
  exact hrow.kept (grownBy_setCell w2 c2 0 _) (fun e => by cases e; exact hg2.2.2.2 rfl)
 ·intro i x u hxi hui
  have hvl : vs.length = s.length := by have := hr.1; omega
  rcases snoc_get hxi with ⟨hi, hxi⟩ | ⟨hi, rfl⟩
  ·rcases snoc_get hui with ⟨_, hui⟩ | ⟨hi2, _⟩
   ·refine hset ?_
    have h1 := (hel i x u hxi hui).grown hG (fun k e => by cases e; exact Or.inl (by omega))
    have h2 := h1.grown (World.grownBy_alloc w1 o none) (fun k e => by cases e)
    exact h2.wide (fun c e => by
     rcases e with e | e | e
     ·exact Or.inl (Or.inl e)
     ·exact Or.inl (Or.inr e)
     ·rcases hg' with ⟨_, h⟩ | ⟨_, h⟩
      ·exact Or.inl (Or.inr (by omega))
      ·exact Or.inr (by omega))
   ·omega
  ·rcases snoc_get hui with ⟨hi2, _⟩ | ⟨_, rfl⟩
   ·omega
   ·refine hset ?_
    have h2 := hst.grown (World.grownBy_alloc w1 o none) (fun k e => by cases e)
    exact h2.wide (fun c e => by
     rcases e with e | e | e
     ·exact Or.inl (by omega)
     ·exact Or.inl (by omega)
     ·rcases hg' with ⟨_, h⟩ | ⟨_, h⟩
      ·exact Or.inl (by omega)
      ·exact Or.inr (by omega))
end Go.Proofs.YtjcdklbimaclkaaGreatDoor
namespace Go.Proofs.YtjcdklbimaclkaaGreatDoor
def meant (c : UInt8) : Bool := plain c || (c == 10 || c == 9)
theorem meaning_meant (d : UInt8) (h : ¬ meaning d = 0) : meant (meaning d) = true /\ (quoteB (meaning d)).length <= 2 := by
 unfold meaning at h ⊢
 split at h
 ·rename_i h1
  rw [if_pos h1]
  rcases h1 with rfl | rfl <;> decide
 ·rename_i h1
  rw [if_neg h1]
  split at h
  ·rename_i h2
   rw [if_pos h2]
   decide
  ·rename_i h2
   rw [if_neg h2]
   split at h
   ·rename_i h3
    rw [if_pos h3]
    decide
   ·exact absurd rfl h
theorem plain_meant (c : UInt8) (h34 : ¬ c = 34) (h92 : ¬ c = 92) (hp : plain c = true) : meant c = true /\ (quoteB c).length <= 1 := by
 refine ⟨by simp [meant, hp], ?_⟩
 have h10 : c ≠ 10 := by intro e; subst e; revert hp; decide
 have h9 : c ≠ 9 := by intro e; subst e; revert hp; decide
 simp [quoteB, h10, h9, h34, h92]
theorem signs_nil : signs [] = none := by rw [signs.eq_def]
theorem signs_cons (c : UInt8) (r : Bs) : signs (c :: r) = if c = 34 then some ([], r)
  else if c = 92 then
   match r with
   | [] => none
   | d :: r' => if meaning d = 0 then none else (signs r').map fun p => (meaning d :: p.1, p.2)
  else if plain c then (signs r).map fun p => (c :: p.1, p.2)
  else none := by
 rw [signs.eq_def]
 rfl
theorem quoteB_cases (c : UInt8) (h : meant c = true) : (quoteB c = [c] /\ c ≠ 34 /\ c ≠ 92 /\ plain c = true) ∨ ∃ d, quoteB c = [92, d] /\ meaning d = c /\ c ≠ 0 := by
 by_cases h10 : c = 10
 ·subst h10; exact Or.inr ⟨110, by decide⟩
 by_cases h9 : c = 9
 ·subst h9; exact Or.inr ⟨116, by decide⟩
 by_cases h34 : c = 34
 ·subst h34; exact Or.inr ⟨34, by decide⟩
 by_cases h92 : c = 92
 ·subst h92; exact Or.inr ⟨92, by decide⟩
 refine Or.inl ⟨by simp [quoteB, h10, h9, h34, h92], h34, h92, ?_⟩
 simpa [meant, h10, h9] using h
theorem signs_quoteB (c : UInt8) (h : meant c = true) (r : Bs) : signs (quoteB c ++ r) = (signs r).map fun p => (c :: p.1, p.2) := by
 rcases quoteB_cases c h with ⟨e, h1, h2, h3⟩ | ⟨d, e, hm, h0⟩
 ·rw [e]
  show signs (c :: r) = _
  rw [signs_cons]
  simp only [h1, h2, h3, if_true, if_false]
 ·rw [e]
  show signs (92 :: d :: r) = _
  rw [signs_cons]
  simp [hm, h0]
theorem signs_quote : ∀ (s : Bs) (_ : ∀ c ∈ s, meant c = true) (r : Bs), signs (s.flatMap quoteB ++ 34 :: r) = some (s, r)
 | [], _, r => by simp [signs_cons]
 | c :: s, h, r => by
  rw [List.flatMap_cons, List.append_assoc, signs_quoteB c (h c (by simp)), signs_quote s (fun d hd => h d (by simp [hd])) r]
  rfl
theorem quoted_quote (s : Bs) (h : ∀ c ∈ s, meant c = true) (r : Bs) : quoted (quote s ++ r) = some (s, r) := by
 have : quote s ++ r = 34 :: (s.flatMap quoteB ++ 34 :: r) := by simp [quote]
 rw [this, quoted]
 simp only [hd, List.headD_cons, List.tail_cons, if_true]
 exact signs_quote s h r
theorem signs_meant : ∀ (n : Nat) (r : Bs) (_ : r.length <= n) (p : Bs × Bs), signs r = some p -> (∀ c ∈ p.1, meant c = true) /\ (p.1.flatMap quoteB).length + p.2.length < r.length
 | 0, [], _, p, h => by simp [signs_nil] at h
 | 0, _ :: _, hn, _, _ => by simp at hn
 | _ + 1, [], _, p, h => by simp [signs_nil] at h
 | n + 1, c :: r, hn, p, h => by
  rw [signs_cons] at h
  have hn' : r.length <= n := by simpa using hn
  split at h
  ·cases h; simp
  ·rename_i h34
   split at h
   ·split at h
    ·cases h
    ·rename_i d r'
     split at h
     ·cases h
     ·rename_i hm
      cases hs : signs r' with
      | none => rw [hs] at h; cases h
      | some q =>
       rw [hs] at h
       cases h
       have ih := signs_meant n r' (by simp at hn'; omega) q hs
       have hd := meaning_meant d hm
       refine ⟨fun c hc => ?_, ?_⟩
       ·rcases List.mem_cons.1 hc with rfl | hc
        ·exact hd.1
        ·exact ih.1 c hc
       ·simp only [List.flatMap_cons, List.length_append, List.length_cons]
        have := ih.2
        omega
   ·rename_i h92
    split at h
    ·rename_i hp
     cases hs : signs r with
     | none => rw [hs] at h; cases h
     | some q =>
      rw [hs] at h
      cases h
      have ih := signs_meant n r hn' q hs
      have hd := plain_meant c h34 h92 hp
      refine ⟨fun c hc => ?_, ?_⟩
      ·rcases List.mem_cons.1 hc with rfl | hc
       ·exact hd.1
       ·exact ih.1 c hc
      ·simp only [List.flatMap_cons, List.length_append, List.length_cons]
       have := ih.2
       omega
    ·cases h
theorem quoted_meant {r : Bs} {p : Bs × Bs} (h : quoted r = some p) : (∀ c ∈ p.1, meant c = true) /\ (quote p.1).length + p.2.length <= r.length := by
 unfold quoted at h
 split at h
 ·cases r with
  | nil => simp [signs_nil] at h
  | cons c r =>
   have := signs_meant r.length r (Nat.le_refl _) p h
   refine ⟨this.1, ?_⟩
   simp only [quote, List.length_cons, List.length_append, List.length_nil]
   have := this.2
   omega
 ·cases h
end Go.Proofs.YtjcdklbimaclkaaGreatDoor
namespace Go.Proofs.YtjcdklbimaclkaaGreatDoor
set_option linter.unusedVariables false
set_option linter.unusedSimpArgs false
theorem digit_iff (c : UInt8) : isDigit c = true ↔ 48 <= c.toNat /\ c.toNat <= 57 := by
 unfold isDigit
 simp only [Bool.and_eq_true, decide_eq_true_eq, UInt8.le_iff_toNat_le]
 exact Iff.rfl
theorem foldl_lt : ∀ (ds : Bs) (a k : Nat), (∀ c ∈ ds, isDigit c = true) -> a < 10 ^ k -> ds.foldl (fun n c => 10 * n + (c.toNat - 48)) a < 10 ^ (k + ds.length)
 | [], a, k, _, ha => by simpa using ha
 | c :: ds, a, k, h, ha => by
  have hc := (digit_iff c).1 (h c (by simp))
  have := foldl_lt ds (10 * a + (c.toNat - 48)) (k + 1) (fun d hd => h d (by simp [hd])) (by rw [Nat.pow_succ]; omega)
  rw [List.foldl_cons, List.length_cons]
  rw [show k + (ds.length + 1) = k + 1 + ds.length by omega]
  exact this
theorem decV_lt (ds : Bs) (h : ∀ c ∈ ds, isDigit c = true) : decV ds < 10 ^ ds.length := by
 have := foldl_lt ds 0 0 h (by simp)
 simpa [decV] using this
theorem parseM_ok : ∀ (ds : Bs) (a k M : Nat), (∀ c ∈ ds, isDigit c = true) -> a < 10 ^ k -> k + ds.length <= 18 -> 10 ^ 18 <= M -> Lib.parseUintM M a ds = .ok (ds.foldl (fun n c => 10 * n + (c.toNat - 48)) a)
 | [], a, k, M, _, ha, hk, hM => by simp [Lib.parseUintM]
 | c :: ds, a, k, M, h, ha, hk, hM => by
  have hc := (digit_iff c).1 (h c (by simp))
  have hlt : 10 * a + (c.toNat - 48) < 10 ^ (k + 1) := by rw [Nat.pow_succ]; omega
  have hle : 10 ^ (k + 1) <= 10 ^ 18 := Nat.pow_le_pow_right (by decide) (by simp at hk; omega)
  have ih := parseM_ok ds (10 * a + (c.toNat - 48)) (k + 1) M (fun d hd => h d (by simp [hd])) hlt (by simp at hk ⊢; omega) hM
  unfold Lib.parseUintM
  have h10 : 10 ^ k <= 10 ^ 17 := Nat.pow_le_pow_right (by decide) (by simp at hk; omega)
  rw [if_pos hc, if_neg (by omega), if_neg (by omega), Nat.mul_comm a 10, ih]
  rfl
theorem parse_ok (below : Bool) (ds : Bs) (h : ∀ c ∈ ds, isDigit c = true) (h0 : ds ≠ []) (h18 : ds.length <= 18) :
  Lib.parseIntB 64 ((if below then [45] else []) ++ ds) = .ok (numVal below ds) := by
 have hu : Lib.parseUintB 64 ds = .ok (decV ds) := by
  unfold Lib.parseUintB
  rw [if_neg h0]
  exact parseM_ok ds 0 0 _ h (by simp) (by omega) (by decide)
 have hlt := decV_lt ds h
 have hle : 10 ^ ds.length <= 10 ^ 18 := Nat.pow_le_pow_right (by decide) h18
 have hb : decV ds < 2 ^ 63 := by omega
 cases below with
 | true =>
  show Lib.parseIntB 64 (45 :: ds) = _
  rw [Lib.parseIntB_minus, hu]
  show (if 2 ^ 63 < decV ds then _ else _) = _
  rw [if_neg (by omega)]
  rfl
 | false =>
  show Lib.parseIntB 64 ds = _
  cases ds with
  | nil => exact absurd rfl h0
  | cons c r =>
   have hc := (digit_iff c).1 (h c (by simp))
   rw [Lib.parseIntB_plain 64 c r (by omega) (by omega), hu]
   show (if 2 ^ 63 <= decV (c :: r) then _ else _) = _
   rw [if_neg (by omega)]
   rfl
end Go.Proofs.YtjcdklbimaclkaaGreatDoor
namespace Go.Proofs.YtjcdklbimaclkaaGreatDoor
open Go.RowKit
set_option linter.unusedVariables false
set_option linter.unusedSimpArgs false
def placeOf (b : Nat) (w : World) : Nat := (intOf ((w.cell? ⟨b, 1, none⟩).getD undef)).toNat
theorem Rd.placeOf_eq {b : Nat} {t : ByteArray} {p k : Nat} {w : World} (h : Rd b t p k w) : placeOf b w = p := by
 unfold placeOf
 rw [h.place]
 simp [intOf]
set_option maxHeartbeats 1000000 in
theorem skipBlanks_any (b : Nat) (t : ByteArray) (p k : Nat) (w : World) (h : Rd b t p k w) (hp : p <= t.size) (ht : t.size <= 2000) :
  Calls Tryz.prog 46 #[.pointer (some ⟨b, 0, none⟩)] w fun e w' => e = .returned (.tuple #[]) /\ G b w w' /\ Rd b t (skipAt t p) k w' := by
 have HR : Hid (Rd b t p k w) := h
 clear h
 go_enter Tryz.func46, Tryz.ntmps46
 go_wp2_with fail
 go_loopw [2] (fun _ wr => ∃ q, q <= t.size /\ skipAt t q = skipAt t p /\ Rd b t q k wr /\ G b w wr) (fun _ wr => t.size - placeOf b wr)
 case atStart => exact ⟨p, hp, rfl, HR.out, G.refl _ _⟩
 case round =>
  obtain ⟨q, hq, hs, hR, hG⟩ := hrel
  have HS : Hid (skipAt t q = skipAt t p) := hs
  have HR : Hid (Rd b t q k wr) := hR
  have HG : Hid (G b w wr) := hG
  clear hs hR hG
  by_cases h32 : hd (rest t q) = 32
  ·have hlt : q < t.size := lt_of_hd (by rw [h32]; decide)
   have H32 : Hid (hd (rest t q) = 32) := h32
   clear h32
   go_wp2_with fail
   refine (take_yes b t q k 32 _ HR.out ht hlt H32.out).mono ?_
   rintro e w1 ⟨rfl, g1, r1⟩
   have HG1 : Hid (G b w w1) := HG.out.trans g1
   have HR1 : Hid (Rd b t (q + 1) k w1) := r1
   clear g1 r1
   go_wp2_with fail
   go_roundw
   case rel => exact ⟨q + 1, by omega, by rw [<- HS.out, skipAt_step (p := q) (by rw [H32.out]; decide)], HR1.out, HG1.out⟩
   case measure => rw [HR1.out.placeOf_eq, HR.out.placeOf_eq]; omega
  have HN32 : Hid (hd (rest t q) ≠ 32) := h32
  clear h32
  by_cases h10 : hd (rest t q) = 10
  ·have hlt : q < t.size := lt_of_hd (by rw [h10]; decide)
   have H10 : Hid (hd (rest t q) = 10) := h10
   clear h10
   go_wp2_with fail
   refine (take_no b t q k 32 _ HR.out hq ht HN32.out).mono ?_
   rintro e w1 ⟨rfl, g1, r1⟩
   have HG1 : Hid (G b w w1) := HG.out.trans g1
   have HR1 : Hid (Rd b t q k w1) := r1
   clear g1 r1
   go_wp2_with fail
   refine (take_yes b t q k 10 _ HR1.out ht hlt H10.out).mono ?_
   rintro e w2 ⟨rfl, g1, r1⟩
   have HG2 : Hid (G b w w2) := HG1.out.trans g1
   have HR2 : Hid (Rd b t (q + 1) k w2) := r1
   clear g1 r1
   go_wp2_with fail
   go_roundw
   case rel => exact ⟨q + 1, by omega, by rw [<- HS.out, skipAt_step (p := q) (by rw [H10.out]; decide)], HR2.out, HG2.out⟩
   case measure => rw [HR2.out.placeOf_eq, HR.out.placeOf_eq]; omega
  have HN10 : Hid (hd (rest t q) ≠ 10) := h10
  clear h10
  by_cases h9 : hd (rest t q) = 9
  ·have hlt : q < t.size := lt_of_hd (by rw [h9]; decide)
   have H9 : Hid (hd (rest t q) = 9) := h9
   clear h9
   go_wp2_with fail
   refine (take_no b t q k 32 _ HR.out hq ht HN32.out).mono ?_
   rintro e w1 ⟨rfl, g1, r1⟩
   have HG1 : Hid (G b w w1) := HG.out.trans g1
   have HR1 : Hid (Rd b t q k w1) := r1
   clear g1 r1
   go_wp2_with fail
   refine (take_no b t q k 10 _ HR1.out hq ht HN10.out).mono ?_
   rintro e w2 ⟨rfl, g1, r1⟩
   have HG2 : Hid (G b w w2) := HG1.out.trans g1
   have HR2 : Hid (Rd b t q k w2) := r1
   clear g1 r1
   go_wp2_with fail
   refine (take_yes b t q k 9 _ HR2.out ht hlt H9.out).mono ?_
   rintro e w3 ⟨rfl, g1, r1⟩
   have HG3 : Hid (G b w w3) := HG2.out.trans g1
   have HR3 : Hid (Rd b t (q + 1) k w3) := r1
   clear g1 r1
   go_wp2_with fail
   go_roundw
   case rel => exact ⟨q + 1, by omega, by rw [<- HS.out, skipAt_step (p := q) (by rw [H9.out]; decide)], HR3.out, HG3.out⟩
   case measure => rw [HR3.out.placeOf_eq, HR.out.placeOf_eq]; omega
  have HN9 : Hid (hd (rest t q) ≠ 9) := h9
  clear h9
  go_wp2_with fail
  refine (take_no b t q k 32 _ HR.out hq ht HN32.out).mono ?_
  rintro e w1 ⟨rfl, g1, r1⟩
  have HG1 : Hid (G b w w1) := HG.out.trans g1
  have HR1 : Hid (Rd b t q k w1) := r1
  clear g1 r1
  go_wp2_with fail
  refine (take_no b t q k 10 _ HR1.out hq ht HN10.out).mono ?_
  rintro e w2 ⟨rfl, g1, r1⟩
  have HG2 : Hid (G b w w2) := HG1.out.trans g1
  have HR2 : Hid (Rd b t q k w2) := r1
  clear g1 r1
  go_wp2_with fail
  refine (take_no b t q k 9 _ HR2.out hq ht HN9.out).mono ?_
  rintro e w3 ⟨rfl, g1, r1⟩
  have HG3 : Hid (G b w w3) := HG2.out.trans g1
  have HR3 : Hid (Rd b t q k w3) := r1
  clear g1 r1
  go_wp2_with fail
  go_end0
  exact ⟨rfl, HG3.out, by
   rw [<- HS.out, skipAt_stop hq (by have h1 := HN32.out; have h2 := HN10.out; have h3 := HN9.out; simp [blank, h1, h2, h3])]
   exact HR3.out⟩
set_option maxHeartbeats 400000 in
theorem takeSign_no (b : Nat) (t : ByteArray) (p k : Nat) (c : UInt8) (w : World) (h : Rd b t p k w) (hp : p <= t.size) (ht : t.size <= 2000) (hc : hd (skip (rest t p)) ≠ c) :
  Calls Tryz.prog 99 #[.pointer (some ⟨b, 0, none⟩), .int .u8 c.toNat] w fun e w' => e = .returned (.bool false) /\ G b w w' /\ Rd b t (skipAt t p) k w' := by
 have HR : Hid (Rd b t p k w) := h
 have HC : Hid (hd (skip (rest t p)) ≠ c) := hc
 clear h hc
 go_enter Tryz.func99, Tryz.ntmps99
 go_wp2_with fail
 refine (skipBlanks_any b t p k _ HR.out hp ht).mono ?_
 rintro e w1 ⟨rfl, g1, r1⟩
 have HG1 : Hid (G b w w1) := g1
 have HR1 : Hid (Rd b t (skipAt t p) k w1) := r1
 clear g1 r1
 go_wp2_with fail
 refine (take_no b t (skipAt t p) k c _ HR1.out (skipAt_le t p) ht (by rw [rest_skip t p hp]; exact HC.out)).mono ?_
 rintro e w2 ⟨rfl, g1, r1⟩
 have HG2 : Hid (G b w w2) := HG1.out.trans g1
 have HR2 : Hid (Rd b t (skipAt t p) k w2) := r1
 clear g1 r1
 go_wp2_with fail
 go_ret
 exact ⟨rfl, HG2.out, HR2.out⟩
set_option maxHeartbeats 400000 in
theorem takeSign_yes (b : Nat) (t : ByteArray) (p k : Nat) (c : UInt8) (w : World) (h : Rd b t p k w) (hp : p <= t.size) (ht : t.size <= 2000) (hc : hd (skip (rest t p)) = c) (h0 : c ≠ 0) :
  Calls Tryz.prog 99 #[.pointer (some ⟨b, 0, none⟩), .int .u8 c.toNat] w fun e w' => e = .returned (.bool true) /\ G b w w' /\ Rd b t (skipAt t p + 1) k w' := by
 have HR : Hid (Rd b t p k w) := h
 have HC : Hid (hd (skip (rest t p)) = c) := hc
 clear h hc
 go_enter Tryz.func99, Tryz.ntmps99
 go_wp2_with fail
 refine (skipBlanks_any b t p k _ HR.out hp ht).mono ?_
 rintro e w1 ⟨rfl, g1, r1⟩
 have HG1 : Hid (G b w w1) := g1
 have HR1 : Hid (Rd b t (skipAt t p) k w1) := r1
 clear g1 r1
 go_wp2_with fail
 refine (take_yes b t (skipAt t p) k c _ HR1.out ht (lt_of_hd (by rw [rest_skip t p hp, HC.out]; exact h0)) (by rw [rest_skip t p hp]; exact HC.out)).mono ?_
 rintro e w2 ⟨rfl, g1, r1⟩
 have HG2 : Hid (G b w w2) := HG1.out.trans g1
 have HR2 : Hid (Rd b t (skipAt t p + 1) k w2) := r1
 clear g1 r1
 go_wp2_with fail
 go_ret
 exact ⟨rfl, HG2.out, HR2.out⟩
theorem run_index (s : ByteArray) (n : Int) (w : World) : Sem.run Tryz.prog (callFunc 112 #[.string s, .int .u8 n]) w = .ok (.value (.int .i64 (firstIdx s n.toNat.toUInt8))) w := by
 rw [run_callFunc_extern (e := Extern.BytealgIndexByte.indexByte) Tryz.func112 (by kernel_rfl) (by kernel_rfl) (by kernel_rfl) (by kernel_rfl)]
 rw [run_indexByte_string]
 rfl
set_option maxRecDepth 100000 in
set_option maxHeartbeats 400000 in
theorem index_any (s : ByteArray) (n : Int) (w : World) : Calls Tryz.prog 80 #[.string s, .int .u8 n] w fun e w' => e = .returned (.int .i64 (firstIdx s n.toNat.toUInt8)) /\ w' = w := by
 have h := run_index
 go_enter Tryz.func80, Tryz.ntmps80
 go_wp2
 go_ret
 exact ⟨rfl, rfl⟩
def opensT : ByteArray := { data := #[110, 116, 102, 34, 91, 123, 45, 48, 49, 50, 51, 52, 53, 54, 55, 56, 57] }
theorem opens_all : ∀ n : Fin 256, decide (firstIdx opensT (UInt8.ofNat n.val) < 0) = !(opens.contains (UInt8.ofNat n.val)) := by decide +kernel
theorem opens_idx (c : UInt8) : decide (firstIdx opensT c < 0) = !(opens.contains c) := by
 have := opens_all ⟨c.toNat, c.toNat_lt⟩
 simpa using this
theorem idx_neg {c : UInt8} (h : ¬ c ∈ opens) : firstIdx opensT c < 0 := by
 have := opens_idx c
 have e : opens.contains c = false := by simpa using h
 rw [e] at this
 simpa using this
theorem idx_pos {c : UInt8} (h : c ∈ opens) : ¬ firstIdx opensT c < 0 := by
 have := opens_idx c
 have e : opens.contains c = true := by simpa using h
 rw [e] at this
 simpa using this
set_option maxRecDepth 100000 in
set_option maxHeartbeats 400000 in
theorem begin_syntax (b : Nat) (t : ByteArray) (p k : Nat) (d : Int) (w : World) (h : Rd b t p k w) (hp : p <= t.size) (ht : t.size <= 2000) (hc : ¬ hd (rest t p) ∈ opens) :
  Calls Tryz.prog 56 #[.pointer (some ⟨b, 0, none⟩), .int .i64 d] w fun e w' => e = .returned (.int .i64 3) /\ G b w w' := by
 have HR : Hid (Rd b t p k w) := h
 have hi := idx_neg hc
 clear h hc
 go_enter Tryz.func56, Tryz.ntmps56
 go_wp2_with fail
 refine (next_g b t p k _ HR.out hp ht).mono ?_
 rintro e w1 ⟨rfl, g1, r1⟩
 have HG1 : Hid (G b w w1) := g1
 clear g1 r1
 go_wp2_with fail
 refine (index_any opensT _ _).mono ?_
 rintro e w2 ⟨rfl, rfl⟩
 go_wp2_with fail
 go_ret
 exact ⟨rfl, HG1.out⟩
set_option maxRecDepth 100000 in
set_option maxHeartbeats 400000 in
theorem begin_large (b : Nat) (t : ByteArray) (p k : Nat) (d : Int) (w : World) (h : Rd b t p k w) (hp : p <= t.size) (ht : t.size <= 2000) (hc : hd (rest t p) ∈ opens) (hk : 200 <= k) (hk' : k <= 2000) :
  Calls Tryz.prog 56 #[.pointer (some ⟨b, 0, none⟩), .int .i64 d] w fun e w' => e = .returned (.int .i64 2) /\ G b w w' := by
 have HR : Hid (Rd b t p k w) := h
 have hi := idx_pos hc
 clear h hc
 go_enter Tryz.func56, Tryz.ntmps56
 go_wp2_with fail
 refine (next_g b t p k _ HR.out hp ht).mono ?_
 rintro e w1 ⟨rfl, g1, r1⟩
 have HG1 : Hid (G b w w1) := g1
 have h1 := r1.many
 have h2 := r1.free 2
 clear g1 r1
 go_wp2_with fail
 refine (index_any opensT _ _).mono ?_
 rintro e w2 ⟨rfl, rfl⟩
 go_wp2_with fail
 go_ret
 exact ⟨rfl, HG1.out.setCell 2 _⟩
set_option maxRecDepth 100000 in
set_option maxHeartbeats 400000 in
theorem begin_deep (b : Nat) (t : ByteArray) (p k : Nat) (d : Int) (w : World) (h : Rd b t p k w) (hp : p <= t.size) (ht : t.size <= 2000) (hk : k < 200) (hd10 : 10 <= d) (hc : hd (rest t p) = 91 ∨ hd (rest t p) = 123) :
  Calls Tryz.prog 56 #[.pointer (some ⟨b, 0, none⟩), .int .i64 d] w fun e w' => e = .returned (.int .i64 4) /\ G b w w' := by
 have HR : Hid (Rd b t p k w) := h
 have hi := idx_pos (c := hd (rest t p)) (by rcases hc with hc | hc <;> rw [hc] <;> decide)
 rcases hc with hc | hc
 all_goals
  clear h
  go_enter Tryz.func56, Tryz.ntmps56
  go_wp2_with fail
  refine (next_g b t p k _ HR.out hp ht).mono ?_
  rintro e w1 ⟨rfl, g1, r1⟩
  have HG1 : Hid (G b w w1) := g1
  have h1 := r1.many
  have h2 := r1.free 2
  clear g1 r1
  go_wp2_with fail
  refine (index_any opensT _ _).mono ?_
  rintro e w2 ⟨rfl, rfl⟩
  go_wp2_with fail
  go_ret
  exact ⟨rfl, HG1.out.setCell 2 _⟩
theorem ne_bool {c : UInt8} (n : Nat) (hn : n < 256) (h : c ≠ UInt8.ofNat n) : ((c.toNat : Int) == (n : Int)) = false := by
 rw [beq_eq_false_iff_ne]
 intro e
 apply h
 have : c.toNat = n := by omega
 rw [<- this]
 simp
set_option maxRecDepth 100000 in
set_option maxHeartbeats 400000 in
theorem begin_ok (b : Nat) (t : ByteArray) (p k : Nat) (d : Int) (w : World) (h : Rd b t p k w) (hp : p <= t.size) (ht : t.size <= 2000) (ho : hd (rest t p) ∈ opens) (hk : k < 200) (hc : d < 10 ∨ (hd (rest t p) ≠ 91 /\ hd (rest t p) ≠ 123)) :
  Calls Tryz.prog 56 #[.pointer (some ⟨b, 0, none⟩), .int .i64 d] w fun e w' => e = .returned (.int .i64 0) /\ G b w w' /\ Rd b t p (k + 1) w' := by
 have HR : Hid (Rd b t p k w) := h
 have hi := idx_pos ho
 have hc' : (decide (10 <= d) = false) ∨ ((((hd (rest t p)).toNat : Int) == 91) = false /\ (((hd (rest t p)).toNat : Int) == 123) = false) := by
  rcases hc with hc | hc
  ·exact Or.inl (decide_eq_false (by omega))
  ·exact Or.inr ⟨ne_bool 91 (by decide) hc.1, ne_bool 123 (by decide) hc.2⟩
 clear h ho hc
 rcases hc' with hc | ⟨hc1, hc2⟩
 all_goals
  go_enter Tryz.func56, Tryz.ntmps56
  go_wp2_with fail
  refine (next_g b t p k _ HR.out hp ht).mono ?_
  rintro e w1 ⟨rfl, g1, r1⟩
  have HG1 : Hid (G b w w1) := g1
  have HR1 : Hid (Rd b t p k w1) := r1
  have h1 := r1.many
  have h2 := r1.free 2
  clear g1 r1
  go_wp2_with fail
  refine (index_any opensT _ _).mono ?_
  rintro e w2 ⟨rfl, rfl⟩
  go_wp2_with fail
  all_goals
   go_ret
   exact ⟨rfl, HG1.out.setCell 2 _, HR1.out.count (k + 1)⟩
theorem prefix_short {s p : ByteArray} (h : s.size < p.size) : p.data.toList.isPrefixOf s.data.toList = false := by
 rw [<- Bool.not_eq_true, List.isPrefixOf_iff_prefix]
 intro hp
 have := hp.length_le
 simp at this
 omega
theorem prefix_long {s p : ByteArray} (h : p.size <= s.size) : p.data.toList.isPrefixOf s.data.toList = ((s.extract 0 p.size).toList == p.toList) := by
 rw [Bool.eq_iff_iff, List.isPrefixOf_iff_prefix, beq_iff_eq, ByteArray.toList_eq, ByteArray.toList_eq, List.prefix_iff_eq_take]
 have e : (s.extract 0 p.size).data.toList = s.data.toList.take p.data.toList.length := by simp
 rw [e]
 exact eq_comm
set_option maxRecDepth 100000 in
set_option maxHeartbeats 1000000 in
theorem hasPrefix_any (s p : ByteArray) (w : World) (hs : s.size <= 1000000) (hp : p.size <= 1000000) :
  Calls Tryz.prog 81 #[.string s, .string p] w fun e w' => e = .returned (.bool (p.data.toList.isPrefixOf s.data.toList)) /\ w' = w := by
 by_cases h : p.size <= s.size
 ·have HE : Hid (p.data.toList.isPrefixOf s.data.toList = ((s.extract 0 p.size).toList == p.toList)) := prefix_long h
  have hI : decide ((p.size : Int) <= (s.size : Int)) = true := by simp; omega
  go_enter Tryz.func81, Tryz.ntmps81
  go_wp2
  go_ret
  rw [HE.out]
  exact ⟨rfl, rfl⟩
 ·have HE : Hid (p.data.toList.isPrefixOf s.data.toList = false) := prefix_short (by omega)
  have hI : decide ((p.size : Int) <= (s.size : Int)) = false := by simp; omega
  go_enter Tryz.func81, Tryz.ntmps81
  go_wp2
  go_ret
  rw [HE.out]
  exact ⟨rfl, rfl⟩
theorem extract_rest (t : ByteArray) (p : Nat) : (t.extract p t.size).data.toList = rest t p := by
 unfold rest
 simp
 rw [List.take_of_length_le (by simp)]
set_option maxRecDepth 100000 in
set_option maxHeartbeats 1000000 in
theorem word_yes (b : Nat) (t u : ByteArray) (p k : Nat) (w : World) (h : Rd b t p k w) (hp : p <= t.size) (ht : t.size <= 2000) (hu : u.size <= 2000) (hw : u.data.toList.isPrefixOf (rest t p) = true) :
  Calls Tryz.prog 58 #[.pointer (some ⟨b, 0, none⟩), .string u] w fun e w' => e = .returned (.int .i64 0) /\ G b w w' /\ Rd b t (p + u.size) k w' := by
 have h0 := h.text
 have h1 := h.place
 have HR : Hid (Rd b t p k w) := h
 have HW : Hid (u.data.toList.isPrefixOf (t.extract p t.size).data.toList = true) := by rw [extract_rest]; exact hw
 have hsz : (t.extract p t.size).size <= 1000000 := by simp; omega
 have HZ : Hid ((t.extract p t.size).size <= 1000000) := hsz
 have hI : (p : Int) <= (t.size : Int) := by omega
 have hw2 : u.data.toList.isPrefixOf (List.take (t.size - p) (List.drop p t.data.toList)) = true := by
  have e : List.take (t.size - p) (List.drop p t.data.toList) = rest t p := List.take_of_length_le (by simp)
  rw [e]; exact hw
 clear  h hw hsz
 go_enter Tryz.func58, Tryz.ntmps58
 go_wp2
 go_quiet (first | (go_at_call 81; exact Calls.quiet_of_same (hasPrefix_any _ _ _ (by exact HZ.out) (by omega))))
 rw [HW.out]
 have HR1 : Hid (Rd b t p k (w.drewN nq)) := HR.out.drewN nq
 have HG1 : Hid (G b w (w.drewN nq)) := (G.refl b w).drewN nq
 have c1 := HR1.out.place
 have c2 := HR1.out.free 1
 clear h0 h1
 generalize w.drewN nq = w1 at *
 go_wp2_with fail
 go_ret
 refine ⟨rfl, HG1.out.setCell 1 _, ?_⟩
 exact HR1.out.move (p + u.size)
set_option maxRecDepth 100000 in
set_option maxHeartbeats 1000000 in
theorem word_no (b : Nat) (t u : ByteArray) (p k : Nat) (w : World) (h : Rd b t p k w) (hp : p <= t.size) (ht : t.size <= 2000) (hu : u.size <= 2000) (hw : u.data.toList.isPrefixOf (rest t p) = false) :
  Calls Tryz.prog 58 #[.pointer (some ⟨b, 0, none⟩), .string u] w fun e w' => e = .returned (.int .i64 3) /\ G b w w' := by
 have h0 := h.text
 have h1 := h.place
 have HR : Hid (Rd b t p k w) := h
 have HW : Hid (u.data.toList.isPrefixOf (t.extract p t.size).data.toList = false) := by
  show u.data.toList.isPrefixOf (t.extract p t.size).data.toList = false
  rw [extract_rest]; exact hw
 have hsz : (t.extract p t.size).size <= 1000000 := by simp; omega
 have HZ : Hid ((t.extract p t.size).size <= 1000000) := hsz
 have hI : (p : Int) <= (t.size : Int) := by omega
 have hw2 : u.data.toList.isPrefixOf (List.take (t.size - p) (List.drop p t.data.toList)) = false := by
  have e : List.take (t.size - p) (List.drop p t.data.toList) = rest t p := List.take_of_length_le (by simp)
  rw [e]; exact hw
 clear  h hw hsz
 go_enter Tryz.func58, Tryz.ntmps58
 go_wp2
 go_quiet (first | (go_at_call 81; exact Calls.quiet_of_same (hasPrefix_any _ _ _ (by exact HZ.out) (by omega))))
 rw [HW.out]
 have HG1 : Hid (G b w (w.drewN nq)) := (G.refl b w).drewN nq
 clear h0 h1
 generalize w.drewN nq = w1 at *
 go_wp2_with fail
 go_ret
 exact ⟨rfl, HG1.out⟩
/-! Digits. -/
def digitsAt (t : ByteArray) (p : Nat) : Nat := p + ((rest t p).takeWhile isDigit).length
theorem isDigit_int (c : UInt8) : isDigit c = (decide ((48 : Int) <= (c.toNat : Int)) && decide ((c.toNat : Int) <= 57)) := by
 unfold isDigit
 congr 1
 ·rw [decide_eq_decide, UInt8.le_iff_toNat_le]
  show 48 <= c.toNat ↔ _
  omega
 ·rw [decide_eq_decide, UInt8.le_iff_toNat_le]
  show c.toNat <= 57 ↔ _
  omega
theorem digitsAt_step {t : ByteArray} {p : Nat} (h : isDigit (hd (rest t p)) = true) : p < t.size /\ digitsAt t p = digitsAt t (p + 1) := by
 have hlt : p < t.size := lt_of_hd (fun e => by rw [e] at h; exact absurd h (by decide))
 refine ⟨hlt, ?_⟩
 unfold digitsAt
 rw [hd_lt hlt] at h
 rw [rest_cons hlt, List.takeWhile_cons, if_pos h, List.length_cons]
 omega
theorem digitsAt_stop {t : ByteArray} {p : Nat} (h : isDigit (hd (rest t p)) = false) : digitsAt t p = p := by
 unfold digitsAt
 rcases Nat.lt_or_ge p t.size with h' | h'
 ·rw [hd_lt h'] at h
  rw [rest_cons h', List.takeWhile_cons, if_neg (by simp [h])]
  rfl
 ·rw [rest_nil h']
  rfl
theorem digitsAt_le {t : ByteArray} {p : Nat} (hp : p <= t.size) : digitsAt t p <= t.size := by
 unfold digitsAt
 have h1 := (List.takeWhile_sublist isDigit (l := rest t p)).length_le
 rw [rest_len] at h1
 omega
set_option maxRecDepth 100000 in
set_option maxHeartbeats 1000000 in
theorem digits_any (b : Nat) (t : ByteArray) (p k : Nat) (w : World) (h : Rd b t p k w) (hp : p <= t.size) (ht : t.size <= 2000) :
  Calls Tryz.prog 88 #[.pointer (some ⟨b, 0, none⟩)] w fun e w' => e = .returned (.string (t.extract p (digitsAt t p))) /\ G b w w' /\ Rd b t (digitsAt t p) k w' := by
 have h1 := h.place
 have HR : Hid (Rd b t p k w) := h
 clear h
 go_enter Tryz.func88, Tryz.ntmps88
 go_wp2_with fail
 go_loopw [8] (fun _ wr => ∃ q, p <= q /\ q <= t.size /\ digitsAt t q = digitsAt t p /\ Rd b t q k wr /\ G b w wr) (fun _ wr => t.size - placeOf b wr)
 case atStart => exact ⟨p, Nat.le_refl _, hp, rfl, HR.out, G.refl _ _⟩
 case round =>
  obtain ⟨q, hpq, hq, hs, hR, hG⟩ := hrel
  have HS : Hid (digitsAt t q = digitsAt t p) := hs
  have HR : Hid (Rd b t q k wr) := hR
  have HG : Hid (G b w wr) := hG
  clear hs hR hG h1
  cases hdg : isDigit (hd (rest t q)) with
  | true =>
   have hst := digitsAt_step hdg
   have hlt := hst.1
   have HST : Hid (digitsAt t q = digitsAt t (q + 1)) := hst.2
   rw [isDigit_int, Bool.and_eq_true, decide_eq_true_eq, decide_eq_true_eq] at hdg
   obtain ⟨hd1, hd2⟩ := hdg
   clear hst
   go_wp2_with fail
   refine (next_g b t q k _ HR.out hq ht).mono ?_
   rintro e w1 ⟨rfl, g1, r1⟩
   have HG1 : Hid (G b w w1) := HG.out.trans g1
   have HR1 : Hid (Rd b t q k w1) := r1
   clear g1 r1
   go_wp2_with fail
   refine (next_g b t q k _ HR1.out hq ht).mono ?_
   rintro e w2 ⟨rfl, g1, r1⟩
   have HG2 : Hid (G b w w2) := HG1.out.trans g1
   have HR2 : Hid (Rd b t q k w2) := r1
   have c1 := r1.place
   have c2 := r1.free 1
   clear g1 r1
   go_wp2_with fail
   go_roundw
   case rel => exact ⟨q + 1, by omega, by omega, by rw [<- HS.out, HST.out], HR2.out.move (q + 1), HG2.out.setCell 1 _⟩
   case measure => have e1 := (HR2.out.move (q + 1)).placeOf_eq; have e2 := HR.out.placeOf_eq; rw [e2]; have e3 : placeOf b (w2.setCell ⟨b, 1, none⟩ (.int .i64 ((q : Int) + 1))) = q + 1 := e1; rw [e3]; omega
  | false =>
   have HST : Hid (digitsAt t q = q) := digitsAt_stop hdg
   rw [isDigit_int] at hdg
   by_cases hd1 : (48 : Int) <= ((hd (rest t q)).toNat : Int)
   ·have hd2 : ¬ ((hd (rest t q)).toNat : Int) <= 57 := by
     intro h2
     simp [hd1, h2] at hdg
    clear hdg
    go_wp2_with fail
    refine (next_g b t q k _ HR.out hq ht).mono ?_
    rintro e w1 ⟨rfl, g1, r1⟩
    have HG1 : Hid (G b w w1) := HG.out.trans g1
    have HR1 : Hid (Rd b t q k w1) := r1
    clear g1 r1
    go_wp2_with fail
    refine (next_g b t q k _ HR1.out hq ht).mono ?_
    rintro e w2 ⟨rfl, g1, r1⟩
    have HG2 : Hid (G b w w2) := HG1.out.trans g1
    have HR2 : Hid (Rd b t q k w2) := r1
    have c0 := r1.text
    have c1 := r1.place
    clear g1 r1
    go_wp2_with fail
    go_quiet (fail)
    go_wp2
    go_ret
    refine ⟨?_, HG2.out.drewN _, ?_⟩
    ·rw [<- HS.out, HST.out]; rfl
    ·rw [<- HS.out, HST.out]; exact HR2.out.drewN _
   ·have hd1' : decide ((48 : Int) <= ((hd (rest t q)).toNat : Int)) = false := decide_eq_false hd1
    clear hdg hd1
    go_wp2_with fail
    refine (next_g b t q k _ HR.out hq ht).mono ?_
    rintro e w2 ⟨rfl, g1, r1⟩
    have HG2 : Hid (G b w w2) := HG.out.trans g1
    have HR2 : Hid (Rd b t q k w2) := r1
    have c0 := r1.text
    have c1 := r1.place
    clear g1 r1
    go_wp2_with fail
    go_quiet (fail)
    go_wp2
    go_ret
    refine ⟨?_, HG2.out.drewN _, ?_⟩
    ·rw [<- HS.out, HST.out]; rfl
    ·rw [<- HS.out, HST.out]; exact HR2.out.drewN _
set_option maxRecDepth 100000 in
set_option maxHeartbeats 400000 in
theorem chr_any (c : UInt8) (w : World) :
  Calls Tryz.prog 66 #[.int .i64 c.toNat] w fun e w' => e = .returned (.string ⟨#[c]⟩) /\ Below w.heap.size w w' := by
 have hm : ((c.toNat : Int) % 256) = (c.toNat : Int) := Int.emod_eq_of_lt (by omega) (by have := c.toNat_lt; omega)
 have hconv : (convert 95 9 (.slice (some ⟨w.heap.size, 0, none⟩) 1 1)).run Tryz.prog (w.alloc (.cells #[.int .u8 ((c.toNat : Int) % 256)] 5)) = .ok (.string ⟨#[c]⟩) (w.alloc (.cells #[.int .u8 ((c.toNat : Int) % 256)] 5)) := by
  have h := run_convert_bytes_arg (P := Tryz.prog) (w.alloc (.cells #[.int .u8 ((c.toNat : Int) % 256)] 5)) 95 5 Tryz.underlying95 Tryz.underlying5 w.heap.size 0 1 1 [(c.toNat : Int)] rfl (by
   intro i hi
   have e : i = 0 := by omega
   subst e
   rw [cell_of_row _ _ _ _ _ _ (heap_alloc_new w _), hm]
   rfl) 9 Tryz.underlying9
  have e : strOfNums ([c].map fun c => (c.toNat : Int)) = ⟨[c].toArray⟩ := strOf_bytes [c]
  have e2 : strOfNums [(c.toNat : Int)] = ⟨#[c]⟩ := e
  rw [e2] at h
  exact h
 clear hm
 go_enter Tryz.func66, Tryz.ntmps66
 go_wp2_with fail
 go_ret
 exact ⟨rfl, (Below.refl _ _).alloc (Nat.le_refl _) _⟩
def Rf (b : Nat) (t : ByteArray) (p k : Nat) (w : World) : Prop := w.heap[b]? = some (.cells #[.string t, .int .i64 p, .int .i64 k] 89 (0, 0))
section
variable {b : Nat} {t : ByteArray} {p k : Nat} {w w' : World}
theorem Rf.text (h : Rf b t p k w) : w.cell? ⟨b, 0, none⟩ = some (.string t) := by rw [cell_of_row _ _ _ _ _ _ h]; rfl
theorem Rf.place (h : Rf b t p k w) : w.cell? ⟨b, 1, none⟩ = some (.int .i64 p) := by rw [cell_of_row _ _ _ _ _ _ h]; rfl
theorem Rf.many (h : Rf b t p k w) : w.cell? ⟨b, 2, none⟩ = some (.int .i64 k) := by rw [cell_of_row _ _ _ _ _ _ h]; rfl
theorem Rf.free (h : Rf b t p k w) (j : Nat) : w.frozen? ⟨b, j, none⟩ = false := frozen_of_row _ _ _ _ _ h
theorem Rf.drewN (h : Rf b t p k w) (n : Nat) : Rf b t p k (w.drewN n) := h
theorem Rf.lt (h : Rf b t p k w) : b < w.heap.size := lt_of_block h
theorem Rf.move (h : Rf b t p k w) (q : Nat) : Rf b t q k (w.setCell ⟨b, 1, none⟩ (.int .i64 q)) := by
 have := heap_setCell_same w b 1 _ _ (.int .i64 q) h
 exact this
theorem Rf.count (h : Rf b t p k w) (q : Nat) : Rf b t p q (w.setCell ⟨b, 2, none⟩ (.int .i64 q)) := by
 have := heap_setCell_same w b 2 _ _ (.int .i64 q) h
 exact this
theorem Rf.alloc (h : Rf b t p k w) (o : Obj) : Rf b t p k (w.alloc o) := by
 have := Below.heap_alloc w o b h.lt
 exact this.trans h
theorem Rf.kept {row : Option Nat} (h : Rf b t p k w) (hg : w.grownBy w' row) (hne : some b ≠ row) : Rf b t p k w' := (hg.block b h.lt hne).trans h
theorem Rf.placeOf_eq (h : Rf b t p k w) : placeOf b w = p := by
 unfold placeOf
 rw [h.place]
 simp [intOf]
end
set_option maxRecDepth 100000 in
set_option maxHeartbeats 4000000 in
theorem rfskip_any (b : Nat) (t : ByteArray) (p k : Nat) (w : World) (h : Rf b t p k w) (hp : p <= t.size) (ht : t.size <= 2000) :
  Calls Tryz.prog 72 #[.pointer (some ⟨b, 0, none⟩)] w fun e w' => e = .returned (.tuple #[]) /\ G b w w' /\ Rf b t (skipAt t p) k w' := by
 have HR : Hid (Rf b t p k w) := h
 clear h
 go_enter Tryz.func72, Tryz.ntmps72
 go_wp2_with fail
 go_loopw [2] (fun _ wr => ∃ q, q <= t.size /\ skipAt t q = skipAt t p /\ Rf b t q k wr /\ G b w wr) (fun _ wr => t.size - placeOf b wr)
 case atStart => exact ⟨p, hp, rfl, HR.out, G.refl _ _⟩
 case round =>
  obtain ⟨q, hq, hs, hR, hG⟩ := hrel
  have HS : Hid (skipAt t q = skipAt t p) := hs
  have HR : Hid (Rf b t q k wr) := hR
  have HG : Hid (G b w wr) := hG
  have h0 := hR.text
  have h1 := hR.place
  clear hs hR hG
  by_cases hlt : q < t.size
  ·have hI : (q : Int) < (t.size : Int) := by omega
   have HH : Hid (hd (rest t q) = t[q]) := hd_lt hlt
   by_cases h32 : t[q] = 32
   ·have HB : Hid (blank (hd (rest t q)) = true) := by show blank (hd (rest t q)) = true; rw [HH.out, h32]; rfl
    go_wp2_with fail
    go_quiet (fail)
    have HR2 : Hid (Rf b t q k (wr.drewN nq)) := HR.out.drewN nq
    have c1 := HR2.out.place
    have c2 := HR2.out.free 1
    have HG2 : Hid (G b w (wr.drewN nq)) := HG.out.drewN nq
    generalize wr.drewN nq = w1 at *
    go_wp2_with fail
    go_roundw
    case rel => exact ⟨q + 1, by omega, by rw [<- HS.out, skipAt_step (p := q) HB.out], HR2.out.move (q + 1), HG2.out.setCell 1 _⟩
    case measure => rw [show placeOf b (w1.setCell ⟨b, 1, none⟩ (.int .i64 ((q : Int) + 1))) = q + 1 from (HR2.out.move (q + 1)).placeOf_eq, HR.out.placeOf_eq]; omega
   have n32 : ((t[q].toNat : Int) == 32) = false := by rw [beq_eq_false_iff_ne]; intro e; exact h32 (UInt8.toNat_inj.1 (by show t[q].toNat = 32; omega))
   by_cases h10 : t[q] = 10
   ·clear n32
    have HB : Hid (blank (hd (rest t q)) = true) := by show blank (hd (rest t q)) = true; rw [HH.out, h10]; rfl
    go_wp2_with fail
    go_quiet (fail)
    have HR2 : Hid (Rf b t q k (wr.drewN nq)) := HR.out.drewN nq
    have c1 := HR2.out.place
    have c2 := HR2.out.free 1
    have HG2 : Hid (G b w (wr.drewN nq)) := HG.out.drewN nq
    generalize wr.drewN nq = w1 at *
    go_wp2_with fail
    go_roundw
    case rel => exact ⟨q + 1, by omega, by rw [<- HS.out, skipAt_step (p := q) HB.out], HR2.out.move (q + 1), HG2.out.setCell 1 _⟩
    case measure => rw [show placeOf b (w1.setCell ⟨b, 1, none⟩ (.int .i64 ((q : Int) + 1))) = q + 1 from (HR2.out.move (q + 1)).placeOf_eq, HR.out.placeOf_eq]; omega
   have n10 : ((t[q].toNat : Int) == 10) = false := by rw [beq_eq_false_iff_ne]; intro e; exact h10 (UInt8.toNat_inj.1 (by show t[q].toNat = 10; omega))
   by_cases h9 : t[q] = 9
   ·clear n32 n10
    have HB : Hid (blank (hd (rest t q)) = true) := by show blank (hd (rest t q)) = true; rw [HH.out, h9]; rfl
    go_wp2_with fail
    go_quiet (fail)
    have HR2 : Hid (Rf b t q k (wr.drewN nq)) := HR.out.drewN nq
    have c1 := HR2.out.place
    have c2 := HR2.out.free 1
    have HG2 : Hid (G b w (wr.drewN nq)) := HG.out.drewN nq
    generalize wr.drewN nq = w1 at *
    go_wp2_with fail
    go_roundw
    case rel => exact ⟨q + 1, by omega, by rw [<- HS.out, skipAt_step (p := q) HB.out], HR2.out.move (q + 1), HG2.out.setCell 1 _⟩
    case measure => rw [show placeOf b (w1.setCell ⟨b, 1, none⟩ (.int .i64 ((q : Int) + 1))) = q + 1 from (HR2.out.move (q + 1)).placeOf_eq, HR.out.placeOf_eq]; omega
   have n9 : ((t[q].toNat : Int) == 9) = false := by rw [beq_eq_false_iff_ne]; intro e; exact h9 (UInt8.toNat_inj.1 (by show t[q].toNat = 9; omega))
   have HB : Hid (blank (hd (rest t q)) = false) := by show blank (hd (rest t q)) = false; rw [HH.out]; simp [blank, h32, h10, h9]
   clear h32 h10 h9
   go_wp2_with fail
   go_quiet (fail)
   have HR2 : Hid (Rf b t q k (wr.drewN nq)) := HR.out.drewN nq
   have HG2 : Hid (G b w (wr.drewN nq)) := HG.out.drewN nq
   generalize wr.drewN nq = w1 at *
   go_wp2_with fail
   go_end0
   exact ⟨rfl, HG2.out, by rw [<- HS.out, skipAt_stop hq HB.out]; exact HR2.out⟩
  ·have hI : ¬ (q : Int) < (t.size : Int) := by omega
   have HB : Hid (blank (hd (rest t q)) = false) := by show blank (hd (rest t q)) = false; rw [hd_end (by omega)]; rfl
   go_wp2_with fail
   go_quiet (fail)
   have HR2 : Hid (Rf b t q k (wr.drewN nq)) := HR.out.drewN nq
   have HG2 : Hid (G b w (wr.drewN nq)) := HG.out.drewN nq
   generalize wr.drewN nq = w1 at *
   go_wp2_with fail
   go_end0
   exact ⟨rfl, HG2.out, by rw [<- HS.out, skipAt_stop hq HB.out]; exact HR2.out⟩
def lookOf : Bs -> Int
 | [] => -1
 | c :: _ => c.toNat
set_option maxRecDepth 100000 in
set_option maxHeartbeats 1000000 in
theorem look_any (b : Nat) (t : ByteArray) (p k : Nat) (w : World) (h : Rf b t p k w) (hp : p <= t.size) (ht : t.size <= 2000) :
  Calls Tryz.prog 51 #[.pointer (some ⟨b, 0, none⟩)] w fun e w' => e = .returned (.int .i64 (lookOf (rest t (skipAt t p)))) /\ G b w w' /\ Rf b t (skipAt t p) k w' := by
 have HR : Hid (Rf b t p k w) := h
 obtain ⟨q, hqe⟩ : ∃ q, skipAt t p = q := ⟨_, rfl⟩
 have hle : q <= t.size := hqe ▸ skipAt_le t p
 have HQ : Hid (skipAt t p = q) := hqe
 rw [hqe]
 clear h hqe
 by_cases hlt : q < t.size
 ·have hI : ((q : Int) == (t.size : Int)) = false := by rw [beq_eq_false_iff_ne]; omega
  have hI2 : (q : Int) < (t.size : Int) := by omega
  have hwr : wrap64 (t[q].toNat : Int) = (t[q].toNat : Int) := by
   have := t[q].toNat_lt
   unfold wrap64
   omega
  have HL : Hid (lookOf (rest t q) = (t[q].toNat : Int)) := by
   show lookOf (rest t q) = (t[q].toNat : Int)
   rw [rest_cons hlt]
   rfl
  generalize lookOf (rest t q) = lk at *
  go_enter Tryz.func51, Tryz.ntmps51
  go_wp2_with fail
  refine (rfskip_any b t p k w HR.out hp ht).mono ?_
  rintro e w1 ⟨rfl, g1, r1⟩
  rw [HQ.out] at r1
  have HG1 : Hid (G b w w1) := g1
  have HR1 : Hid (Rf b t q k w1) := r1
  have h0 := r1.text
  have h1 := r1.place
  clear g1 r1
  go_wp2_with fail
  go_quiet (fail)
  go_wp2_with fail
  go_quiet (fail)
  go_wp2_with fail
  go_ret
  exact ⟨by show Ending.returned (Value.int .i64 (wrap64 (t[q].toNat : Int))) = _; rw [hwr, HL.out], (HG1.out.drewN _).drewN _, (HR1.out.drewN _).drewN _⟩
 ·have hI : ((q : Int) == (t.size : Int)) = true := by rw [beq_iff_eq]; omega
  have HL : Hid (lookOf (rest t q) = -1) := by
   show lookOf (rest t q) = -1
   rw [rest_nil (by omega)]
   rfl
  generalize lookOf (rest t q) = lk at *
  go_enter Tryz.func51, Tryz.ntmps51
  go_wp2_with fail
  refine (rfskip_any b t p k w HR.out hp ht).mono ?_
  rintro e w1 ⟨rfl, g1, r1⟩
  rw [HQ.out] at r1
  have HG1 : Hid (G b w w1) := g1
  have HR1 : Hid (Rf b t q k w1) := r1
  have h0 := r1.text
  have h1 := r1.place
  clear g1 r1
  go_wp2_with fail
  go_quiet (fail)
  go_wp2_with fail
  go_ret
  exact ⟨by rw [HL.out]; rfl, HG1.out.drewN _, HR1.out.drewN _⟩
theorem look_is {r : Bs} {c : UInt8} (h0 : c ≠ 0) : lookOf r = (c.toNat : Int) ↔ hd r = c := by
 cases r with
 | nil =>
  constructor
  ·intro e
   have : (-1 : Int) = (c.toNat : Int) := e
   omega
  ·intro e
   exact absurd e.symm h0
 | cons d r =>
  constructor
  ·intro e
   have e' : (d.toNat : Int) = (c.toNat : Int) := e
   have e2 : d = c := UInt8.toNat_inj.1 (by omega)
   exact e2
  ·intro e
   have e' : d = c := e
   rw [e']
   rfl
set_option maxRecDepth 100000 in
set_option maxHeartbeats 1000000 in
theorem eat_no (b : Nat) (t : ByteArray) (p k : Nat) (c : UInt8) (w : World) (h : Rf b t p k w) (hp : p <= t.size) (ht : t.size <= 2000) (h0 : c ≠ 0) (hc : hd (rest t (skipAt t p)) ≠ c) :
  Calls Tryz.prog 91 #[.pointer (some ⟨b, 0, none⟩), .int .i64 c.toNat] w fun e w' => e = .returned (.bool false) /\ G b w w' /\ Rf b t (skipAt t p) k w' := by
 have HR : Hid (Rf b t p k w) := h
 have hne : (lookOf (rest t (skipAt t p)) != (c.toNat : Int)) = true := by
  rw [bne_iff_ne]
  exact fun e => hc ((look_is h0).1 e)
 obtain ⟨q, hqe⟩ : ∃ q, skipAt t p = q := ⟨_, rfl⟩
 rw [hqe] at hne ⊢
 have HQ : Hid (skipAt t p = q) := hqe
 have hle : q <= t.size := hqe ▸ skipAt_le t p
 clear h hc hqe
 obtain ⟨lk, hlk⟩ : ∃ lk, lookOf (rest t q) = lk := ⟨_, rfl⟩
 rw [hlk] at hne
 have HLk : Hid (lookOf (rest t q) = lk) := hlk
 clear hlk
 go_enter Tryz.func91, Tryz.ntmps91
 go_wp2_with fail
 refine (look_any b t p k w HR.out hp ht).mono ?_
 rintro e w1 ⟨rfl, g1, r1⟩
 rw [HQ.out] at r1 ⊢
 rw [HLk.out]
 have HG1 : Hid (G b w w1) := g1
 have HR1 : Hid (Rf b t q k w1) := r1
 clear g1 r1
 go_wp2_with fail
 go_ret
 exact ⟨rfl, HG1.out, HR1.out⟩
set_option maxRecDepth 100000 in
set_option maxHeartbeats 1000000 in
theorem eat_yes (b : Nat) (t : ByteArray) (p k : Nat) (c : UInt8) (w : World) (h : Rf b t p k w) (hp : p <= t.size) (ht : t.size <= 2000) (h0 : c ≠ 0) (hc : hd (rest t (skipAt t p)) = c) :
  Calls Tryz.prog 91 #[.pointer (some ⟨b, 0, none⟩), .int .i64 c.toNat] w fun e w' => e = .returned (.bool true) /\ G b w w' /\ Rf b t (skipAt t p + 1) k w' := by
 have HR : Hid (Rf b t p k w) := h
 have hne : (lookOf (rest t (skipAt t p)) != (c.toNat : Int)) = false := by
  rw [bne_eq_false_iff_eq]
  exact (look_is h0).2 hc
 obtain ⟨q, hqe⟩ : ∃ q, skipAt t p = q := ⟨_, rfl⟩
 rw [hqe] at hne ⊢
 have HQ : Hid (skipAt t p = q) := hqe
 have hle : q <= t.size := hqe ▸ skipAt_le t p
 clear h hc hqe
 obtain ⟨lk, hlk⟩ : ∃ lk, lookOf (rest t q) = lk := ⟨_, rfl⟩
 rw [hlk] at hne
 have HLk : Hid (lookOf (rest t q) = lk) := hlk
 clear hlk
 go_enter Tryz.func91, Tryz.ntmps91
 go_wp2_with fail
 refine (look_any b t p k w HR.out hp ht).mono ?_
 rintro e w1 ⟨rfl, g1, r1⟩
 rw [HQ.out] at r1 ⊢
 rw [HLk.out]
 have HG1 : Hid (G b w w1) := g1
 have HR1 : Hid (Rf b t q k w1) := r1
 have c1 := r1.place
 have c2 := r1.free 1
 clear g1 r1
 go_wp2_with fail
 go_ret
 exact ⟨rfl, HG1.out.setCell 1 _, HR1.out.move (q + 1)⟩
def rfLeaf (kk : Nat) (bb : Bool) (n : Int) (s : ByteArray) : Value := .agg #[.int .i64 kk, .bool bb, .int .i64 n, .string s, .slice none 0 0, .slice none 0 0]
theorem Rf.other {b c o p k : Nat} {t : ByteArray} {w : World} (h : Rf b t p k w) (hc : b ≠ c) (v : Value) : Rf b t p k (w.setCell ⟨c, o, none⟩ v) :=
 h.kept (grownBy_setCell w c o v) (fun e => hc (Option.some.inj e))
set_option maxRecDepth 100000 in
set_option maxHeartbeats 2000000 in
theorem rfword_yes (b : Nat) (t u : ByteArray) (p k kk : Nat) (bb : Bool) (w : World) (h : Rf b t p k w) (hp : p <= t.size) (ht : t.size <= 2000) (hu : u.size <= 2000) (hw : u.data.toList.isPrefixOf (rest t p) = true) :
  Calls Tryz.prog 70 #[.pointer (some ⟨b, 0, none⟩), .string u, rfLeaf kk bb 0 ⟨#[]⟩] w fun e w' => e = .returned (.tuple #[rfLeaf kk bb 0 ⟨#[]⟩, .int .i64 0]) /\ G b w w' /\ Rf b t (p + u.size) k w' := by
 unfold rfLeaf
 obtain ⟨w0, hw0⟩ : ∃ w0, w0 = (w.alloc (.cells #[.int .i64 kk, .bool bb, .int .i64 0, .string ⟨#[]⟩, .slice none 0 0, .slice none 0 0] 38)).alloc (.cells #[.int .i64 0, .bool false, .int .i64 0, .string ⟨#[]⟩, .slice none 0 0, .slice none 0 0] 38) := ⟨_, rfl⟩
 have h2 : Rf b t p k w0 := by rw [hw0]; exact (h.alloc _).alloc _
 have h0 := h2.text
 have h1 := h2.place
 have HR : Hid (Rf b t p k w0) := h2
 have HW : Hid (u.data.toList.isPrefixOf (t.extract p t.size).data.toList = true) := by rw [extract_rest]; exact hw
 have hsz : (t.extract p t.size).size <= 1000000 := by simp; omega
 have HZ : Hid ((t.extract p t.size).size <= 1000000) := hsz
 have hI : (p : Int) <= (t.size : Int) := by omega
 have hw2 : u.data.toList.isPrefixOf (List.take (t.size - p) (List.drop p t.data.toList)) = true := by
  have e : List.take (t.size - p) (List.drop p t.data.toList) = rest t p := List.take_of_length_le (by simp)
  rw [e]; exact hw
 have HG0 : Hid (G b w w0) := by
  show G b w w0
  rw [hw0]
  exact ((G.refl b w).alloc _).alloc _
 have HV : Hid (w0.heap[w.heap.size]? = some (.cells #[.int .i64 kk, .bool bb, .int .i64 0, .string ⟨#[]⟩, .slice none 0 0, .slice none 0 0] 38 (0, 0))) := by
  show w0.heap[w.heap.size]? = _
  rw [hw0, Below.heap_alloc _ _ _ (by simp)]
  exact heap_alloc_new w _
 have HZr : Hid (w0.heap[w.heap.size + 1]? = some (.cells #[.int .i64 0, .bool false, .int .i64 0, .string ⟨#[]⟩, .slice none 0 0, .slice none 0 0] 38 (0, 0))) := by
  have h0 := heap_alloc_new (w.alloc (.cells #[.int .i64 kk, .bool bb, .int .i64 0, .string ⟨#[]⟩, .slice none 0 0, .slice none 0 0] 38)) (.cells #[.int .i64 0, .bool false, .int .i64 0, .string ⟨#[]⟩, .slice none 0 0, .slice none 0 0] 38)
  have e0 : (w.alloc (.cells #[.int .i64 kk, .bool bb, .int .i64 0, .string ⟨#[]⟩, .slice none 0 0, .slice none 0 0] 38)).heap.size = w.heap.size + 1 := by simp
  rw [e0, <- hw0] at h0
  exact h0
 have HW0 : Hid (w0 = (w.alloc (.cells #[.int .i64 kk, .bool bb, .int .i64 0, .string ⟨#[]⟩, .slice none 0 0, .slice none 0 0] 38)).alloc (.cells #[.int .i64 0, .bool false, .int .i64 0, .string ⟨#[]⟩, .slice none 0 0, .slice none 0 0] 38)) := hw0
 have hbw := h.lt
 clear h hw hsz h2 hw0
 go_enter Tryz.func70, Tryz.ntmps70
 go_wp2
 rw [<- HW0.out]
 go_quiet (first | (go_at_call 81; exact Calls.quiet_of_same (hasPrefix_any _ _ _ (by exact HZ.out) (by omega))))
 rw [HW.out]
 have HR1 : Hid (Rf b t p k (w0.drewN nq)) := HR.out.drewN nq
 have HG1 : Hid (G b w (w0.drewN nq)) := HG0.out.drewN nq
 have HV1 : Hid ((w0.drewN nq).heap[w.heap.size]? = some (.cells #[.int .i64 kk, .bool bb, .int .i64 0, .string ⟨#[]⟩, .slice none 0 0, .slice none 0 0] 38 (0, 0))) := HV.out
 have HZ1 : Hid ((w0.drewN nq).heap[w.heap.size + 1]? = some (.cells #[.int .i64 0, .bool false, .int .i64 0, .string ⟨#[]⟩, .slice none 0 0, .slice none 0 0] 38 (0, 0))) := HZr.out
 have c1 := HR1.out.place
 have c2 := HR1.out.free 1
 have z0 : (w0.drewN nq).cell? ⟨w.heap.size, 0, none⟩ = some (.int .i64 kk) := by rw [cell_of_row _ _ _ _ _ _ HV1.out]; rfl
 have r0 : (w0.drewN nq).cell? ⟨w.heap.size + 1, 0, none⟩ = some (.int .i64 0) := by rw [cell_of_row _ _ _ _ _ _ HZ1.out]; rfl
 have f0 : (w0.drewN nq).frozen? ⟨w.heap.size + 1, 0, none⟩ = false := frozen_of_row _ _ _ _ _ HZ1.out
 have z1 : (w0.drewN nq).cell? ⟨w.heap.size, 1, none⟩ = some (.bool bb) := by rw [cell_of_row _ _ _ _ _ _ HV1.out]; rfl
 have r1 : (w0.drewN nq).cell? ⟨w.heap.size + 1, 1, none⟩ = some (.bool false) := by rw [cell_of_row _ _ _ _ _ _ HZ1.out]; rfl
 have f1 : (w0.drewN nq).frozen? ⟨w.heap.size + 1, 1, none⟩ = false := frozen_of_row _ _ _ _ _ HZ1.out
 have z2 : (w0.drewN nq).cell? ⟨w.heap.size, 2, none⟩ = some (.int .i64 0) := by rw [cell_of_row _ _ _ _ _ _ HV1.out]; rfl
 have r2 : (w0.drewN nq).cell? ⟨w.heap.size + 1, 2, none⟩ = some (.int .i64 0) := by rw [cell_of_row _ _ _ _ _ _ HZ1.out]; rfl
 have f2 : (w0.drewN nq).frozen? ⟨w.heap.size + 1, 2, none⟩ = false := frozen_of_row _ _ _ _ _ HZ1.out
 have z3 : (w0.drewN nq).cell? ⟨w.heap.size, 3, none⟩ = some (.string ⟨#[]⟩) := by rw [cell_of_row _ _ _ _ _ _ HV1.out]; rfl
 have r3 : (w0.drewN nq).cell? ⟨w.heap.size + 1, 3, none⟩ = some (.string ⟨#[]⟩) := by rw [cell_of_row _ _ _ _ _ _ HZ1.out]; rfl
 have f3 : (w0.drewN nq).frozen? ⟨w.heap.size + 1, 3, none⟩ = false := frozen_of_row _ _ _ _ _ HZ1.out
 have z4 : (w0.drewN nq).cell? ⟨w.heap.size, 4, none⟩ = some (.slice none 0 0) := by rw [cell_of_row _ _ _ _ _ _ HV1.out]; rfl
 have r4 : (w0.drewN nq).cell? ⟨w.heap.size + 1, 4, none⟩ = some (.slice none 0 0) := by rw [cell_of_row _ _ _ _ _ _ HZ1.out]; rfl
 have f4 : (w0.drewN nq).frozen? ⟨w.heap.size + 1, 4, none⟩ = false := frozen_of_row _ _ _ _ _ HZ1.out
 have z5 : (w0.drewN nq).cell? ⟨w.heap.size, 5, none⟩ = some (.slice none 0 0) := by rw [cell_of_row _ _ _ _ _ _ HV1.out]; rfl
 have r5 : (w0.drewN nq).cell? ⟨w.heap.size + 1, 5, none⟩ = some (.slice none 0 0) := by rw [cell_of_row _ _ _ _ _ _ HZ1.out]; rfl
 have f5 : (w0.drewN nq).frozen? ⟨w.heap.size + 1, 5, none⟩ = false := frozen_of_row _ _ _ _ _ HZ1.out
 have hne : b ≠ w.heap.size := by omega
 have hne1 : b ≠ w.heap.size + 1 := by omega
 have hne2 : w.heap.size + 1 ≠ b := by omega
 have hne3 : w.heap.size ≠ b := by omega
 clear h0 h1
 generalize w0.drewN nq = w1 at *
 go_wp2_with fail
 exact bodyPost_ret (v := .tuple #[.agg #[.int .i64 kk, .bool bb, .int .i64 0, .string ⟨#[]⟩, .slice none 0 0, .slice none 0 0], .int .i64 0]) (by simp [results, Tryz.results70, go_sem, r0, r1, r2, r3, r4, r5, hne1, hne2]) rfl ⟨rfl, ((((((HG1.out.setCell 1 _).setNew (Nat.le_succ _) _).setNew (Nat.le_succ _) _).setNew (Nat.le_succ _) _).setNew (Nat.le_succ _) _).setNew (Nat.le_succ _) _).setNew (Nat.le_succ _) _, ((((((HR1.out.move (p + u.size)).other hne1 _).other hne1 _).other hne1 _).other hne1 _).other hne1 _).other hne1 _⟩
set_option maxRecDepth 100000 in
set_option maxHeartbeats 2000000 in
theorem rfword_no (b : Nat) (t u : ByteArray) (p k kk : Nat) (bb : Bool) (w : World) (h : Rf b t p k w) (hp : p <= t.size) (ht : t.size <= 2000) (hu : u.size <= 2000) (hw : u.data.toList.isPrefixOf (rest t p) = false) :
  Calls Tryz.prog 70 #[.pointer (some ⟨b, 0, none⟩), .string u, rfLeaf kk bb 0 ⟨#[]⟩] w fun e w' => e = .returned (.tuple #[rfLeaf 0 false 0 ⟨#[]⟩, .int .i64 3]) /\ G b w w' := by
 unfold rfLeaf
 obtain ⟨w0, hw0⟩ : ∃ w0, w0 = (w.alloc (.cells #[.int .i64 kk, .bool bb, .int .i64 0, .string ⟨#[]⟩, .slice none 0 0, .slice none 0 0] 38)).alloc (.cells #[.int .i64 0, .bool false, .int .i64 0, .string ⟨#[]⟩, .slice none 0 0, .slice none 0 0] 38) := ⟨_, rfl⟩
 have h2 : Rf b t p k w0 := by rw [hw0]; exact (h.alloc _).alloc _
 have h0 := h2.text
 have h1 := h2.place
 have HR : Hid (Rf b t p k w0) := h2
 have HW : Hid (u.data.toList.isPrefixOf (t.extract p t.size).data.toList = false) := by
  show u.data.toList.isPrefixOf (t.extract p t.size).data.toList = false
  rw [extract_rest]; exact hw
 have hsz : (t.extract p t.size).size <= 1000000 := by simp; omega
 have HZ : Hid ((t.extract p t.size).size <= 1000000) := hsz
 have hI : (p : Int) <= (t.size : Int) := by omega
 have hw2 : u.data.toList.isPrefixOf (List.take (t.size - p) (List.drop p t.data.toList)) = false := by
  have e : List.take (t.size - p) (List.drop p t.data.toList) = rest t p := List.take_of_length_le (by simp)
  rw [e]; exact hw
 have HG0 : Hid (G b w w0) := by
  show G b w w0
  rw [hw0]
  exact ((G.refl b w).alloc _).alloc _
 have HV : Hid (w0.heap[w.heap.size]? = some (.cells #[.int .i64 kk, .bool bb, .int .i64 0, .string ⟨#[]⟩, .slice none 0 0, .slice none 0 0] 38 (0, 0))) := by
  show w0.heap[w.heap.size]? = _
  rw [hw0, Below.heap_alloc _ _ _ (by simp)]
  exact heap_alloc_new w _
 have HZr : Hid (w0.heap[w.heap.size + 1]? = some (.cells #[.int .i64 0, .bool false, .int .i64 0, .string ⟨#[]⟩, .slice none 0 0, .slice none 0 0] 38 (0, 0))) := by
  have h0 := heap_alloc_new (w.alloc (.cells #[.int .i64 kk, .bool bb, .int .i64 0, .string ⟨#[]⟩, .slice none 0 0, .slice none 0 0] 38)) (.cells #[.int .i64 0, .bool false, .int .i64 0, .string ⟨#[]⟩, .slice none 0 0, .slice none 0 0] 38)
  have e0 : (w.alloc (.cells #[.int .i64 kk, .bool bb, .int .i64 0, .string ⟨#[]⟩, .slice none 0 0, .slice none 0 0] 38)).heap.size = w.heap.size + 1 := by simp
  rw [e0, <- hw0] at h0
  exact h0
 have HW0 : Hid (w0 = (w.alloc (.cells #[.int .i64 kk, .bool bb, .int .i64 0, .string ⟨#[]⟩, .slice none 0 0, .slice none 0 0] 38)).alloc (.cells #[.int .i64 0, .bool false, .int .i64 0, .string ⟨#[]⟩, .slice none 0 0, .slice none 0 0] 38)) := hw0
 have hbw := h.lt
 clear h hw hsz h2 hw0
 go_enter Tryz.func70, Tryz.ntmps70
 go_wp2
 rw [<- HW0.out]
 go_quiet (first | (go_at_call 81; exact Calls.quiet_of_same (hasPrefix_any _ _ _ (by exact HZ.out) (by omega))))
 rw [HW.out]
 have HR1 : Hid (Rf b t p k (w0.drewN nq)) := HR.out.drewN nq
 have HG1 : Hid (G b w (w0.drewN nq)) := HG0.out.drewN nq
 have HV1 : Hid ((w0.drewN nq).heap[w.heap.size]? = some (.cells #[.int .i64 kk, .bool bb, .int .i64 0, .string ⟨#[]⟩, .slice none 0 0, .slice none 0 0] 38 (0, 0))) := HV.out
 have HZ1 : Hid ((w0.drewN nq).heap[w.heap.size + 1]? = some (.cells #[.int .i64 0, .bool false, .int .i64 0, .string ⟨#[]⟩, .slice none 0 0, .slice none 0 0] 38 (0, 0))) := HZr.out
 have c1 := HR1.out.place
 have c2 := HR1.out.free 1
 have z0 : (w0.drewN nq).cell? ⟨w.heap.size, 0, none⟩ = some (.int .i64 kk) := by rw [cell_of_row _ _ _ _ _ _ HV1.out]; rfl
 have r0 : (w0.drewN nq).cell? ⟨w.heap.size + 1, 0, none⟩ = some (.int .i64 0) := by rw [cell_of_row _ _ _ _ _ _ HZ1.out]; rfl
 have f0 : (w0.drewN nq).frozen? ⟨w.heap.size + 1, 0, none⟩ = false := frozen_of_row _ _ _ _ _ HZ1.out
 have z1 : (w0.drewN nq).cell? ⟨w.heap.size, 1, none⟩ = some (.bool bb) := by rw [cell_of_row _ _ _ _ _ _ HV1.out]; rfl
 have r1 : (w0.drewN nq).cell? ⟨w.heap.size + 1, 1, none⟩ = some (.bool false) := by rw [cell_of_row _ _ _ _ _ _ HZ1.out]; rfl
 have f1 : (w0.drewN nq).frozen? ⟨w.heap.size + 1, 1, none⟩ = false := frozen_of_row _ _ _ _ _ HZ1.out
 have z2 : (w0.drewN nq).cell? ⟨w.heap.size, 2, none⟩ = some (.int .i64 0) := by rw [cell_of_row _ _ _ _ _ _ HV1.out]; rfl
 have r2 : (w0.drewN nq).cell? ⟨w.heap.size + 1, 2, none⟩ = some (.int .i64 0) := by rw [cell_of_row _ _ _ _ _ _ HZ1.out]; rfl
 have f2 : (w0.drewN nq).frozen? ⟨w.heap.size + 1, 2, none⟩ = false := frozen_of_row _ _ _ _ _ HZ1.out
 have z3 : (w0.drewN nq).cell? ⟨w.heap.size, 3, none⟩ = some (.string ⟨#[]⟩) := by rw [cell_of_row _ _ _ _ _ _ HV1.out]; rfl
 have r3 : (w0.drewN nq).cell? ⟨w.heap.size + 1, 3, none⟩ = some (.string ⟨#[]⟩) := by rw [cell_of_row _ _ _ _ _ _ HZ1.out]; rfl
 have f3 : (w0.drewN nq).frozen? ⟨w.heap.size + 1, 3, none⟩ = false := frozen_of_row _ _ _ _ _ HZ1.out
 have z4 : (w0.drewN nq).cell? ⟨w.heap.size, 4, none⟩ = some (.slice none 0 0) := by rw [cell_of_row _ _ _ _ _ _ HV1.out]; rfl
 have r4 : (w0.drewN nq).cell? ⟨w.heap.size + 1, 4, none⟩ = some (.slice none 0 0) := by rw [cell_of_row _ _ _ _ _ _ HZ1.out]; rfl
 have f4 : (w0.drewN nq).frozen? ⟨w.heap.size + 1, 4, none⟩ = false := frozen_of_row _ _ _ _ _ HZ1.out
 have z5 : (w0.drewN nq).cell? ⟨w.heap.size, 5, none⟩ = some (.slice none 0 0) := by rw [cell_of_row _ _ _ _ _ _ HV1.out]; rfl
 have r5 : (w0.drewN nq).cell? ⟨w.heap.size + 1, 5, none⟩ = some (.slice none 0 0) := by rw [cell_of_row _ _ _ _ _ _ HZ1.out]; rfl
 have f5 : (w0.drewN nq).frozen? ⟨w.heap.size + 1, 5, none⟩ = false := frozen_of_row _ _ _ _ _ HZ1.out
 have hne : b ≠ w.heap.size := by omega
 have hne1 : b ≠ w.heap.size + 1 := by omega
 have hne2 : w.heap.size + 1 ≠ b := by omega
 have hne3 : w.heap.size ≠ b := by omega
 clear h0 h1
 generalize w0.drewN nq = w1 at *
 go_wp2_with fail
 exact bodyPost_ret (v := .tuple #[.agg #[.int .i64 (0 : Nat), .bool false, .int .i64 0, .string ⟨#[]⟩, .slice none 0 0, .slice none 0 0], .int .i64 3]) (by simp [results, Tryz.results70, go_sem, r0, r1, r2, r3, r4, r5, hne1, hne2]) rfl ⟨rfl, ((((((HG1.out).setNew (Nat.le_succ _) _).setNew (Nat.le_succ _) _).setNew (Nat.le_succ _) _).setNew (Nat.le_succ _) _).setNew (Nat.le_succ _) _).setNew (Nat.le_succ _) _⟩
def TextPost (b : Nat) (t : ByteArray) (p k : Nat) (w : World) (e : Ending) (w' : World) : Prop :=
 G b w w' /\ ((signs (rest t (p + 1)) = none /\ e = .returned (.tuple #[.string ⟨#[]⟩, .int .i64 3])) ∨
  ∃ (s : Bs) (q : Nat), q <= t.size /\ signs (rest t (p + 1)) = some (s, rest t q) /\ e = .returned (.tuple #[.string ⟨s.toArray⟩, .int .i64 0]) /\ Rf b t q k w')
theorem byte_ne {c d : UInt8} (h : c ≠ d) : ((c.toNat : Int) == (d.toNat : Int)) = false := by
 rw [beq_eq_false_iff_ne]
 intro e
 exact h (UInt8.toNat_inj.1 (by omega))
theorem byte_wrap (c : UInt8) : wrap64 (c.toNat : Int) = (c.toNat : Int) := by
 have := c.toNat_lt
 unfold wrap64
 omega
theorem str_snoc (l : Bs) (c : UInt8) : (⟨l.toArray⟩ : ByteArray) ++ ⟨#[c]⟩ = ⟨(l ++ [c]).toArray⟩ := by
 apply ByteArray.ext
 simp [ByteArray.data_append]
theorem plain_iff (c : UInt8) : plain c = true ↔ (32 <= (c.toNat : Int) /\ (c.toNat : Int) <= 126) := by
 unfold plain
 rw [Bool.and_eq_true, decide_eq_true_iff, decide_eq_true_iff, UInt8.le_iff_toNat_le, UInt8.le_iff_toNat_le]
 show 32 <= c.toNat /\ c.toNat <= 126 ↔ _
 omega
theorem chr_at (c : UInt8) (w : World) (x : Int) (h : x = (c.toNat : Int)) :
  Calls Tryz.prog 66 #[.int .i64 x] w fun e w' => e = .returned (.string ⟨#[c]⟩) /\ Below w.heap.size w w' := by
 subst h
 exact chr_any c w
def idxT : ByteArray := { data := #[34, 92, 110, 116] }
theorem idx_all : ∀ n : Fin 256, (if meaning (UInt8.ofNat n.val) = 0 then decide (firstIdx idxT (UInt8.ofNat n.val) < 0) else decide ((n.val = 34 /\ firstIdx idxT (UInt8.ofNat n.val) = 0) ∨ (n.val = 92 /\ firstIdx idxT (UInt8.ofNat n.val) = 1) ∨ (n.val = 110 /\ firstIdx idxT (UInt8.ofNat n.val) = 2) ∨ (n.val = 116 /\ firstIdx idxT (UInt8.ofNat n.val) = 3))) = true := by decide +kernel
theorem idx_cases (d : UInt8) : (meaning d = 0 /\ firstIdx idxT d < 0) ∨ (d = 34 /\ firstIdx idxT d = 0) ∨ (d = 92 /\ firstIdx idxT d = 1) ∨ (d = 110 /\ firstIdx idxT d = 2) ∨ (d = 116 /\ firstIdx idxT d = 3) := by
 have h := idx_all ⟨d.toNat, d.toNat_lt⟩
 simp only [UInt8.ofNat_toNat] at h
 split at h
 ·rename_i h0
  exact Or.inl ⟨h0, of_decide_eq_true h⟩
 ·have h' := of_decide_eq_true h
  rcases h' with ⟨a, b⟩ | ⟨a, b⟩ | ⟨a, b⟩ | ⟨a, b⟩
  ·exact Or.inr (Or.inl ⟨UInt8.toNat_inj.1 a, b⟩)
  ·exact Or.inr (Or.inr (Or.inl ⟨UInt8.toNat_inj.1 a, b⟩))
  ·exact Or.inr (Or.inr (Or.inr (Or.inl ⟨UInt8.toNat_inj.1 a, b⟩)))
  ·exact Or.inr (Or.inr (Or.inr (Or.inr ⟨UInt8.toNat_inj.1 a, b⟩)))
set_option maxRecDepth 100000 in
set_option maxHeartbeats 4000000 in
theorem rftext_any (b : Nat) (t : ByteArray) (p k : Nat) (w : World) (h : Rf b t p k w) (hp : p < t.size) (ht : t.size <= 2000) :
  Calls Tryz.prog 69 #[.pointer (some ⟨b, 0, none⟩)] w (TextPost b t p k w) := by
 have HR : Hid (Rf b t p k w) := h
 have h1 := h.place
 clear h
 go_enter Tryz.func69, Tryz.ntmps69
 go_wp2_with fail
 go_loopw [4, 5] (fun o i wr => ∃ (q : Nat) (l : Bs), q <= t.size /\ p + 1 + l.length <= q /\ i = .int .i64 q /\ o = .string ⟨l.toArray⟩ /\ signs (rest t (p + 1)) = (signs (rest t q)).map (fun r => (l ++ r.1, r.2)) /\ Rf b t p k wr /\ G b w wr) (fun o i _ => t.size - (intOf i).toNat)
 case atStart =>
  refine ⟨p + 1, [], by omega, by simp, by go_num, rfl, ?_, HR.out, G.refl _ _⟩
  cases signs (rest t (p + 1)) <;> simp
 case round =>
  obtain ⟨q, l, hq, hl, rfl, rfl, hs, hR, hG⟩ := hrel
  have HS : Hid (signs (rest t (p + 1)) = (signs (rest t q)).map (fun r => (l ++ r.1, r.2))) := hs
  have HR1 : Hid (Rf b t p k wr) := hR
  have HG : Hid (G b w wr) := hG
  have h0 := hR.text
  have c1 := hR.place
  have c2 := hR.free 1
  have hll : l.length <= 2000 := by omega
  have HLl : Hid ((⟨l.toArray⟩ : ByteArray).size = l.length) := by show (⟨l.toArray⟩ : ByteArray).size = l.length; simp [ByteArray.size]
  clear hs hR hG h1
  by_cases hlt : q < t.size
  ·have hI : (q : Int) < (t.size : Int) := by omega
   have HC : Hid (rest t q = t[q] :: rest t (q + 1)) := rest_cons hlt
   by_cases h34 : t[q] = 34
   ·have HE : Hid (signs (rest t (p + 1)) = some (l, rest t (q + 1))) := by
     show signs (rest t (p + 1)) = _
     rw [HS.out, HC.out, signs_cons, if_pos h34]
     simp
    go_wp2_with fail
    go_ret2
    exact ⟨HG.out.setCell 1 _, Or.inr ⟨l, q + 1, by omega, HE.out, rfl, HR1.out.move (q + 1)⟩⟩
   have n34 : ((t[q].toNat : Int) == 34) = false := byte_ne h34
   by_cases h92 : t[q] = 92
   ·by_cases hlt2 : q + 1 < t.size
    ·have hI2 : (q : Int) + 1 < (t.size : Int) := by omega
     have HC2 : Hid (rest t (q + 1) = t[q + 1] :: rest t (q + 1 + 1)) := rest_cons hlt2
     rcases idx_cases t[q + 1] with ⟨hd1, hd2⟩ | ⟨hd1, hd2⟩ | ⟨hd1, hd2⟩ | ⟨hd1, hd2⟩ | ⟨hd1, hd2⟩
     ·have HE : Hid (signs (rest t (p + 1)) = none) := by
       show signs (rest t (p + 1)) = none
       rw [HS.out, HC.out, signs_cons, if_neg h34, if_pos h92, HC2.out]
       simp only []
       rw [if_pos hd1]
       rfl
      go_wp2_with fail
      refine (index_any _ _ wr).mono ?_
      rintro e w0 ⟨rfl, rfl⟩
      have hneg : firstIdx { data := #[34, 92, 110, 116] } ((t[q + 1].toNat : Int)).toNat.toUInt8 < 0 := by rw [show ((t[q + 1].toNat : Int)).toNat.toUInt8 = t[q + 1] from by simp]; exact hd2
      generalize firstIdx { data := #[34, 92, 110, 116] } ((t[q + 1].toNat : Int)).toNat.toUInt8 = ix at *
      go_wp2_with fail
      go_ret2
      exact ⟨HG.out, Or.inl ⟨HE.out, rfl⟩⟩
     ·have HE : Hid (signs (rest t (p + 1)) = (signs (rest t (q + 1 + 1))).map (fun r => (l ++ [34] ++ r.1, r.2))) := by
       show signs (rest t (p + 1)) = _
       rw [HS.out, HC.out, signs_cons, if_neg h34, if_pos h92, HC2.out]
       simp only []
       rw [hd1, if_neg (by decide)]
       have em : meaning 34 = 34 := by decide
       rw [em]
       cases signs (rest t (q + 1 + 1)) <;> simp
      go_wp2_with fail
      refine (index_any _ _ wr).mono ?_
      rintro e w0 ⟨rfl, rfl⟩
      rw [show firstIdx { data := #[34, 92, 110, 116] } (Int.toNat 34).toUInt8 = 0 from by decide +kernel]
      go_wp2_with fail
      refine Calls.mono (chr_at 34 w0 _ ?_) ?_
      ·decide +kernel
      rintro e w1 ⟨rfl, b1⟩
      have HR2 : Hid (Rf b t p k w1) := (b1.block b HR1.out.lt).trans HR1.out
      have HG2 : Hid (G b w w1) := HG.out.grown (row := none) ⟨b1.os, b1.tape, b1.output, b1.size, fun k hk _ => b1.block k hk⟩ (fun k e => by cases e)
      have d1 : ¬ 9223372036854775807 < (⟨l.toArray⟩ : ByteArray).size + 1 := by rw [HLl.out]; omega
      have d2 : ¬ 9223372036854775807 < l.length + 1 := by omega
      clear b1
      go_wp2_with fail
      go_roundw
      case rel => exact ⟨q + 1 + 1, l ++ [34], by omega, by simp; omega, by go_num, by rw [<- str_snoc], HE.out, HR2.out, HG2.out⟩
      case measure => simp [intOf]; omega
     ·have HE : Hid (signs (rest t (p + 1)) = (signs (rest t (q + 1 + 1))).map (fun r => (l ++ [92] ++ r.1, r.2))) := by
       show signs (rest t (p + 1)) = _
       rw [HS.out, HC.out, signs_cons, if_neg h34, if_pos h92, HC2.out]
       simp only []
       rw [hd1, if_neg (by decide)]
       have em : meaning 92 = 92 := by decide
       rw [em]
       cases signs (rest t (q + 1 + 1)) <;> simp
      go_wp2_with fail
      refine (index_any _ _ wr).mono ?_
      rintro e w0 ⟨rfl, rfl⟩
      rw [show firstIdx { data := #[34, 92, 110, 116] } (Int.toNat 92).toUInt8 = 1 from by decide +kernel]
      go_wp2_with fail
      refine Calls.mono (chr_at 92 w0 _ ?_) ?_
      ·decide +kernel
      rintro e w1 ⟨rfl, b1⟩
      have HR2 : Hid (Rf b t p k w1) := (b1.block b HR1.out.lt).trans HR1.out
      have HG2 : Hid (G b w w1) := HG.out.grown (row := none) ⟨b1.os, b1.tape, b1.output, b1.size, fun k hk _ => b1.block k hk⟩ (fun k e => by cases e)
      have d1 : ¬ 9223372036854775807 < (⟨l.toArray⟩ : ByteArray).size + 1 := by rw [HLl.out]; omega
      have d2 : ¬ 9223372036854775807 < l.length + 1 := by omega
      clear b1
      go_wp2_with fail
      go_roundw
      case rel => exact ⟨q + 1 + 1, l ++ [92], by omega, by simp; omega, by go_num, by rw [<- str_snoc], HE.out, HR2.out, HG2.out⟩
      case measure => simp [intOf]; omega
     ·have HE : Hid (signs (rest t (p + 1)) = (signs (rest t (q + 1 + 1))).map (fun r => (l ++ [10] ++ r.1, r.2))) := by
       show signs (rest t (p + 1)) = _
       rw [HS.out, HC.out, signs_cons, if_neg h34, if_pos h92, HC2.out]
       simp only []
       rw [hd1, if_neg (by decide)]
       have em : meaning 110 = 10 := by decide
       rw [em]
       cases signs (rest t (q + 1 + 1)) <;> simp
      go_wp2_with fail
      refine (index_any _ _ wr).mono ?_
      rintro e w0 ⟨rfl, rfl⟩
      rw [show firstIdx { data := #[34, 92, 110, 116] } (Int.toNat 110).toUInt8 = 2 from by decide +kernel]
      go_wp2_with fail
      refine Calls.mono (chr_at 10 w0 _ ?_) ?_
      ·decide +kernel
      rintro e w1 ⟨rfl, b1⟩
      have HR2 : Hid (Rf b t p k w1) := (b1.block b HR1.out.lt).trans HR1.out
      have HG2 : Hid (G b w w1) := HG.out.grown (row := none) ⟨b1.os, b1.tape, b1.output, b1.size, fun k hk _ => b1.block k hk⟩ (fun k e => by cases e)
      have d1 : ¬ 9223372036854775807 < (⟨l.toArray⟩ : ByteArray).size + 1 := by rw [HLl.out]; omega
      have d2 : ¬ 9223372036854775807 < l.length + 1 := by omega
      clear b1
      go_wp2_with fail
      go_roundw
      case rel => exact ⟨q + 1 + 1, l ++ [10], by omega, by simp; omega, by go_num, by rw [<- str_snoc], HE.out, HR2.out, HG2.out⟩
      case measure => simp [intOf]; omega
     ·have HE : Hid (signs (rest t (p + 1)) = (signs (rest t (q + 1 + 1))).map (fun r => (l ++ [9] ++ r.1, r.2))) := by
       show signs (rest t (p + 1)) = _
       rw [HS.out, HC.out, signs_cons, if_neg h34, if_pos h92, HC2.out]
       simp only []
       rw [hd1, if_neg (by decide)]
       have em : meaning 116 = 9 := by decide
       rw [em]
       cases signs (rest t (q + 1 + 1)) <;> simp
      go_wp2_with fail
      refine (index_any _ _ wr).mono ?_
      rintro e w0 ⟨rfl, rfl⟩
      rw [show firstIdx { data := #[34, 92, 110, 116] } (Int.toNat 116).toUInt8 = 3 from by decide +kernel]
      go_wp2_with fail
      refine Calls.mono (chr_at 9 w0 _ ?_) ?_
      ·decide +kernel
      rintro e w1 ⟨rfl, b1⟩
      have HR2 : Hid (Rf b t p k w1) := (b1.block b HR1.out.lt).trans HR1.out
      have HG2 : Hid (G b w w1) := HG.out.grown (row := none) ⟨b1.os, b1.tape, b1.output, b1.size, fun k hk _ => b1.block k hk⟩ (fun k e => by cases e)
      have d1 : ¬ 9223372036854775807 < (⟨l.toArray⟩ : ByteArray).size + 1 := by rw [HLl.out]; omega
      have d2 : ¬ 9223372036854775807 < l.length + 1 := by omega
      clear b1
      go_wp2_with fail
      go_roundw
      case rel => exact ⟨q + 1 + 1, l ++ [9], by omega, by simp; omega, by go_num, by rw [<- str_snoc], HE.out, HR2.out, HG2.out⟩
      case measure => simp [intOf]; omega
    ·have hI2 : ¬ (q : Int) + 1 < (t.size : Int) := by omega
     have HE : Hid (signs (rest t (p + 1)) = none) := by
      show signs (rest t (p + 1)) = none
      rw [HS.out, HC.out, signs_cons, if_neg h34, if_pos h92, rest_nil (by omega)]
      rfl
     go_wp2_with fail
     go_ret2
     exact ⟨HG.out, Or.inl ⟨HE.out, rfl⟩⟩
   have n92 : ((t[q].toNat : Int) == 92) = false := byte_ne h92
   by_cases hpl : plain t[q] = true
   ·obtain ⟨g1, g2⟩ := (plain_iff t[q]).1 hpl
    have g1' : decide ((t[q].toNat : Int) < 32) = false := by rw [decide_eq_false_iff_not]; omega
    have g2' : decide ((126 : Int) < (t[q].toNat : Int)) = false := by rw [decide_eq_false_iff_not]; omega
    have HE : Hid (signs (rest t (p + 1)) = (signs (rest t (q + 1))).map (fun r => (l ++ [t[q]] ++ r.1, r.2))) := by
     show signs (rest t (p + 1)) = _
     rw [HS.out, HC.out, signs_cons, if_neg h34, if_neg h92, if_pos hpl]
     cases signs (rest t (q + 1)) <;> simp
    have hwr := byte_wrap t[q]
    clear h34 h92 hpl g1 g2
    go_wp2_with fail
    refine (chr_any t[q] wr).mono ?_
    rintro e w1 ⟨rfl, b1⟩
    have HR2 : Hid (Rf b t p k w1) := (b1.block b HR1.out.lt).trans HR1.out
    have HG2 : Hid (G b w w1) := HG.out.grown (row := none) ⟨b1.os, b1.tape, b1.output, b1.size, fun k hk _ => b1.block k hk⟩ (fun k e => by cases e)
    have d1 : ¬ 9223372036854775807 < (⟨l.toArray⟩ : ByteArray).size + 1 := by rw [HLl.out]; omega
    have d2 : ¬ 9223372036854775807 < l.length + 1 := by omega
    clear b1
    go_wp2_with fail
    go_roundw
    case rel => exact ⟨q + 1, l ++ [t[q]], by omega, by simp; omega, by go_num, by rw [<- str_snoc], HE.out, HR2.out, HG2.out⟩
    case measure => simp [intOf]; omega
   ·have g3 : (decide ((t[q].toNat : Int) < 32) || decide ((126 : Int) < (t[q].toNat : Int))) = true := by
     have := plain_iff t[q]
     rw [Bool.or_eq_true, decide_eq_true_iff, decide_eq_true_iff]
     apply Classical.byContradiction
     intro hc
     exact hpl (this.2 (by omega))
    have HE : Hid (signs (rest t (p + 1)) = none) := by
     show signs (rest t (p + 1)) = none
     rw [HS.out, HC.out, signs_cons, if_neg h34, if_neg h92, if_neg hpl]
     rfl
    by_cases g1 : (t[q].toNat : Int) < 32
    ·go_wp2_with fail
     go_ret2
     exact ⟨HG.out, Or.inl ⟨HE.out, rfl⟩⟩
    ·have g2 : (126 : Int) < (t[q].toNat : Int) := by
      rw [Bool.or_eq_true, decide_eq_true_iff, decide_eq_true_iff] at g3
      omega
     clear g3
     go_wp2_with fail
     go_ret2
     exact ⟨HG.out, Or.inl ⟨HE.out, rfl⟩⟩
  ·have hI : ¬ (q : Int) < (t.size : Int) := by omega
   have HE : Hid (signs (rest t (p + 1)) = none) := by
    show signs (rest t (p + 1)) = none
    rw [HS.out, rest_nil (by omega), signs_nil]
    rfl
   go_wp2_with fail
   go_ret2
   exact ⟨HG.out, Or.inl ⟨HE.out, rfl⟩⟩
end Go.Proofs.YtjcdklbimaclkaaGreatDoor
