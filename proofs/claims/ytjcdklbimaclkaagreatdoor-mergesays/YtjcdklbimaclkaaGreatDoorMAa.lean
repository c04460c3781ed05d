/- Doc, RestPlain, GPlain, OwnPlain, Repr, RdPlain, Rd, ListPlain, RfRepr, RfPlain, RfBox, RfFind, RfRows -/
import Derived.WalkKit
import Derived.Lib.ItoaNum
import Derived.Lib.ParseIntB
import Derived.Lib.Bytealg
import Derived.Deep.QuietTactic
import Derived.Test.YtjcdklbimaclkaaGreatDoorRows
import Derived.Laws.BytesArg
import Derived.Lib.AppendIntMem
import Derived.Lib.OthersKept
import Derived.WalkSpells
import Derived.BigQuiet
import Derived.Handy
import Derived.Deep.AppendLies
namespace Go.Proofs.YtjcdklbimaclkaaGreatDoor
abbrev Bs := List UInt8
abbrev Leaf := Option (Sum Bool (Sum Int Bs))
def J : Nat -> Type
 | 0 => Leaf
 | n + 1 => Sum Leaf (Sum (List (J n)) (List (Bs × J n)))
def leaf : (n : Nat) -> Leaf -> J n
 | 0, l => l
 | _ + 1, l => Sum.inl l
/-! How a value is told. -/
def quoteB (c : UInt8) : Bs := if c = 10 then [92, 110] else if c = 9 then [92, 116] else if c = 34 ∨ c = 92 then [92, c] else [c]
def quote (s : Bs) : Bs := 34 :: (s.flatMap quoteB ++ [34])
def nullB : Bs := [110, 117, 108, 108]
def trueB : Bs := [116, 114, 117, 101]
def falseB : Bs := [102, 97, 108, 115, 101]
def tellLeaf : Leaf -> Bs
 | none => nullB
 | some (Sum.inl true) => trueB
 | some (Sum.inl false) => falseB
 | some (Sum.inr (Sum.inl i)) => Lib.itoa i
 | some (Sum.inr (Sum.inr s)) => quote s
def commas : List Bs -> Bs
 | [] => []
 | [x] => x
 | x :: y :: r => x ++ 44 :: commas (y :: r)
def tell : (n : Nat) -> J n -> Bs
 | 0, l => tellLeaf l
 | _ + 1, Sum.inl l => tellLeaf l
 | n + 1, Sum.inr (Sum.inl xs) => 91 :: (commas (xs.map (tell n)) ++ [93])
 | n + 1, Sum.inr (Sum.inr fs) => 123 :: (commas (fs.map fun f => quote f.1 ++ 58 :: tell n f.2) ++ [125])
/-! How many values there are, how deep they lie, of which kind a value is. -/
def nodes : (n : Nat) -> J n -> Nat
 | 0, _ => 1
 | _ + 1, Sum.inl _ => 1
 | n + 1, Sum.inr (Sum.inl xs) => 1 + (xs.map (nodes n)).sum
 | n + 1, Sum.inr (Sum.inr fs) => 1 + (fs.map fun f => nodes n f.2).sum
def maxOf : List Nat -> Nat
 | [] => 0
 | x :: r => max x (maxOf r)
def depth : (n : Nat) -> J n -> Nat
 | 0, _ => 0
 | _ + 1, Sum.inl _ => 0
 | n + 1, Sum.inr (Sum.inl xs) => 1 + maxOf (xs.map (depth n))
 | n + 1, Sum.inr (Sum.inr fs) => 1 + maxOf (fs.map fun f => depth n f.2)
def kindLeaf : Leaf -> Nat
 | none => 1
 | some (Sum.inl _) => 2
 | some (Sum.inr (Sum.inl _)) => 3
 | some (Sum.inr (Sum.inr _)) => 4
def kindJ : (n : Nat) -> J n -> Nat
 | 0, l => kindLeaf l
 | _ + 1, Sum.inl l => kindLeaf l
 | _ + 1, Sum.inr (Sum.inl _) => 5
 | _ + 1, Sum.inr (Sum.inr _) => 6
/-! How a text is read: what is left of it is handed on. -/
def blank (c : UInt8) : Bool := c == 32 || (c == 10 || c == 9)
def skip : Bs -> Bs
 | [] => []
 | c :: r => if blank c then skip r else c :: r
def hd (r : Bs) : UInt8 := r.headD 0
abbrev eLarge : Nat := 2
abbrev eSyntax : Nat := 3
abbrev eDeep : Nat := 4
abbrev eTwice : Nat := 5
def opens : Bs := [110, 116, 102, 34, 91, 123, 45, 48, 49, 50, 51, 52, 53, 54, 55, 56, 57]
def beginE (n k : Nat) (r : Bs) : Nat :=
 if ¬ hd r ∈ opens then eSyntax else if 200 <= k then eLarge else if n = 0 /\ (hd r = 91 ∨ hd r = 123) then eDeep else 0
def isDigit (c : UInt8) : Bool := decide (48 <= c) && decide (c <= 57)
def word (w r : Bs) (l : Leaf) : Except Nat (Leaf × Bs) := if w.isPrefixOf r then .ok (l, r.drop w.length) else .error eSyntax
def decV (ds : Bs) : Nat := ds.foldl (fun n c => 10 * n + (c.toNat - 48)) 0
def numVal (below : Bool) (ds : Bs) : Int := if below then -(decV ds : Int) else (decV ds : Int)
def number (r : Bs) : Except Nat (Leaf × Bs) :=
 let below := hd r == 45
 let r1 := if below then r.tail else r
 let ds := r1.takeWhile isDigit
 if ds = [] then .error eSyntax
 else if hd ds = 48 /\ (below = true ∨ 1 < ds.length) then .error eSyntax
 else if 18 < ds.length then .error eLarge
 else .ok (some (Sum.inr (Sum.inl (numVal below ds))), r1.dropWhile isDigit)
def meaning (c : UInt8) : UInt8 := if c = 34 ∨ c = 92 then c else if c = 110 then 10 else if c = 116 then 9 else 0
def plain (c : UInt8) : Bool := decide (32 <= c) && decide (c <= 126)
def signs : Bs -> Option (Bs × Bs)
 | [] => none
 | c :: r =>
  if c = 34 then some ([], r)
  else if c = 92 then
   match r with
   | [] => none
   | d :: r' => if meaning d = 0 then none else (signs r').map fun p => (meaning d :: p.1, p.2)
  else if plain c then (signs r).map fun p => (c :: p.1, p.2)
  else none
def quoted (r : Bs) : Option (Bs × Bs) := if hd r = 34 then signs r.tail else none
def textE (r : Bs) : Except Nat (Leaf × Bs) :=
 match quoted r with
 | none => .error eSyntax
 | some p => .ok (some (Sum.inr (Sum.inr p.1)), p.2)
def leafE (r : Bs) : Except Nat (Leaf × Bs) :=
 if hd r = 110 then word nullB r none
 else if hd r = 116 then word trueB r (some (Sum.inl true))
 else if hd r = 102 then word falseB r (some (Sum.inl false))
 else if hd r = 34 then textE r
 else number r
def rowGo {σ : Type} (z : UInt8) (one : σ -> Nat -> Bs -> Except Nat (σ × Nat × Bs)) : Nat -> σ -> Nat -> Bs -> Except Nat (σ × Nat × Bs)
 | 0, _, _, _ => .error eSyntax
 | f + 1, s, k, r =>
  match one s k r with
  | .error e => .error e
  | .ok (s', k', r1) =>
   if hd (skip r1) = z then .ok (s', k', (skip r1).tail)
   else if hd (skip r1) = 44 then rowGo z one f s' k' (skip r1).tail
   else .error eSyntax
def row {σ : Type} (z : UInt8) (one : σ -> Nat -> Bs -> Except Nat (σ × Nat × Bs)) (s : σ) (k : Nat) (r : Bs) : Except Nat (σ × Nat × Bs) :=
 if hd (skip r.tail) = z then .ok (s, k, (skip r.tail).tail) else rowGo z one (r.length + 1) s k (skip r.tail)
def oneItem {α : Type} (pv : Nat -> Bs -> Except Nat (α × Nat × Bs)) (s : List α) (k : Nat) (r : Bs) : Except Nat (List α × Nat × Bs) :=
 match pv k r with
 | .error e => .error e
 | .ok (v, k', r') => .ok (s ++ [v], k', r')
def less (a b : Bs) : Bool := decide (Lib.compareBytes a b < 0)
def insertAt {α : Type} (fs : List (Bs × α)) (nm : Bs) (v : α) : List (Bs × α) := fs.takeWhile (fun f => less f.1 nm) ++ (nm, v) :: fs.dropWhile (fun f => less f.1 nm)
def nameE {α : Type} (fs : List (Bs × α)) (r : Bs) : Except Nat (Bs × Bs) :=
 match quoted (skip r) with
 | none => .error eSyntax
 | some p =>
  if fs.any (fun f => f.1 == p.1) then .error eTwice
  else if hd (skip p.2) = 58 then .ok (p.1, (skip p.2).tail)
  else .error eSyntax
def oneField {α : Type} (pv : Nat -> Bs -> Except Nat (α × Nat × Bs)) (s : List (Bs × α)) (k : Nat) (r : Bs) : Except Nat (List (Bs × α) × Nat × Bs) :=
 match nameE s r with
 | .error e => .error e
 | .ok (nm, r1) =>
  match pv k r1 with
  | .error e => .error e
  | .ok (v, k', r') => .ok (insertAt s nm v, k', r')
def leafAt (n k : Nat) (r : Bs) : Except Nat (J n × Nat × Bs) :=
 match leafE r with
 | .error e => .error e
 | .ok (l, r') => .ok (leaf n l, k + 1, r')
def value : (n : Nat) -> Nat -> Bs -> Except Nat (J n × Nat × Bs)
 | 0, k, r => if beginE 0 k (skip r) ≠ 0 then .error (beginE 0 k (skip r)) else leafAt 0 k (skip r)
 | n + 1, k, r =>
  if beginE (n + 1) k (skip r) ≠ 0 then .error (beginE (n + 1) k (skip r))
  else if hd (skip r) = 91 then
   match row 93 (oneItem (value n)) [] (k + 1) (skip r) with
   | .error e => .error e
   | .ok (s, k', r') => .ok (Sum.inr (Sum.inl s), k', r')
  else if hd (skip r) = 123 then
   match row 125 (oneField (value n)) [] (k + 1) (skip r) with
   | .error e => .error e
   | .ok (s, k', r') => .ok (Sum.inr (Sum.inr s), k', r')
  else leafAt (n + 1) k (skip r)
def read (s : Bs) : Except Nat (J 10) :=
 if 2000 < s.length then .error eLarge
 else match value 10 0 s with
  | .error e => .error e
  | .ok (j, _, r) => if skip r = [] then .ok j else .error eSyntax
end Go.Proofs.YtjcdklbimaclkaaGreatDoor
namespace Go.Proofs.YtjcdklbimaclkaaGreatDoor
set_option linter.unusedVariables false
set_option linter.unusedSimpArgs false
def rest (t : ByteArray) (p : Nat) : Bs := t.data.toList.drop p
theorem rest_cons {t : ByteArray} {p : Nat} (h : p < t.size) : rest t p = t[p] :: rest t (p + 1) := by
 unfold rest
 have h' : p < t.data.toList.length := by simpa using h
 rw [List.drop_eq_getElem_cons h']
 rfl
theorem rest_nil {t : ByteArray} {p : Nat} (h : t.size <= p) : rest t p = [] := by
 unfold rest
 apply List.drop_of_length_le
 simpa using h
theorem rest_len (t : ByteArray) (p : Nat) : (rest t p).length = t.size - p := by simp [rest]
theorem hd_lt {t : ByteArray} {p : Nat} (h : p < t.size) : hd (rest t p) = t[p] := by rw [rest_cons h]; rfl
theorem hd_end {t : ByteArray} {p : Nat} (h : t.size <= p) : hd (rest t p) = 0 := by rw [rest_nil h]; rfl
theorem rest_tail (t : ByteArray) (p : Nat) : (rest t p).tail = rest t (p + 1) := by simp [rest, List.tail_drop]
theorem lt_of_hd {t : ByteArray} {p : Nat} (h : hd (rest t p) ≠ 0) : p < t.size := by
 rcases Nat.lt_or_ge p t.size with h' | h'
 ·exact h'
 ·exact absurd (hd_end h') h
theorem rest_inj {t : ByteArray} {p q : Nat} (hp : p <= t.size) (hq : q <= t.size) (h : rest t p = rest t q) : p = q := by
 have := congrArg List.length h
 rw [rest_len, rest_len] at this
 omega
end Go.Proofs.YtjcdklbimaclkaaGreatDoor
namespace Go.Proofs.YtjcdklbimaclkaaGreatDoor
open Go.RowKit
set_option linter.unusedVariables false
set_option linter.unusedSimpArgs false
def G (b : Nat) (w w' : World) : Prop := w.grownBy w' (some b)
theorem G.refl (b : Nat) (w : World) : G b w w := ⟨rfl, rfl, rfl, Nat.le_refl _, fun _ _ _ => rfl⟩
theorem G.trans {b : Nat} {x y z : World} (h : G b x y) (g : G b y z) : G b x z :=
 ⟨g.os.trans h.os, g.tape.trans h.tape, g.output.trans h.output, Nat.le_trans h.size g.size, fun k hk hb => (g.block k (Nat.lt_of_lt_of_le hk h.size) hb).trans (h.block k hk hb)⟩
theorem G.drew {b : Nat} {x y : World} (h : G b x y) : G b x y.drew := ⟨h.os, h.tape, h.output, h.size, h.block⟩
theorem G.drewN {b : Nat} {x y : World} (h : G b x y) (n : Nat) : G b x (y.drewN n) := ⟨h.os, h.tape, h.output, h.size, h.block⟩
theorem drewN_two (w : World) (m n : Nat) : (w.drewN m).drewN n = w.drewN (m + n) := by simp [World.drewN, Nat.add_assoc]
theorem G.setCell {b : Nat} {x y : World} (h : G b x y) (o : Nat) (v : Value) : G b x (y.setCell ⟨b, o, none⟩ v) :=
 h.trans ⟨rfl, rfl, rfl, by simp [World.setCell], fun k _ hb => heap_setCell_other _ _ _ _ (fun e => hb (by rw [e]))⟩
theorem G.alloc {b : Nat} {x y : World} (h : G b x y) (o : Obj) : G b x (y.alloc o) := h.trans (World.grownBy_alloc y o (some b))
theorem below_of_new {w w' : World} {o : Obj} (g : G w.heap.size (w.alloc o) w') : Below w.heap.size w w' :=
 ⟨g.os, g.tape, g.output, by have := g.size; simp at this; omega, fun k hk => (g.block k (by simp; omega) (fun e => by cases e; omega)).trans (Below.heap_alloc w o k hk)⟩
theorem below_of_G {b : Nat} {w w' : World} (g : G b w w') (hb : b < w.heap.size) : Below b w w' :=
 ⟨g.os, g.tape, g.output, g.size, fun k hk => g.block k (by omega) (fun e => by cases e; omega)⟩
def Own (B : Nat) (w : World) (v : Value) (l : Bs) : Prop := w.ownsRow B 5 1 v l.length (Lib.byteCells l)
theorem Own.nil (B : Nat) (w : World) : Own B w (.slice none 0 0) [] := World.ownsRow_nil _ _ _ _
theorem Own.kept {b B : Nat} {w w' : World} {v : Value} {l : Bs} (h : Own B w v l) (g : G b w w') (hb : b < B) : Own B w' v l := by
 refine World.ownsRow.kept h g ?_
 cases hv : v.ownBlock with
 | none => exact Or.inl rfl
 | some x =>
  have := (World.ownsRow.lt h x hv).1
  exact Or.inr (fun e => by cases e; omega)
theorem Own.row {B : Nat} {w : World} {v : Value} {l : Bs} (h : Own B w v l) : ∀ k, v.ownBlock = some k -> B <= k := fun k hk => (World.ownsRow.lt h k hk).1
theorem G.grown {b : Nat} {w0 w w' : World} {row : Option Nat} (h : G b w0 w) (hg : w.grownBy w' row) (hr : ∀ k, row = some k -> w0.heap.size <= k) : G b w0 w' :=
 ⟨hg.os.trans h.os, hg.tape.trans h.tape, hg.output.trans h.output, Nat.le_trans h.size hg.size, fun k hk hb => (hg.block k (Nat.lt_of_lt_of_le hk h.size) (fun e => by have := hr k e.symm; omega)).trans (h.block k hk hb)⟩
structure Fr (B : Nat) (w w' : World) : Prop where
 below : Below B w w'
 others : Lib.OthersKept 5 none w w'
theorem Fr.refl (B : Nat) (w : World) : Fr B w w := ⟨Below.refl _ _, Lib.OthersKept.refl _ _ _⟩
theorem Fr.trans {B : Nat} {a b c : World} (h : Fr B a b) (k : Fr B b c) : Fr B a c := ⟨h.below.trans k.below, h.others.trans k.others⟩
theorem Fr.alloc {B : Nat} {a w : World} (h : Fr B a w) (hB : B <= w.heap.size) (o : Obj) : Fr B a (w.alloc o) := ⟨h.below.alloc hB o, h.others.alloc o⟩
theorem Fr.own {B n : Nat} {a w w' : World} {v : Value} {xs : List Value} (h : Fr B a w) (ho : w.ownsRow B 5 1 v n xs) (hB : B <= w.heap.size) (hg : w.grownBy w' v.ownBlock) : Fr B a w' :=
 ⟨h.below.grown hg hB (fun k hk => (World.ownsRow.lt ho k hk).1), h.others.grown hg (fun k hk => by
  rcases ho.2 with ⟨rfl, _⟩ | ⟨g, cap, cur, rfl, _, hh, _⟩
  ·simp [Value.ownBlock] at hk
  ·simp [Value.ownBlock] at hk
   subst hk
   exact ⟨cur, _, hh⟩)⟩
theorem cells_snoc (l : Bs) (c : UInt8) : Lib.byteCells l ++ [.int .u8 c.toNat] = Lib.byteCells (l ++ [c]) := by simp [Lib.byteCells]
theorem strOf_bytes (l : Bs) : strOfNums (l.map fun c => (c.toNat : Int)) = ⟨l.toArray⟩ := by
 have : ((l.map fun c => (c.toNat : Int)).map fun n => UInt8.ofNat n.toNat) = l := by
  rw [List.map_map]
  conv => rhs; rw [<- List.map_id l]
  apply List.map_congr_left
  intro c _
  simp
 unfold strOfNums
 rw [this]
theorem info_u8 : (Tryz.prog.info? 5).map (fun i => (i.zero, i.size, i.bytes)) = some (some (.int .u8 0), 1, 1) := by kernel_rfl
theorem conv_own {B : Nat} {w : World} {v : Value} {l : Bs} (h : Own B w v l) : (convert 95 9 v).run Tryz.prog w = .ok (.string ⟨l.toArray⟩) w := by
 rcases h.2 with ⟨rfl, hn⟩ | ⟨g, cap, cur, rfl, hg, hh, _, _, _, htk⟩
 ·have : l = [] := List.length_eq_zero_iff.1 hn
  subst this
  exact run_convert_bytes_nil w 95 5 Tryz.underlying95 Tryz.underlying5 0 0 9 Tryz.underlying9
 ·have := run_convert_bytes_arg (P := Tryz.prog) w 95 5 Tryz.underlying95 Tryz.underlying5 g 0 l.length cap (l.map fun c => (c.toNat : Int)) (by simp) (by
   intro i hi
   rw [Nat.zero_add, cell_of_row _ _ _ _ _ _ hh]
   have h2 : (cur.toList.take (l.length * 1))[i]? = (Lib.byteCells l)[i]? := by rw [htk]
   rw [List.getElem?_take, if_pos (by omega)] at h2
   rw [Array.getElem?_toList] at h2
   rw [h2]
   simp [Lib.byteCells, hi]) 9 Tryz.underlying9
  have e : strOfNums (l.map fun c => (c.toNat : Int)) = ⟨l.toArray⟩ := strOf_bytes l
  rw [e] at this
  exact this
def leafV : Leaf -> Value
  | none => .iface 66 (.agg #[])
  | some (Sum.inl b) => .iface 74 (.bool b)
  | some (Sum.inr (Sum.inl i)) => .iface 75 (.int .i64 i)
  | some (Sum.inr (Sum.inr s)) => .iface 76 (.string ⟨s.toArray⟩)
def St (av : Nat -> Prop) (w : World) : (n : Nat) -> J n -> Value -> Prop
  | 0, l, v => v = leafV l
  | _ + 1, Sum.inl l, v => v = leafV l
  | n + 1, Sum.inr (Sum.inl xs), v => (xs = [] /\ v = .iface 78 (.slice none 0 0)) ∨ ∃ (g cap : Nat) (vs : List Value), v = .iface 78 (.slice (some ⟨g, 0, none⟩) xs.length cap) /\ vs.length = xs.length /\ xs.length <= cap /\ cap <= maxLen /\ ¬ av g /\ g < w.heap.size /\
      (∀ (i : Nat) (u : Value), vs[i]? = some u -> w.cell? ⟨g, i, none⟩ = some u) /\ ∀ (i : Nat) (x : J n) (u : Value), xs[i]? = some x -> vs[i]? = some u -> St av w n x u
  | n + 1, Sum.inr (Sum.inr fs), v => (fs = [] /\ v = .iface 53 (.slice none 0 0)) ∨ ∃ (g cap : Nat) (vs : List Value), v = .iface 53 (.slice (some ⟨g, 0, none⟩) fs.length cap) /\ vs.length = fs.length /\ fs.length <= cap /\ cap <= maxLen /\ ¬ av g /\ g < w.heap.size /\
      (∀ (i : Nat) (f : Bs × J n) (u : Value), fs[i]? = some f -> vs[i]? = some u -> w.cell? ⟨g, i * 2, none⟩ = some (.string ⟨f.1.toArray⟩) /\ w.cell? ⟨g, i * 2 + 1, none⟩ = some u) /\ ∀ (i : Nat) (f : Bs × J n) (u : Value), fs[i]? = some f -> vs[i]? = some u -> St av w n f.2 u
theorem St.move {av av' : Nat -> Prop} {w w1 : World} (hs : w.heap.size <= w1.heap.size) (hb : ∀ c, c < w.heap.size -> ¬ av c -> w1.heap[c]? = w.heap[c]?) (ha : ∀ c, c < w.heap.size -> ¬ av c -> ¬ av' c) : ∀ (n : Nat) (j : J n) (v : Value), St av w n j v -> St av' w1 n j v
  | 0, _, _, h => h
  | _ + 1, Sum.inl _, _, h => h
  | n + 1, Sum.inr (Sum.inl xs), v, h => by
    rcases h with h | ⟨g, cap, vs, hv, hl, hc, hm, hg, hlt, hcell, hel⟩
    · exact Or.inl h
    refine Or.inr ⟨g, cap, vs, hv, hl, hc, hm, ha g hlt hg, by omega, fun i u hu => ?_, fun i x u hx hu => St.move hs hb ha n x u (hel i x u hx hu)⟩
    rw [World.cell?_of_block (w := w) (w' := w1) (a := ⟨g, i, none⟩) (hb g hlt hg)]
    exact hcell i u hu
  | n + 1, Sum.inr (Sum.inr fs), v, h => by
    rcases h with h | ⟨g, cap, vs, hv, hl, hc, hm, hg, hlt, hcell, hel⟩
    · exact Or.inl h
    refine Or.inr ⟨g, cap, vs, hv, hl, hc, hm, ha g hlt hg, by omega, fun i f u hf hu => ?_, fun i f u hf hu => St.move hs hb ha n f.2 u (hel i f u hf hu)⟩
    rw [World.cell?_of_block (w := w) (w' := w1) (a := ⟨g, i * 2, none⟩) (hb g hlt hg), World.cell?_of_block (w := w) (w' := w1) (a := ⟨g, i * 2 + 1, none⟩) (hb g hlt hg)]
    exact hcell i f u hf hu
theorem St.mono {av av' : Nat -> Prop} {w : World} {n : Nat} {j : J n} {v : Value} (h : St av w n j v) (ha : ∀ c, c < w.heap.size -> av' c -> av c) : St av' w n j v :=
  St.move (Nat.le_refl _) (fun _ _ _ => rfl) (fun c hc hn e => hn (ha c hc e)) n j v h
theorem St.step {av : Nat -> Prop} {w w1 : World} {n : Nat} {j : J n} {v : Value} (h : St av w n j v) (hs : w.heap.size <= w1.heap.size) (hb : ∀ c, c < w.heap.size -> ¬ av c -> w1.heap[c]? = w.heap[c]?) : St av w1 n j v :=
  St.move hs hb (fun _ _ hn => hn) n j v h
theorem St.grown {av : Nat -> Prop} {w w1 : World} {n : Nat} {j : J n} {v : Value} {row : Option Nat} (h : St av w n j v) (hg : w.grownBy w1 row) (hr : ∀ k, row = some k -> av k) : St av w1 n j v :=
  h.step hg.size fun c hc hn => hg.block c hc (fun e => hn (hr c e.symm))
theorem St.wide {av av' : Nat -> Prop} {w : World} {n : Nat} {j : J n} {v : Value} (h : St av w n j v) (ha : ∀ c, av' c -> av c ∨ w.heap.size <= c) : St av' w n j v :=
  h.mono (fun c hc e => by rcases ha c e with h1 | h1
                           · exact h1
                           · omega)
theorem st_leaf (av : Nat -> Prop) (w : World) (n : Nat) (l : Leaf) : St av w n (leaf n l) (leafV l) := by
  cases n <;> rfl
theorem st_list {av : Nat -> Prop} {w : World} {n : Nat} {xs : List (J n)} {g cap : Nat} {vs : List Value} (hl : vs.length = xs.length) (hc : xs.length <= cap) (hm : cap <= maxLen) (hg : ¬ av g) (hlt : g < w.heap.size)
    (hcell : ∀ (i : Nat) (u : Value), vs[i]? = some u -> w.cell? ⟨g, i, none⟩ = some u) (hel : ∀ (i : Nat) (x : J n) (u : Value), xs[i]? = some x -> vs[i]? = some u -> St av w n x u) :
    St av w (n + 1) (Sum.inr (Sum.inl xs)) (.iface 78 (.slice (some ⟨g, 0, none⟩) xs.length cap)) :=
  Or.inr ⟨g, cap, vs, rfl, hl, hc, hm, hg, hlt, hcell, hel⟩
theorem st_object {av : Nat -> Prop} {w : World} {n : Nat} {fs : List (Bs × J n)} {g cap : Nat} {vs : List Value} (hl : vs.length = fs.length) (hc : fs.length <= cap) (hm : cap <= maxLen) (hg : ¬ av g) (hlt : g < w.heap.size)
    (hcell : ∀ (i : Nat) (f : Bs × J n) (u : Value), fs[i]? = some f -> vs[i]? = some u -> w.cell? ⟨g, i * 2, none⟩ = some (.string ⟨f.1.toArray⟩) /\ w.cell? ⟨g, i * 2 + 1, none⟩ = some u) (hel : ∀ (i : Nat) (f : Bs × J n) (u : Value), fs[i]? = some f -> vs[i]? = some u -> St av w n f.2 u) :
    St av w (n + 1) (Sum.inr (Sum.inr fs)) (.iface 53 (.slice (some ⟨g, 0, none⟩) fs.length cap)) :=
  Or.inr ⟨g, cap, vs, rfl, hl, hc, hm, hg, hlt, hcell, hel⟩
theorem St.list {av : Nat -> Prop} {w : World} {n : Nat} {xs : List (J n)} {v : Value} (h : St av w (n + 1) (Sum.inr (Sum.inl xs)) v) : ∃ (p : Option Addr) (g cap : Nat) (vs : List Value), v = .iface 78 (.slice p xs.length cap) /\ (∀ k, k < xs.length -> p = some ⟨g, 0, none⟩ /\ ¬ av g /\ g < w.heap.size) /\ vs.length = xs.length /\ xs.length <= cap /\ cap <= maxLen /\
      (∀ (i : Nat) (u : Value), vs[i]? = some u -> w.cell? ⟨g, i, none⟩ = some u) /\ ∀ (i : Nat) (x : J n) (u : Value), xs[i]? = some x -> vs[i]? = some u -> St av w n x u := by
  rcases h with ⟨rfl, rfl⟩ | ⟨g, cap, vs, hv, hl, hc, hm, hg, hlt, hcell, hel⟩
  · exact ⟨none, 0, 0, [], rfl, fun k hk => by simp at hk, rfl, Nat.le_refl _, Nat.zero_le _, fun i u hu => by simp at hu, fun i x u hx => by simp at hx⟩
  · exact ⟨_, g, cap, vs, hv, fun k hk => ⟨rfl, hg, hlt⟩, hl, hc, hm, hcell, hel⟩
theorem St.obj {av : Nat -> Prop} {w : World} {n : Nat} {fs : List (Bs × J n)} {v : Value} (h : St av w (n + 1) (Sum.inr (Sum.inr fs)) v) : ∃ (p : Option Addr) (g cap : Nat) (vs : List Value), v = .iface 53 (.slice p fs.length cap) /\ (∀ k, k < fs.length -> p = some ⟨g, 0, none⟩ /\ ¬ av g /\ g < w.heap.size) /\ vs.length = fs.length /\ fs.length <= cap /\ cap <= maxLen /\
      (∀ (i : Nat) (f : Bs × J n) (u : Value), fs[i]? = some f -> vs[i]? = some u -> w.cell? ⟨g, i * 2, none⟩ = some (.string ⟨f.1.toArray⟩) /\ w.cell? ⟨g, i * 2 + 1, none⟩ = some u) /\ ∀ (i : Nat) (f : Bs × J n) (u : Value), fs[i]? = some f -> vs[i]? = some u -> St av w n f.2 u := by
  rcases h with ⟨rfl, rfl⟩ | ⟨g, cap, vs, hv, hl, hc, hm, hg, hlt, hcell, hel⟩
  · exact ⟨none, 0, 0, [], rfl, fun k hk => by simp at hk, rfl, Nat.le_refl _, Nat.zero_le _, fun i f u hf => by simp at hf, fun i f u hf => by simp at hf⟩
  · exact ⟨_, g, cap, vs, hv, fun k hk => ⟨rfl, hg, hlt⟩, hl, hc, hm, hcell, hel⟩
def Row (w : World) (e : TypeId) (size g n cap : Nat) (xs : List Value) : Prop :=
  xs.length = n * size /\ ∃ cur, w.heap[g]? = some (.cells cur e (0, 0)) /\ n <= cap /\ cap <= maxLen /\ cur.size = cap * size /\ cur.toList.take (n * size) = xs
section
variable {w w' : World} {e : TypeId} {size g n cap : Nat} {xs : List Value}
theorem Row.owns (h : Row w e size g n cap xs) : w.ownsRow g e size (.slice (some ⟨g, 0, none⟩) n cap) n xs := by
  obtain ⟨h1, cur, h2, h3, h4, h5, h6⟩ := h
  exact ⟨h1, Or.inr ⟨g, cap, cur, rfl, Nat.le_refl _, h2, h3, h4, h5, h6⟩⟩
theorem Row.lt (h : Row w e size g n cap xs) : g < w.heap.size := by
  obtain ⟨_, cur, h2, _⟩ := h
  exact lt_of_block h2
theorem Row.caps (h : Row w e size g n cap xs) : n <= cap /\ cap <= maxLen := by
  obtain ⟨_, cur, _, h3, h4, _⟩ := h
  exact ⟨h3, h4⟩
theorem Row.kept {row : Option Nat} (h : Row w e size g n cap xs) (hg : w.grownBy w' row) (hne : row ≠ some g) : Row w' e size g n cap xs := by
  obtain ⟨h1, cur, h2, r⟩ := h
  exact ⟨h1, cur, (hg.block g (lt_of_block h2) (fun e => hne e.symm)).trans h2, r⟩
theorem Row.of_owns {base : Nat} {v : Value} (h : w.ownsRow base e size v n xs) (hn : n ≠ 0) : ∃ g cap, v = .slice (some ⟨g, 0, none⟩) n cap /\ base <= g /\ Row w e size g n cap xs := by
  obtain ⟨h1, h2⟩ := h
  rcases h2 with ⟨_, h0⟩ | ⟨g, cap, cur, rfl, hb, hh, r⟩
  · exact absurd h0 hn
  · exact ⟨g, cap, rfl, hb, h1, cur, hh, r⟩
theorem Row.cell (h : Row w e size g n cap xs) (i : Nat) (u : Value) (hu : xs[i]? = some u) : w.cell? ⟨g, i, none⟩ = some u := by
  obtain ⟨h1, cur, h2, _, _, _, h6⟩ := h
  rw [cell_of_row _ _ _ _ _ _ h2]
  rw [<- h6, List.getElem?_take] at hu
  split at hu
  · simpa using hu
  · cases hu
end
def Rd (b : Nat) (t : ByteArray) (p k : Nat) (w : World) : Prop := w.heap[b]? = some (.cells #[.string t, .int .i64 p, .int .i64 k] 72 (0, 0))
section
variable {b : Nat} {t : ByteArray} {p k : Nat} {w w' : World}
theorem Rd.text (h : Rd b t p k w) : w.cell? ⟨b, 0, none⟩ = some (.string t) := by rw [cell_of_row _ _ _ _ _ _ h]; rfl
theorem Rd.place (h : Rd b t p k w) : w.cell? ⟨b, 1, none⟩ = some (.int .i64 p) := by rw [cell_of_row _ _ _ _ _ _ h]; rfl
theorem Rd.many (h : Rd b t p k w) : w.cell? ⟨b, 2, none⟩ = some (.int .i64 k) := by rw [cell_of_row _ _ _ _ _ _ h]; rfl
theorem Rd.free (h : Rd b t p k w) (j : Nat) : w.frozen? ⟨b, j, none⟩ = false := frozen_of_row _ _ _ _ _ h
theorem Rd.drew (h : Rd b t p k w) : Rd b t p k w.drew := h
theorem Rd.drewN (h : Rd b t p k w) (n : Nat) : Rd b t p k (w.drewN n) := h
theorem Rd.lt (h : Rd b t p k w) : b < w.heap.size := lt_of_block h
theorem Rd.move (h : Rd b t p k w) (q : Nat) : Rd b t q k (w.setCell ⟨b, 1, none⟩ (.int .i64 q)) := by
 have := heap_setCell_same w b 1 _ _ (.int .i64 q) h
 exact this
theorem Rd.count (h : Rd b t p k w) (q : Nat) : Rd b t p q (w.setCell ⟨b, 2, none⟩ (.int .i64 q)) := by
 have := heap_setCell_same w b 2 _ _ (.int .i64 q) h
 exact this
theorem Rd.alloc (h : Rd b t p k w) (o : Obj) : Rd b t p k (w.alloc o) := by
 have := Below.heap_alloc w o b h.lt
 exact this.trans h
theorem Rd.kept {row : Option Nat} (h : Rd b t p k w) (hg : w.grownBy w' row) (hne : some b ≠ row) : Rd b t p k w' := (hg.block b h.lt hne).trans h
end
def skipAt (t : ByteArray) (p : Nat) : Nat := t.size - (skip (rest t p)).length
theorem skip_len : ∀ r : Bs, (skip r).length <= r.length
 | [] => Nat.le_refl _
 | c :: r => by
  rw [skip]
  split
  ·exact Nat.le_trans (skip_len r) (by simp)
  ·exact Nat.le_refl _
theorem skip_drop : ∀ r : Bs, skip r = r.drop (r.length - (skip r).length)
 | [] => rfl
 | c :: r => by
  rw [skip]
  split
  ·have := skip_len r
   have e : (c :: r).length - (skip r).length = (r.length - (skip r).length) + 1 := by simp; omega
   rw [e, List.drop_succ_cons]
   exact skip_drop r
  ·simp
theorem rest_skip (t : ByteArray) (p : Nat) (hp : p <= t.size) : rest t (skipAt t p) = skip (rest t p) := by
 have h1 := skip_drop (rest t p)
 have h2 := skip_len (rest t p)
 rw [rest_len] at h1 h2
 conv => rhs; rw [h1]
 unfold rest skipAt
 rw [List.drop_drop]
 congr 1
 unfold rest at h2 ⊢
 omega
theorem skipAt_le (t : ByteArray) (p : Nat) : skipAt t p <= t.size := Nat.sub_le _ _
theorem skipAt_ge (t : ByteArray) (p : Nat) (hp : p <= t.size) : p <= skipAt t p := by
 have h2 := skip_len (rest t p)
 rw [rest_len] at h2
 unfold skipAt
 omega
theorem skipAt_step {t : ByteArray} {p : Nat} (h : blank (hd (rest t p)) = true) : skipAt t p = skipAt t (p + 1) := by
 have hlt : p < t.size := lt_of_hd (fun e => by rw [e] at h; exact absurd h (by decide))
 unfold skipAt
 rw [rest_cons hlt, skip]
 rw [hd_lt hlt] at h
 rw [if_pos h]
theorem skipAt_stop {t : ByteArray} {p : Nat} (hp : p <= t.size) (h : blank (hd (rest t p)) = false) : skipAt t p = p := by
 unfold skipAt
 rcases Nat.lt_or_ge p t.size with h' | h'
 ·rw [hd_lt h'] at h
  have e : skip (rest t p) = rest t p := by rw [rest_cons h', skip, if_neg (by simp [h])]
  rw [e, rest_len]
  omega
 ·rw [rest_nil h']
  simp [skip]
  omega
set_option maxHeartbeats 400000 in
theorem next_any (b : Nat) (t : ByteArray) (p k : Nat) (w : World) (h : Rd b t p k w) (hp : p <= t.size) (ht : t.size <= 2000) :
  Calls Tryz.prog 57 #[.pointer (some ⟨b, 0, none⟩)] w fun e w' => e = .returned (.int .u8 (hd (rest t p)).toNat) /\ ∃ m, w' = w.drewN m := by
 have h0 := h.text
 have h1 := h.place
 have HR : Hid (Rd b t p k w) := h
 clear h
 by_cases hlt : p < t.size
 ·have hh := hd_lt hlt
  have hI : (p : Int) < (t.size : Int) := by omega
  go_enter Tryz.func57, Tryz.ntmps57
  go_wp2
  go_quiet (fail)
  go_wp2
  go_quiet (fail)
  go_wp2
  go_ret
  exact ⟨by rw [hh]; rfl, _, drewN_two _ _ _⟩
 ·have hh := hd_end (Nat.le_of_not_lt hlt)
  have hI : ¬ (p : Int) < (t.size : Int) := by omega
  go_enter Tryz.func57, Tryz.ntmps57
  go_wp2
  go_quiet (fail)
  go_wp2
  go_ret
  exact ⟨by rw [hh]; rfl, _, rfl⟩
theorem next_g (b : Nat) (t : ByteArray) (p k : Nat) (w : World) (h : Rd b t p k w) (hp : p <= t.size) (ht : t.size <= 2000) :
  Calls Tryz.prog 57 #[.pointer (some ⟨b, 0, none⟩)] w fun e w' => e = .returned (.int .u8 (hd (rest t p)).toNat) /\ G b w w' /\ Rd b t p k w' := by
 refine (next_any b t p k w h hp ht).mono ?_
 rintro e w1 ⟨rfl, m, rfl⟩
 exact ⟨rfl, (G.refl b w).drewN m, h.drewN m⟩
theorem bool_ne {c d : UInt8} (h : c ≠ d) : ((c.toNat : Int) != (d.toNat : Int)) = true := by
 rw [bne_iff_ne]
 intro e
 exact h (UInt8.toNat_inj.1 (by omega))
theorem bool_eq {c d : UInt8} (h : c = d) : ((c.toNat : Int) != (d.toNat : Int)) = false := by
 subst h
 simp
set_option maxHeartbeats 400000 in
theorem take_no (b : Nat) (t : ByteArray) (p k : Nat) (c : UInt8) (w : World) (h : Rd b t p k w) (hp : p <= t.size) (ht : t.size <= 2000) (hc : hd (rest t p) ≠ c) :
  Calls Tryz.prog 63 #[.pointer (some ⟨b, 0, none⟩), .int .u8 c.toNat] w fun e w' => e = .returned (.bool false) /\ G b w w' /\ Rd b t p k w' := by
 have hb := bool_ne hc
 have HR : Hid (Rd b t p k w) := h
 clear h
 go_enter Tryz.func63, Tryz.ntmps63
 go_wp2_with fail
 refine (next_any b t p k _ HR.out hp ht).mono ?_
 rintro e w1 ⟨rfl, m, rfl⟩
 go_wp2_with fail
 go_ret
 exact ⟨rfl, (G.refl b w).drewN m, HR.out.drewN m⟩
set_option maxHeartbeats 400000 in
theorem take_yes (b : Nat) (t : ByteArray) (p k : Nat) (c : UInt8) (w : World) (h : Rd b t p k w) (ht : t.size <= 2000) (hlt : p < t.size) (hc : hd (rest t p) = c) :
  Calls Tryz.prog 63 #[.pointer (some ⟨b, 0, none⟩), .int .u8 c.toNat] w fun e w' => e = .returned (.bool true) /\ G b w w' /\ Rd b t (p + 1) k w' := by
 have hb := bool_eq hc
 have h1 := fun m => (h.drewN m).place
 have h2 := fun m => (h.drewN m).free 1
 have HR : Hid (Rd b t p k w) := h
 have HC : Hid (hd (rest t p) = c) := hc
 clear h hc
 go_enter Tryz.func63, Tryz.ntmps63
 go_wp2_with fail
 refine (next_any b t p k _ HR.out (by omega) ht).mono ?_
 rintro e w1 ⟨rfl, m, rfl⟩
 have h1 := h1 m
 have h2 := h2 m
 have HR : Hid (Rd b t p k (w.drewN m)) := HR.out.drewN m
 have HG : Hid (G b w (w.drewN m)) := (G.refl b w).drewN m
 generalize w.drewN m = w1 at *
 go_wp2_with fail
 go_ret
 exact ⟨rfl, HG.out.setCell 1 _, HR.out.move (p + 1)⟩
def ValPost (b : Nat) (t : ByteArray) (p k n : Nat) (w : World) (e : Ending) (w' : World) : Prop :=
  G b w w' /\ ((∃ (er : Nat) (v : Value), value n k (rest t p) = .error er /\ er ≠ 0 /\ er < 100 /\ e = .returned (.tuple #[v, .int .i64 er]) /\ (v = .nilIface ∨ ∃ T x, v = .iface T x)) ∨
    ∃ (j : J n) (k' q : Nat) (v : Value), value n k (rest t p) = .ok (j, k', rest t q) /\ p < q /\ q <= t.size /\ k < k' /\ k' <= 200 /\ e = .returned (.tuple #[v, .int .i64 0]) /\ (∃ T x, v = .iface T x) /\ Rd b t q k' w' /\ St (fun c => c < w.heap.size) w' n j v)
def ValueOK (n : Nat) : Prop := ∀ (b : Nat) (t : ByteArray) (p k : Nat) (d : Int) (w : World), Rd b t p k w -> p <= t.size -> t.size <= 2000 -> k <= 200 -> d + n = 10 -> 0 <= d ->
  Calls Tryz.prog 45 #[.pointer (some ⟨b, 0, none⟩), .int .i64 d] w (ValPost b t p k n w)
structure LBox (b : Nat) (d : Int) (c0 c1 c2 : Nat) (w : World) (sl : Value) : Prop where
  h0 : w.heap[c0]? = some (.cells #[.pointer (some ⟨b, 0, none⟩)] 97 (0, 0))
  h1 : w.heap[c1]? = some (.cells #[.int .i64 d] 3 (0, 0))
  h2 : w.heap[c2]? = some (.cells #[sl] 78 (0, 0))
def LInv (b : Nat) (d : Int) (c0 c1 c2 N0 N1 n : Nat) (s : List (J n)) (k : Nat) (w : World) : Prop :=
  s.length <= k /\ ∃ (g cap : Nat) (vs : List Value), LBox b d c0 c1 c2 w (.slice (some ⟨g, 0, none⟩) s.length cap) /\ Row w 46 1 g s.length cap vs /\ N0 <= g /\ g ≠ c0 /\ g ≠ c1 /\ g ≠ c2 /\
    ∀ (i : Nat) (x : J n) (u : Value), s[i]? = some x -> vs[i]? = some u -> St (fun c => c < N1 ∨ c = g) w n x u
def LErr (c2 : Nat) (w : World) : Prop := ∃ a m cap, w.heap[c2]? = some (.cells #[.slice a m cap] 78 (0, 0))
theorem LInv.err {b : Nat} {d : Int} {c0 c1 c2 N0 N1 n : Nat} {s : List (J n)} {k : Nat} {w : World} (h : LInv b d c0 c1 c2 N0 N1 n s k w) : LErr c2 w := by
  obtain ⟨_, g, cap, vs, hb, _⟩ := h
  exact ⟨_, _, _, hb.h2⟩
theorem LBox.kept {b : Nat} {d : Int} {c0 c1 c2 : Nat} {w w' : World} {sl : Value} {row : Option Nat} (h : LBox b d c0 c1 c2 w sl) (g : w.grownBy w' row) (e0 : row ≠ some c0) (e1 : row ≠ some c1) (e2 : row ≠ some c2) : LBox b d c0 c1 c2 w' sl :=
  ⟨(g.block c0 (lt_of_block h.h0) (fun e => e0 e.symm)).trans h.h0, (g.block c1 (lt_of_block h.h1) (fun e => e1 e.symm)).trans h.h1, (g.block c2 (lt_of_block h.h2) (fun e => e2 e.symm)).trans h.h2⟩
theorem LInv.kept {b : Nat} {d : Int} {c0 c1 c2 N0 N1 n : Nat} {s : List (J n)} {k : Nat} {w w' : World} (h : LInv b d c0 c1 c2 N0 N1 n s k w) (g : G b w w') (hb : b < N0) (h0 : N0 <= c0) (h1 : N0 <= c1) (h2 : N0 <= c2) (hN : N0 <= N1)   : LInv b d c0 c1 c2 N0 N1 n s k w' := by
  obtain ⟨hk, gg, cap, vs, hx, hr, hg, e0, e1, e2, hel⟩ := h
  refine ⟨hk, gg, cap, vs, hx.kept g (fun e => by cases e; omega) (fun e => by cases e; omega) (fun e => by cases e; omega), hr.kept g (fun e => by cases e; omega), hg, e0, e1, e2, fun i x u hx hu => ?_⟩
  exact (hel i x u hx hu).grown g (fun k e => by cases e; exact Or.inl (by omega))
theorem Row.of_slice {w : World} {base e size g n cap : Nat} {xs : List Value} (h : w.ownsRow base e size (.slice (some ⟨g, 0, none⟩) n cap) n xs) : Row w e size g n cap xs := by
  obtain ⟨h1, h2⟩ := h
  rcases h2 with ⟨h0, _⟩ | ⟨g', cap', cur, hv, hb, hh, r⟩
  · cases h0
  · cases hv
    exact ⟨h1, cur, hh, r⟩
theorem heap_setCell_size (w : World) (a : Addr) (v : Value) : (w.setCell a v).heap.size = w.heap.size := by simp [World.setCell]
theorem grownBy_setCell (w : World) (c o : Nat) (v : Value) : w.grownBy (w.setCell ⟨c, o, none⟩ v) (some c) :=
  ⟨rfl, rfl, rfl, by rw [heap_setCell_size]; exact Nat.le_refl _, fun k _ hb => heap_setCell_other _ _ _ _ (fun e => hb (by rw [e]))⟩
theorem G.setNew {b c o : Nat} {w0 w : World} (h : G b w0 w) (hc : w0.heap.size <= c) (v : Value) : G b w0 (w.setCell ⟨c, o, none⟩ v) :=
  h.grown (grownBy_setCell w c o v) (fun k e => by cases e; exact hc)
theorem snoc_get {α : Type} {s : List α} {x y : α} {i : Nat} (h : (s ++ [x])[i]? = some y) : (i < s.length /\ s[i]? = some y) ∨ (i = s.length /\ x = y) := by
  rcases Nat.lt_trichotomy i s.length with h' | h' | h'
  · rw [List.getElem?_append_left h'] at h
    exact Or.inl ⟨h', h⟩
  · subst h'
    rw [List.getElem?_append_right (Nat.le_refl _)] at h
    simp at h
    exact Or.inr ⟨rfl, h⟩
  · rw [List.getElem?_append_right (by omega)] at h
    rw [List.getElem?_eq_none (by simp; omega)] at h
    cases h
theorem linv_step {b : Nat} {d : Int} {c0 c1 c2 N0 N1 n g cap g' cap' k' : Nat} {s : List (J n)} {j : J n} {v : Value} {vs : List Value} {w w1 w2 : World} {o : Obj} {row : Option Nat}
    (hx : LBox b d c0 c1 c2 w (.slice (some ⟨g, 0, none⟩) s.length cap)) (hr : Row w 46 1 g s.length cap vs) (hg : N0 <= g) (e0 : g ≠ c0) (e1 : g ≠ c1) (e2 : g ≠ c2)
    (hel : ∀ (i : Nat) (x : J n) (u : Value), s[i]? = some x -> vs[i]? = some u -> St (fun c => c < N1 ∨ c = g) w n x u)
    (hb : b < N0) (k0 : N0 <= c0) (k1 : N0 <= c1) (k2 : N0 <= c2) (l2 : c2 < N1) (l0 : c0 < N1) (l1 : c1 < N1) (n01 : c0 ≠ c2) (n12 : c1 ≠ c2) (hN : N0 <= N1) (hNw : N1 <= w.heap.size)
    (hG : G b w w1) (hst : St (fun c => c < w.heap.size) w1 n j v) (happ : (w1.alloc o).grownBy w2 row)
    (hrow : Row w2 46 1 g' (s.length + 1) cap' (vs ++ [v])) (hg' : (row = some g /\ g' = g) ∨ (row = none /\ w1.heap.size < g')) (hk' : s.length < k') :
    LInv b d c0 c1 c2 N0 N1 n (s ++ [j]) k' (w2.setCell ⟨c2, 0, none⟩ (.slice (some ⟨g', 0, none⟩) (s.length + 1) cap')) := by
  have hgw : g < w.heap.size := hr.lt
  have hsz := hG.size
  have hA : (w1.alloc o).heap.size = w1.heap.size + 1 := by simp
  have hg2 : N0 <= g' /\ g' ≠ c0 /\ g' ≠ c1 /\ g' ≠ c2 := by
    rcases hg' with ⟨_, rfl⟩ | ⟨_, h⟩
    · exact ⟨hg, e0, e1, e2⟩
    · have a0 := lt_of_block hx.h0
      have a1 := lt_of_block hx.h1
      have a2 := lt_of_block hx.h2
      omega
  have hx2 : LBox b d c0 c1 c2 w2 (.slice (some ⟨g, 0, none⟩) s.length cap) := by
    have h1 := hx.kept hG (fun e => by cases e; omega) (fun e => by cases e; omega) (fun e => by cases e; omega)
    have h2 := h1.kept (World.grownBy_alloc w1 o none) (fun e => by cases e) (fun e => by cases e) (fun e => by cases e)
    refine h2.kept happ ?_ ?_ ?_
    all_goals (rcases hg' with ⟨rfl, _⟩ | ⟨rfl, _⟩)
    all_goals (intro e; cases e; try contradiction)
  have hrow_av : ∀ k, row = some k -> (k < N1 ∨ k = g ∨ k = g') := by
    rcases hg' with ⟨rfl, _⟩ | ⟨rfl, _⟩
    · intro k e; cases e; exact Or.inr (Or.inl rfl)
    · intro k e; cases e
  have hset : ∀ {x : J n} {u : Value}, St (fun c => c < N1 ∨ c = g ∨ c = g') (w1.alloc o) n x u -> St (fun c => c < N1 ∨ c = g') (w2.setCell ⟨c2, 0, none⟩ (.slice (some ⟨g', 0, none⟩) (s.length + 1) cap')) n x u := by
    intro x u h
    have h1 := h.grown happ hrow_av
    have h2 := h1.mono (av' := fun c => c < N1 ∨ c = g') (fun c _ e => by rcases e with e | e
                                                                          · exact Or.inl e
                                                                          · exact Or.inr (Or.inr e))
    exact h2.grown (grownBy_setCell w2 c2 0 _) (fun k e => by cases e; exact Or.inl l2)
  refine ⟨by simp; omega, g', cap', vs ++ [v], ?_, ?_, hg2.1, hg2.2.1, hg2.2.2.1, hg2.2.2.2, ?_⟩
  · have hs : (s ++ [j]).length = s.length + 1 := by simp
    rw [hs]
    exact ⟨(heap_setCell_other _ _ _ _ n01).trans hx2.h0, (heap_setCell_other _ _ _ _ n12).trans hx2.h1, one_setCell hx2.h2⟩
  · have hs : (s ++ [j]).length = s.length + 1 := by simp
    rw [hs]
    exact hrow.kept (grownBy_setCell w2 c2 0 _) (fun e => by cases e; exact hg2.2.2.2 rfl)
  · intro i x u hxi hui
    have hvl : vs.length = s.length := by have := hr.1; omega
    rcases snoc_get hxi with ⟨hi, hxi⟩ | ⟨hi, rfl⟩
    · rcases snoc_get hui with ⟨_, hui⟩ | ⟨hi2, _⟩
      · refine hset ?_
        have h1 := (hel i x u hxi hui).grown hG (fun k e => by cases e; exact Or.inl (by omega))
        have h2 := h1.grown (World.grownBy_alloc w1 o none) (fun k e => by cases e)
        exact h2.wide (fun c e => by
          rcases e with e | e | e
          · exact Or.inl (Or.inl e)
          · exact Or.inl (Or.inr e)
          · rcases hg' with ⟨_, h⟩ | ⟨_, h⟩
            · exact Or.inl (Or.inr (by omega))
            · exact Or.inr (by omega))
      · omega
    · rcases snoc_get hui with ⟨hi2, _⟩ | ⟨_, rfl⟩
      · omega
      · refine hset ?_
        have h2 := hst.grown (World.grownBy_alloc w1 o none) (fun k e => by cases e)
        exact h2.wide (fun c e => by
          rcases e with e | e | e
          · exact Or.inl (by omega)
          · exact Or.inl (by omega)
          · rcases hg' with ⟨_, h⟩ | ⟨_, h⟩
            · exact Or.inl (by omega)
            · exact Or.inr (by omega))
structure Hd where
  k : Nat
  b : Bool
  i : Int
  s : Bs
def headL : Leaf -> Hd
  | none => ⟨1, false, 0, []⟩
  | some (Sum.inl b) => ⟨2, b, 0, []⟩
  | some (Sum.inr (Sum.inl i)) => ⟨3, false, i, []⟩
  | some (Sum.inr (Sum.inr s)) => ⟨4, false, 0, s⟩
def headJ : (n : Nat) -> J n -> Hd
  | 0, l => headL l
  | _ + 1, Sum.inl l => headL l
  | _ + 1, Sum.inr (Sum.inl _) => ⟨5, false, 0, []⟩
  | _ + 1, Sum.inr (Sum.inr _) => ⟨6, false, 0, []⟩
def kids {n : Nat} : J (n + 1) -> List (J n)
  | Sum.inl _ => []
  | Sum.inr (Sum.inl xs) => xs
  | Sum.inr (Sum.inr fs) => fs.map fun f => f.2
def namesJ {n : Nat} : J (n + 1) -> List Bs
  | Sum.inl _ => []
  | Sum.inr (Sum.inl _) => []
  | Sum.inr (Sum.inr fs) => fs.map fun f => f.1
def rfV (h : Hd) (nm l : Value) : Value := .agg #[.int .i64 h.k, .bool h.b, .int .i64 h.i, .string ⟨h.s.toArray⟩, nm, l]
def Six (w : World) (g o : Nat) (h : Hd) (nm l : Value) : Prop :=
  w.cell? ⟨g, o, none⟩ = some (.int .i64 h.k) /\ w.cell? ⟨g, o + 1, none⟩ = some (.bool h.b) /\ w.cell? ⟨g, o + 2, none⟩ = some (.int .i64 h.i) /\ w.cell? ⟨g, o + 3, none⟩ = some (.string ⟨h.s.toArray⟩) /\ w.cell? ⟨g, o + 4, none⟩ = some nm /\ w.cell? ⟨g, o + 5, none⟩ = some l
theorem Six.keep {w w' : World} {g o : Nat} {h : Hd} {nm l : Value} (hx : Six w g o h nm l) (e : w'.heap[g]? = w.heap[g]?) : Six w' g o h nm l := by
  obtain ⟨h0, h1, h2, h3, h4, h5⟩ := hx
  have f : ∀ i, w'.cell? ⟨g, i, none⟩ = w.cell? ⟨g, i, none⟩ := fun i => World.cell?_of_block (w := w) (w' := w') (a := ⟨g, i, none⟩) e
  exact ⟨by rw [f]; exact h0, by rw [f]; exact h1, by rw [f]; exact h2, by rw [f]; exact h3, by rw [f]; exact h4, by rw [f]; exact h5⟩
def RStrs (av : Nat -> Prop) (w : World) (L : List Bs) (v : Value) : Prop :=
  (L = [] /\ v = .slice none 0 0) ∨ ∃ g cap, v = .slice (some ⟨g, 0, none⟩) L.length cap /\ L.length <= cap /\ cap <= maxLen /\ ¬ av g /\ g < w.heap.size /\ ∀ (i : Nat) (s : Bs), L[i]? = some s -> w.cell? ⟨g, i, none⟩ = some (.string ⟨s.toArray⟩)
def RSt (av : Nat -> Prop) (w : World) : (n : Nat) -> J n -> Value -> Prop
  | 0, l, v => v = rfV (headL l) (.slice none 0 0) (.slice none 0 0)
  | n + 1, j, v => ∃ nm l, v = rfV (headJ (n + 1) j) nm l /\ RStrs av w (namesJ j) nm /\
      ((kids j = [] /\ l = .slice none 0 0) ∨ ∃ g cap, l = .slice (some ⟨g, 0, none⟩) (kids j).length cap /\ (kids j).length <= cap /\ cap <= maxLen /\ ¬ av g /\ g < w.heap.size /\
        ∀ (i : Nat) (x : J n), (kids j)[i]? = some x -> ∃ nm' l', Six w g (i * 6) (headJ n x) nm' l' /\ RSt av w n x (rfV (headJ n x) nm' l'))
def RVals (av : Nat -> Prop) (w : World) (n : Nat) (xs : List (J n)) (l : Value) : Prop :=
  (xs = [] /\ l = .slice none 0 0) ∨ ∃ g cap, l = .slice (some ⟨g, 0, none⟩) xs.length cap /\ xs.length <= cap /\ cap <= maxLen /\ ¬ av g /\ g < w.heap.size /\
        ∀ (i : Nat) (x : J n), xs[i]? = some x -> ∃ nm' l', Six w g (i * 6) (headJ n x) nm' l' /\ RSt av w n x (rfV (headJ n x) nm' l')
theorem RStrs.move {av av' : Nat -> Prop} {w w1 : World} {L : List Bs} {v : Value} (h : RStrs av w L v) (hs : w.heap.size <= w1.heap.size) (hb : ∀ c, c < w.heap.size -> ¬ av c -> w1.heap[c]? = w.heap[c]?) (ha : ∀ c, c < w.heap.size -> ¬ av c -> ¬ av' c) : RStrs av' w1 L v := by
  rcases h with h | ⟨g, cap, hv, hc, hm, hg, hlt, hcell⟩
  · exact Or.inl h
  · refine Or.inr ⟨g, cap, hv, hc, hm, ha g hlt hg, by omega, fun i s hi => ?_⟩
    rw [World.cell?_of_block (w := w) (w' := w1) (a := ⟨g, i, none⟩) (hb g hlt hg)]
    exact hcell i s hi
theorem RSt.move {av av' : Nat -> Prop} {w w1 : World} (hs : w.heap.size <= w1.heap.size) (hb : ∀ c, c < w.heap.size -> ¬ av c -> w1.heap[c]? = w.heap[c]?) (ha : ∀ c, c < w.heap.size -> ¬ av c -> ¬ av' c) : ∀ (n : Nat) (j : J n) (v : Value), RSt av w n j v -> RSt av' w1 n j v
  | 0, _, _, h => h
  | n + 1, j, v, h => by
    obtain ⟨nm, l, hv, hn, hl⟩ := h
    refine ⟨nm, l, hv, hn.move hs hb ha, ?_⟩
    rcases hl with hl | ⟨g, cap, hl, hc, hm, hg, hlt, hel⟩
    · exact Or.inl hl
    · refine Or.inr ⟨g, cap, hl, hc, hm, ha g hlt hg, by omega, fun i x hx => ?_⟩
      obtain ⟨nm', l', h6, hr⟩ := hel i x hx
      exact ⟨nm', l', h6.keep (hb g hlt hg), RSt.move hs hb ha n x _ hr⟩
section
variable {av av' : Nat -> Prop} {w w1 : World} {n : Nat} {j : J n} {v : Value} {xs : List (J n)} {row : Option Nat}
theorem RVals.move (h : RVals av w n xs v) (hs : w.heap.size <= w1.heap.size) (hb : ∀ c, c < w.heap.size -> ¬ av c -> w1.heap[c]? = w.heap[c]?) (ha : ∀ c, c < w.heap.size -> ¬ av c -> ¬ av' c) : RVals av' w1 n xs v := by
  rcases h with hl | ⟨g, cap, hl, hc, hm, hg, hlt, hel⟩
  · exact Or.inl hl
  · refine Or.inr ⟨g, cap, hl, hc, hm, ha g hlt hg, by omega, fun i x hx => ?_⟩
    obtain ⟨nm', l', h6, hr⟩ := hel i x hx
    exact ⟨nm', l', h6.keep (hb g hlt hg), RSt.move hs hb ha n x _ hr⟩
theorem RSt.grown (h : RSt av w n j v) (hg : w.grownBy w1 row) (hr : ∀ k, row = some k -> av k) : RSt av w1 n j v :=
  RSt.move hg.size (fun c hc hn => hg.block c hc (fun e => hn (hr c e.symm))) (fun _ _ h => h) n j v h
theorem RSt.below (h : RSt av w n j v) (hb : Below w.heap.size w w1) : RSt av w1 n j v :=
  RSt.move hb.size (fun c hc _ => hb.block c hc) (fun _ _ h => h) n j v h
theorem RSt.wide (h : RSt av w n j v) (ha : ∀ c, av' c -> av c ∨ w.heap.size <= c) : RSt av' w n j v :=
  RSt.move (Nat.le_refl _) (fun _ _ _ => rfl) (fun c hc hn e => by rcases ha c e with h1 | h1
                                                                   · exact hn h1
                                                                   · omega) n j v h
theorem RStrs.grown {L : List Bs} (h : RStrs av w L v) (hg : w.grownBy w1 row) (hr : ∀ k, row = some k -> av k) : RStrs av w1 L v :=
  h.move hg.size (fun c hc hn => hg.block c hc (fun e => hn (hr c e.symm))) (fun _ _ h => h)
theorem RStrs.below {L : List Bs} (h : RStrs av w L v) (hb : Below w.heap.size w w1) : RStrs av w1 L v :=
  h.move hb.size (fun c hc _ => hb.block c hc) (fun _ _ h => h)
theorem RVals.grown (h : RVals av w n xs v) (hg : w.grownBy w1 row) (hr : ∀ k, row = some k -> av k) : RVals av w1 n xs v :=
  h.move hg.size (fun c hc hn => hg.block c hc (fun e => hn (hr c e.symm))) (fun _ _ h => h)
theorem RVals.below (h : RVals av w n xs v) (hb : Below w.heap.size w w1) : RVals av w1 n xs v :=
  h.move hb.size (fun c hc _ => hb.block c hc) (fun _ _ h => h)
end
theorem RSt.open {av : Nat -> Prop} {w : World} {n : Nat} {j : J (n + 1)} {v : Value} (h : RSt av w (n + 1) j v) : ∃ nm l, v = rfV (headJ (n + 1) j) nm l /\ RStrs av w (namesJ j) nm /\ RVals av w n (kids j) l := h
theorem rst_mk {av : Nat -> Prop} {w : World} {n : Nat} {j : J (n + 1)} {nm l : Value} (h1 : RStrs av w (namesJ j) nm) (h2 : RVals av w n (kids j) l) : RSt av w (n + 1) j (rfV (headJ (n + 1) j) nm l) := ⟨nm, l, rfl, h1, h2⟩
theorem rst_form {av : Nat -> Prop} {w : World} : ∀ {n : Nat} {j : J n} {v : Value}, RSt av w n j v -> ∃ nm l, v = rfV (headJ n j) nm l
  | 0, _, _, h => ⟨_, _, h⟩
  | _ + 1, _, _, h => by obtain ⟨nm, l, hv, _⟩ := h; exact ⟨nm, l, hv⟩
theorem headJ_leaf (n : Nat) (l : Leaf) : headJ n (leaf n l) = headL l := by cases n <;> rfl
theorem rst_leaf (av : Nat -> Prop) (w : World) (n : Nat) (l : Leaf) : RSt av w n (leaf n l) (rfV (headL l) (.slice none 0 0) (.slice none 0 0)) := by
  cases n with
  | zero => rfl
  | succ n => exact ⟨_, _, rfl, Or.inl ⟨rfl, rfl⟩, Or.inl ⟨rfl, rfl⟩⟩
theorem RStrs.form {av : Nat -> Prop} {w : World} {L : List Bs} {v : Value} (h : RStrs av w L v) : ∃ p cap, v = .slice p L.length cap /\ L.length <= cap /\ cap <= maxLen /\ ∀ (i : Nat) (s : Bs), L[i]? = some s -> ∃ g, p = some ⟨g, 0, none⟩ /\ g < w.heap.size /\ w.cell? ⟨g, i, none⟩ = some (.string ⟨s.toArray⟩) := by
  rcases h with ⟨rfl, rfl⟩ | ⟨g, cap, hv, hc, hm, hg, hlt, hcell⟩
  · exact ⟨none, 0, rfl, Nat.le_refl _, Nat.zero_le _, fun i s h => by simp at h⟩
  · exact ⟨_, cap, hv, hc, hm, fun i s hi => ⟨g, rfl, hlt, hcell i s hi⟩⟩
theorem RVals.form {av : Nat -> Prop} {w : World} {n : Nat} {xs : List (J n)} {v : Value} (h : RVals av w n xs v) : ∃ p cap, v = .slice p xs.length cap /\ xs.length <= cap /\ cap <= maxLen /\ ∀ (i : Nat) (x : J n), xs[i]? = some x -> ∃ g nm' l', p = some ⟨g, 0, none⟩ /\ g < w.heap.size /\ Six w g (i * 6) (headJ n x) nm' l' /\ RSt av w n x (rfV (headJ n x) nm' l') := by
  rcases h with ⟨rfl, rfl⟩ | ⟨g, cap, hv, hc, hm, hg, hlt, hcell⟩
  · exact ⟨none, 0, rfl, Nat.le_refl _, Nat.zero_le _, fun i s h => by simp at h⟩
  · exact ⟨_, cap, hv, hc, hm, fun i x hx => by
      obtain ⟨nm', l', h6, hr⟩ := hcell i x hx
      exact ⟨g, nm', l', rfl, hlt, h6, hr⟩⟩
theorem rfV_inj {h h' : Hd} {nm l nm' l' : Value} (e : rfV h nm l = rfV h' nm' l') : nm = nm' /\ l = l' := by
  unfold rfV at e
  injection e with e
  have := congrArg Array.toList e
  simp at this
  exact ⟨this.2.2.2.2.1, this.2.2.2.2.2⟩
theorem rst_sl {av : Nat -> Prop} {w : World} {n : Nat} {j : J n} {h : Hd} {nm l : Value} (hs : RSt av w n j (rfV h nm l)) : (∃ p k c, nm = .slice p k c) /\ ∃ p k c, l = .slice p k c := by
  cases n with
  | zero =>
    obtain ⟨e1, e2⟩ := rfV_inj hs
    exact ⟨⟨_, _, _, e1⟩, _, _, _, e2⟩
  | succ n =>
    obtain ⟨nm', l', e, h1, h2⟩ := hs.open
    obtain ⟨e1, e2⟩ := rfV_inj e
    obtain ⟨p, c, f1, _⟩ := h1.form
    obtain ⟨q, d, f2, _⟩ := h2.form
    exact ⟨⟨_, _, _, e1.trans f1⟩, _, _, _, e2.trans f2⟩
end Go.Proofs.YtjcdklbimaclkaaGreatDoor
namespace Go.Proofs.YtjcdklbimaclkaaGreatDoor
set_option linter.unusedVariables false
set_option linter.unusedSimpArgs false
def setGo {α : Type} (nm : Bs) (v : α) : Bool -> List (Bs × α) -> List (Bs × α)
 | z, [] => if z then [] else [(nm, v)]
 | z, f :: r =>
  (if z = false /\ less f.1 nm = false then [(nm, v)] else []) ++ ((if f.1 = nm then [] else [f]) ++ setGo nm v (z || !less f.1 nm) r)
def setF {α : Type} (fs : List (Bs × α)) (nm : Bs) (v : α) : List (Bs × α) := setGo nm v false fs
theorem setGo_true {α : Type} (nm : Bs) (v : α) : ∀ (fs : List (Bs × α)), (∀ f ∈ fs, f.1 ≠ nm) -> setGo nm v true fs = fs
 | [], _ => rfl
 | f :: r, h => by
  simp only [setGo]
  rw [if_neg (by simp), if_neg (h f (by simp)), Bool.true_or, setGo_true nm v r (fun g hg => h g (List.mem_cons_of_mem _ hg))]
  rfl
theorem setF_new {α : Type} (nm : Bs) (v : α) : ∀ (fs : List (Bs × α)), (∀ f ∈ fs, f.1 ≠ nm) -> setF fs nm v = insertAt fs nm v
 | [], _ => rfl
 | f :: r, h => by
  have hr : ∀ g ∈ r, g.1 ≠ nm := fun g hg => h g (List.mem_cons_of_mem _ hg)
  have hf := h f (by simp)
  unfold setF insertAt
  simp only [setGo]
  cases hl : less f.1 nm with
  | true =>
   rw [if_neg (by simp), if_neg hf, List.takeWhile_cons_of_pos (p := fun f : Bs × α => less f.1 nm) hl, List.dropWhile_cons_of_pos (p := fun f : Bs × α => less f.1 nm) hl]
   have ih := setF_new nm v r hr
   unfold setF insertAt at ih
   simp only [Bool.not_true, Bool.or_self, List.nil_append, List.cons_append]
   rw [ih]
  | false =>
   rw [if_pos (by simp), if_neg hf, List.takeWhile_cons_of_neg (p := fun f : Bs × α => less f.1 nm) (by simp [hl]), List.dropWhile_cons_of_neg (p := fun f : Bs × α => less f.1 nm) (by simp [hl])]
   simp only [Bool.not_false, Bool.or_true]
   rw [setGo_true nm v r hr]
   rfl
def findF {α : Type} (fs : List (Bs × α)) (nm : Bs) : Option α := (fs.find? fun f => decide (f.1 = nm)).map fun f => f.2
theorem findF_any {α : Type} (fs : List (Bs × α)) (nm : Bs) : (findF fs nm).isSome = fs.any (fun f => f.1 == nm) := by
 unfold findF
 rw [Option.isSome_map, Bool.eq_iff_iff, List.find?_isSome]
 simp
end Go.Proofs.YtjcdklbimaclkaaGreatDoor
namespace Go.Proofs.YtjcdklbimaclkaaGreatDoor
open Go.RowKit
set_option linter.unusedVariables false
set_option linter.unusedSimpArgs false
def Box (w : World) (g : Nat) (h : Hd) (nm l : Value) : Prop := w.heap[g]? = some (.cells #[.int .i64 h.k, .bool h.b, .int .i64 h.i, .string ⟨h.s.toArray⟩, nm, l] 38 (0, 0))
theorem Box.lt {w : World} {g : Nat} {h : Hd} {nm l : Value} (hb : Box w g h nm l) : g < w.heap.size := lt_of_block hb
theorem Box.free {w : World} {g : Nat} {h : Hd} {nm l : Value} (hb : Box w g h nm l) (o : Nat) : w.frozen? ⟨g, o, none⟩ = false := frozen_of_row _ _ _ _ _ hb
theorem Box.c0 {w : World} {g : Nat} {h : Hd} {nm l : Value} (hb : Box w g h nm l) : w.cell? ⟨g, 0, none⟩ = some (.int .i64 h.k) := by rw [cell_of_row _ _ _ _ _ _ hb]; rfl
theorem Box.c1 {w : World} {g : Nat} {h : Hd} {nm l : Value} (hb : Box w g h nm l) : w.cell? ⟨g, 1, none⟩ = some (.bool h.b) := by rw [cell_of_row _ _ _ _ _ _ hb]; rfl
theorem Box.c2 {w : World} {g : Nat} {h : Hd} {nm l : Value} (hb : Box w g h nm l) : w.cell? ⟨g, 2, none⟩ = some (.int .i64 h.i) := by rw [cell_of_row _ _ _ _ _ _ hb]; rfl
theorem Box.c3 {w : World} {g : Nat} {h : Hd} {nm l : Value} (hb : Box w g h nm l) : w.cell? ⟨g, 3, none⟩ = some (.string ⟨h.s.toArray⟩) := by rw [cell_of_row _ _ _ _ _ _ hb]; rfl
theorem Box.c4 {w : World} {g : Nat} {h : Hd} {nm l : Value} (hb : Box w g h nm l) : w.cell? ⟨g, 4, none⟩ = some nm := by rw [cell_of_row _ _ _ _ _ _ hb]; rfl
theorem Box.c5 {w : World} {g : Nat} {h : Hd} {nm l : Value} (hb : Box w g h nm l) : w.cell? ⟨g, 5, none⟩ = some l := by rw [cell_of_row _ _ _ _ _ _ hb]; rfl
theorem Box.below {w w' : World} {g : Nat} {h : Hd} {nm l : Value} (hb : Box w g h nm l) (e : Below w.heap.size w w') : Box w' g h nm l := (e.block g hb.lt).trans hb
theorem Box.grown {w w' : World} {g : Nat} {h : Hd} {nm l : Value} {row : Option Nat} (hb : Box w g h nm l) (e : w.grownBy w' row) (hne : some g ≠ row) : Box w' g h nm l := (e.block g hb.lt hne).trans hb
theorem Box.drew {w : World} {g : Nat} {h : Hd} {nm l : Value} (hb : Box w g h nm l) : Box w.drew g h nm l := hb
theorem box_new (w : World) (h : Hd) (nm l : Value) : Box (w.alloc (.cells #[.int .i64 h.k, .bool h.b, .int .i64 h.i, .string ⟨h.s.toArray⟩, nm, l] 38)) w.heap.size h nm l := heap_alloc_new w _
def put6 (w : World) (g : Nat) (a b c d e f : Value) : World := (((((w.setCell ⟨g, 0, none⟩ a).setCell ⟨g, 1, none⟩ b).setCell ⟨g, 2, none⟩ c).setCell ⟨g, 3, none⟩ d).setCell ⟨g, 4, none⟩ e).setCell ⟨g, 5, none⟩ f
theorem put6_box {w : World} {g : Nat} {h : Hd} {nm l : Value} (hb : Box w g h nm l) (h' : Hd) (nm' l' : Value) : Box (put6 w g (.int .i64 h'.k) (.bool h'.b) (.int .i64 h'.i) (.string ⟨h'.s.toArray⟩) nm' l') g h' nm' l' := by
 unfold put6
 have e0 := heap_setCell_same w g 0 _ _ (.int .i64 h'.k) hb
 have e1 := heap_setCell_same _ g 1 _ _ (.bool h'.b) e0
 have e2 := heap_setCell_same _ g 2 _ _ (.int .i64 h'.i) e1
 have e3 := heap_setCell_same _ g 3 _ _ (.string ⟨h'.s.toArray⟩) e2
 have e4 := heap_setCell_same _ g 4 _ _ nm' e3
 exact heap_setCell_same _ g 5 _ _ l' e4
theorem grownBy_set_trans {w a : World} {g o : Nat} {v : Value} (h : w.grownBy a (some g)) : w.grownBy (a.setCell ⟨g, o, none⟩ v) (some g) := by
 have k := grownBy_setCell a g o v
 exact ⟨k.os.trans h.os, k.tape.trans h.tape, k.output.trans h.output, Nat.le_trans h.size k.size, fun c hc hne => (k.block c (Nat.lt_of_lt_of_le hc h.size) hne).trans (h.block c hc hne)⟩
theorem put6_grown (w : World) (g : Nat) (a b c d e f : Value) : w.grownBy (put6 w g a b c d e f) (some g) := by
 unfold put6
 exact grownBy_set_trans (grownBy_set_trans (grownBy_set_trans (grownBy_set_trans (grownBy_set_trans (grownBy_setCell w g 0 a)))))
theorem put6_below {w0 w : World} {B g : Nat} (h : Below B w0 w) (hB : B <= g) (hw : B <= w.heap.size) (a b c d e f : Value) : Below B w0 (put6 w g a b c d e f) :=
 h.grown (put6_grown w g a b c d e f) hw (fun k e => by cases e; exact hB)
def RFindPost (av : Nat -> Prop) {n : Nat} (fs : List (Bs × J n)) (nm : Bs) (w : World) (e : Ending) (w' : World) : Prop :=
 Below w.heap.size w w' /\ ((findF fs nm = none /\ e = .returned (.tuple #[rfV ⟨0, false, 0, []⟩ (.slice none 0 0) (.slice none 0 0), .bool false])) ∨ ∃ x v, findF fs nm = some x /\ e = .returned (.tuple #[v, .bool true]) /\ RSt av w n x v)
theorem findF_hit {α : Type} {fs : List (Bs × α)} {nm : Bs} {k : Nat} {f : Bs × α} (h : fs[k]? = some f) (he : f.1 = nm) : findF (fs.drop k) nm = some f.2 := by
 have hk : k < fs.length := by
  rcases Nat.lt_or_ge k fs.length with h' | h'
  ·exact h'
  ·rw [List.getElem?_eq_none h'] at h; cases h
 rw [List.drop_eq_getElem_cons hk]
 rw [List.getElem?_eq_getElem hk] at h
 cases h
 unfold findF
 rw [List.find?_cons_of_pos (by simpa using he)]
 rfl
theorem findF_miss {α : Type} {fs : List (Bs × α)} {nm : Bs} {k : Nat} {f : Bs × α} (h : fs[k]? = some f) (he : f.1 ≠ nm) : findF (fs.drop k) nm = findF (fs.drop (k + 1)) nm := by
 have hk : k < fs.length := by
  rcases Nat.lt_or_ge k fs.length with h' | h'
  ·exact h'
  ·rw [List.getElem?_eq_none h'] at h; cases h
 rw [List.drop_eq_getElem_cons hk]
 rw [List.getElem?_eq_getElem hk] at h
 cases h
 unfold findF
 rw [List.find?_cons_of_neg (by simpa using he)]
set_option maxRecDepth 100000 in
set_option maxHeartbeats 4000000 in
theorem rffind_any (av : Nat -> Prop) {n : Nat} (fs : List (Bs × J n)) (nm : ByteArray) (vn vl : Value) (w : World) (hN : RStrs av w (fs.map fun f => f.1) vn) (hL : RVals av w n (fs.map fun f => f.2) vl) :
  Calls Tryz.prog 33 #[rfV ⟨6, false, 0, []⟩ vn vl, .string nm] w (RFindPost av fs nm.data.toList w) := by
 obtain ⟨pn, cn, rfl, hn1, hn2, hn3⟩ := hN.form
 obtain ⟨pl, cl, rfl, hl1, hl2, hl3⟩ := hL.form
 have HN3 : Hid (∀ (i : Nat) (f : Bs × J n), fs[i]? = some f -> ∃ g, pn = some ⟨g, 0, none⟩ /\ g < w.heap.size /\ w.cell? ⟨g, i, none⟩ = some (.string ⟨f.1.toArray⟩)) := fun i f h => hn3 i f.1 (by rw [List.getElem?_map, h]; rfl)
 have HL3 : Hid (∀ (i : Nat) (f : Bs × J n), fs[i]? = some f -> ∃ g nm' l', pl = some ⟨g, 0, none⟩ /\ g < w.heap.size /\ Six w g (i * 6) (headJ n f.2) nm' l' /\ RSt av w n f.2 (rfV (headJ n f.2) nm' l')) := fun i f h => hl3 i f.2 (by rw [List.getElem?_map, h]; rfl)
 unfold rfV
 unfold maxLen at hn2 hl2
 rw [List.length_map] at hn1 hl1
 rw [List.length_map, List.length_map]
 obtain ⟨B, hB⟩ : ∃ B, B = w.heap.size := ⟨_, rfl⟩
 obtain ⟨w0, hw0⟩ : ∃ w0, w0 = (w.alloc (.cells #[.int .i64 6, .bool false, .int .i64 0, .string ⟨#[]⟩, .slice pn fs.length cn, .slice pl fs.length cl] 38)).alloc (.cells #[.int .i64 0, .bool false, .int .i64 0, .string ⟨#[]⟩, .slice none 0 0, .slice none 0 0] 38) := ⟨_, rfl⟩
 have HB0 : Hid (Below w.heap.size w w0) := by
  show Below _ _ _
  rw [hw0]
  exact ((Below.refl _ _).alloc (Nat.le_refl _) _).alloc (by simp) _
 have HV0 : Hid (Box w0 B ⟨6, false, 0, []⟩ (.slice pn fs.length cn) (.slice pl fs.length cl)) := by
  show Box _ _ _ _ _
  rw [hw0, hB]
  exact (box_new w ⟨6, false, 0, []⟩ _ _).below ((Below.refl _ _).alloc (Nat.le_refl _) _)
 have HR0 : Hid (Box w0 (B + 1) ⟨0, false, 0, []⟩ (.slice none 0 0) (.slice none 0 0)) := by
  show Box _ _ _ _ _
  have := box_new (w.alloc (.cells #[.int .i64 6, .bool false, .int .i64 0, .string ⟨#[]⟩, .slice pn fs.length cn, .slice pl fs.length cl] 38)) ⟨0, false, 0, []⟩ (.slice none 0 0) (.slice none 0 0)
  rw [hw0, hB]
  simpa using this
 have HW0 : Hid (w0 = (w.alloc (.cells #[.int .i64 6, .bool false, .int .i64 0, .string ⟨#[]⟩, .slice pn fs.length cn, .slice pl fs.length cl] 38)).alloc (.cells #[.int .i64 0, .bool false, .int .i64 0, .string ⟨#[]⟩, .slice none 0 0, .slice none 0 0] 38)) := hw0
 have HBe : Hid (B = w.heap.size) := hB
 clear hw0 hB hN hL hn3 hl3
 go_enter Tryz.func33, Tryz.ntmps33
 go_wp2
 rw [<- HBe.out, <- HW0.out]
 go_loopw [11] (fun i wr => ∃ k : Nat, k <= fs.length /\ i = .int .i64 k /\ findF fs nm.data.toList = findF (fs.drop k) nm.data.toList /\ Below w.heap.size w wr /\ Box wr B ⟨6, false, 0, []⟩ (.slice pn fs.length cn) (.slice pl fs.length cl) /\ Box wr (B + 1) ⟨0, false, 0, []⟩ (.slice none 0 0) (.slice none 0 0)) (fun i _ => fs.length - (intOf i).toNat)
 case atStart => exact ⟨0, Nat.zero_le _, rfl, by rw [List.drop_zero], HB0.out, HV0.out, HR0.out⟩
 case round =>
  obtain ⟨k, hk, rfl, hf, hB, hV, hR⟩ := hrel
  have HF : Hid (findF fs nm.data.toList = findF (fs.drop k) nm.data.toList) := hf
  have HB : Hid (Below w.heap.size w wr) := hB
  have HV : Hid (Box wr B ⟨6, false, 0, []⟩ (.slice pn fs.length cn) (.slice pl fs.length cl)) := hV
  have HR : Hid (Box wr (B + 1) ⟨0, false, 0, []⟩ (.slice none 0 0) (.slice none 0 0)) := hR
  have v0 := hV.c0
  have v5 := hV.c5
  have f0 := hR.free 0
  have f1 := hR.free 1
  have f2 := hR.free 2
  have f3 := hR.free 3
  have f4 := hR.free 4
  have f5 := hR.free 5
  have r0 := hR.c0
  have r1 := hR.c1
  have r2 := hR.c2
  have r3 := hR.c3
  have r4 := hR.c4
  have r5 := hR.c5
  clear hf hB hV hR
  by_cases hlt : k < fs.length
  ·obtain ⟨f, hfk⟩ : ∃ f, fs[k]? = some f := ⟨fs[k], List.getElem?_eq_getElem hlt⟩
   obtain ⟨g, rfl, hg, hgc⟩ := HN3.out k f hfk
   have n1 : wr.cell? ⟨g, k, none⟩ = some (.string ⟨f.1.toArray⟩) := (HB.out.cell (p := ⟨g, k, none⟩) hg).trans hgc
   have HK : Hid (fs[k]? = some f) := hfk
   clear hgc hfk
   have hbe : ((⟨f.1.toArray⟩ : ByteArray).toList == nm.toList) = decide (f.1 = nm.data.toList) := by
    rw [ByteArray.toList_eq, ByteArray.toList_eq, Bool.eq_iff_iff, beq_iff_eq, decide_eq_true_iff]
   by_cases he : f.1 = nm.data.toList
   ·have hq : ((⟨f.1.toArray⟩ : ByteArray).toList == nm.toList) = true := by rw [hbe]; exact decide_eq_true he
    have HE : Hid (findF fs nm.data.toList = some f.2) := HF.out.trans (findF_hit HK.out he)
    obtain ⟨g', nm', l', rfl, hg', h6, hst⟩ := HL3.out k f HK.out
    obtain ⟨⟨p1, k1, c1, rfl⟩, p2, k2, c2, rfl⟩ := rst_sl hst
    have h6' := h6.keep (HB.out.block g' hg')
    obtain ⟨x0, x1, x2, x3, x4, x5⟩ := h6'
    have HS : Hid (RSt av w n f.2 (rfV (headJ n f.2) (.slice p1 k1 c1) (.slice p2 k2 c2))) := hst
    clear hbe he hst h6
    generalize (⟨f.1.toArray⟩ : ByteArray) = fb at *
    go_wp2_with fail
    have e6 := put6_box HR.out (headJ n f.2) (.slice p1 k1 c1) (.slice p2 k2 c2)
    have b6 := put6_below HB.out (g := B + 1) (by rw [HBe.out]; omega) HB.out.size (.int .i64 (headJ n f.2).k) (.bool (headJ n f.2).b) (.int .i64 (headJ n f.2).i) (.string ⟨(headJ n f.2).s.toArray⟩) (.slice p1 k1 c1) (.slice p2 k2 c2)
    change bodyPost _ _ _ _ _ (put6 wr (B + 1) _ _ _ _ _ _)
    generalize put6 wr (B + 1) (.int .i64 (headJ n f.2).k) (.bool (headJ n f.2).b) (.int .i64 (headJ n f.2).i) (.string ⟨(headJ n f.2).s.toArray⟩) (.slice p1 k1 c1) (.slice p2 k2 c2) = W at *
    exact bodyPost_ret (v := .tuple #[rfV (headJ n f.2) (.slice p1 k1 c1) (.slice p2 k2 c2), .bool true]) (by simp [results, Tryz.results33, go_sem, rfV, e6.c0, e6.c1, e6.c2, e6.c3, e6.c4, e6.c5]) rfl ⟨b6, Or.inr ⟨_, _, HE.out, rfl, HS.out⟩⟩
   ·have hq : ((⟨f.1.toArray⟩ : ByteArray).toList == nm.toList) = false := by rw [hbe]; exact decide_eq_false he
    have HE : Hid (findF fs nm.data.toList = findF (fs.drop (k + 1)) nm.data.toList) := HF.out.trans (findF_miss HK.out he)
    clear hbe he
    generalize (⟨f.1.toArray⟩ : ByteArray) = fb at *
    go_wp2_with fail
    go_roundw
    case rel => exact ⟨k + 1, by omega, by go_num, HE.out, HB.out, HV.out, HR.out⟩
    case measure => simp [intOf]; omega
  ·have HE : Hid (findF fs nm.data.toList = none) := by
    show _ = _
    rw [HF.out, List.drop_eq_nil_of_le (by omega)]
    rfl
   go_wp2_with fail
   have e6 := put6_box HR.out ⟨0, false, 0, []⟩ (.slice none 0 0) (.slice none 0 0)
   have b6 := put6_below HB.out (g := B + 1) (by rw [HBe.out]; omega) HB.out.size (.int .i64 0) (.bool false) (.int .i64 0) (.string ⟨#[]⟩) (.slice none 0 0) (.slice none 0 0)
   change bodyPost _ _ _ _ _ (put6 wr (B + 1) _ _ _ _ _ _)
   generalize put6 wr (B + 1) (.int .i64 0) (.bool false) (.int .i64 0) (.string ⟨#[]⟩) (.slice none 0 0) (.slice none 0 0) = W at *
   exact bodyPost_ret (v := .tuple #[rfV ⟨0, false, 0, []⟩ (.slice none 0 0) (.slice none 0 0), .bool false]) (by simp [results, Tryz.results33, go_sem, rfV, e6.c0, e6.c1, e6.c2, e6.c3, e6.c4, e6.c5]) rfl ⟨b6, Or.inl ⟨HE.out, rfl⟩⟩
theorem info_V : (Tryz.prog.info? 38).map (fun i => (i.zero, i.size, i.bytes)) = some (some (.agg #[.int .i64 0, .bool false, .int .i64 0, .string ⟨#[]⟩, .slice none 0 0, .slice none 0 0]), 6, 88) := by kernel_rfl
theorem info_text : (Tryz.prog.info? 9).map (fun i => (i.zero, i.size, i.bytes)) = some (some (.string ⟨#[]⟩), 1, 16) := by kernel_rfl
abbrev Six3 := Hd × Value × Value
def six3 (u : Six3) : List Value := [.int .i64 u.1.k, .bool u.1.b, .int .i64 u.1.i, .string ⟨u.1.s.toArray⟩, u.2.1, u.2.2]
theorem six3_len (u : Six3) : (six3 u).length = 6 := rfl
theorem flat6_get : ∀ (us : List Six3) (i k : Nat) (u : Six3), us[i]? = some u -> k < 6 -> (us.flatMap six3)[i * 6 + k]? = (six3 u)[k]?
 | [], i, k, u, h, _ => by simp at h
 | u' :: us, 0, k, u, h, hk => by
  simp at h
  subst h
  rw [List.flatMap_cons, Nat.zero_mul, Nat.zero_add, List.getElem?_append_left (by rw [six3_len]; exact hk)]
 | u' :: us, i + 1, k, u, h, hk => by
  rw [List.flatMap_cons, List.getElem?_append_right (by rw [six3_len]; omega), six3_len, show (i + 1) * 6 + k - 6 = i * 6 + k by omega]
  exact flat6_get us i k u (by simpa using h) hk
def OwnV (av : Nat -> Prop) (N : Nat) (w : World) (n : Nat) (xs : List (J n)) (v : Value) : Prop :=
 ∃ us : List Six3, us.length = xs.length /\ w.ownsRow N 38 6 v xs.length (us.flatMap six3) /\ ∀ (i : Nat) (x : J n) (u : Six3), xs[i]? = some x -> us[i]? = some u -> u.1 = headJ n x /\ RSt (fun c => av c ∨ v.ownBlock = some c) w n x (rfV u.1 u.2.1 u.2.2)
def OwnT (N : Nat) (w : World) (L : List Bs) (v : Value) : Prop := w.ownsRow N 9 1 v L.length (L.map fun s => .string ⟨s.toArray⟩)
theorem OwnV.nil (av : Nat -> Prop) (N : Nat) (w : World) (n : Nat) : OwnV av N w n [] (.slice none 0 0) := ⟨[], rfl, World.ownsRow_nil _ _ _ _, fun i x u h => by simp at h⟩
theorem OwnT.nil (N : Nat) (w : World) : OwnT N w [] (.slice none 0 0) := World.ownsRow_nil _ _ _ _
theorem ownT_apart {N : Nat} {w : World} {L : List Bs} {v : Value} {av : Nat -> Prop} {N' n : Nat} {xs : List (J n)} {v' : Value} (h : OwnT N w L v) (h' : OwnV av N' w n xs v') : v.ownBlock = none ∨ v.ownBlock ≠ v'.ownBlock := by
 obtain ⟨us, _, h', _⟩ := h'
 rcases h.2 with ⟨rfl, _⟩ | ⟨g, cap, cur, rfl, _, hh, _⟩
 ·exact Or.inl rfl
 ·refine Or.inr ?_
  rcases h'.2 with ⟨rfl, _⟩ | ⟨g', cap', cur', rfl, _, hh', _⟩
  ·simp [Value.ownBlock]
  ·intro e
   simp [Value.ownBlock] at e
   subst e
   rw [hh] at hh'
   simp at hh'
theorem OwnT.row {N : Nat} {w : World} {L : List Bs} {v : Value} (h : OwnT N w L v) : ∀ k, v.ownBlock = some k -> N <= k /\ k < w.heap.size := World.ownsRow.lt h
theorem OwnV.row {av : Nat -> Prop} {N n : Nat} {w : World} {xs : List (J n)} {v : Value} (h : OwnV av N w n xs v) : ∀ k, v.ownBlock = some k -> N <= k /\ k < w.heap.size := by
 obtain ⟨us, _, h, _⟩ := h
 exact World.ownsRow.lt h
theorem OwnT.kept {N : Nat} {w w' : World} {L : List Bs} {v : Value} {row : Option Nat} (h : OwnT N w L v) (hg : w.grownBy w' row) (hne : v.ownBlock = none ∨ v.ownBlock ≠ row) : OwnT N w' L v := World.ownsRow.kept h hg hne
theorem OwnT.far {N : Nat} {w w' : World} {L : List Bs} {v : Value} {row : Option Nat} (h : OwnT N w L v) (hg : w.grownBy w' row) (hr : ∀ k, row = some k -> k < N) : OwnT N w' L v := by
 refine h.kept hg ?_
 cases hv : v.ownBlock with
 | none => exact Or.inl rfl
 | some x => exact Or.inr (fun e => by have := hr x e.symm; have := (h.row x hv).1; omega)
theorem OwnV.kept {av : Nat -> Prop} {N n : Nat} {w w' : World} {xs : List (J n)} {v : Value} {row : Option Nat} (h : OwnV av N w n xs v) (hg : w.grownBy w' row) (hne : v.ownBlock = none ∨ v.ownBlock ≠ row) (hr : ∀ k, row = some k -> av k) : OwnV av N w' n xs v := by
 obtain ⟨us, hl, ho, he⟩ := h
 refine ⟨us, hl, ho.kept hg hne, fun i x u hx hu => ?_⟩
 obtain ⟨h1, h2⟩ := he i x u hx hu
 exact ⟨h1, h2.grown hg (fun k e => Or.inl (hr k e))⟩
theorem OwnV.far {av : Nat -> Prop} {N n : Nat} {w w' : World} {xs : List (J n)} {v : Value} {row : Option Nat} (h : OwnV av N w n xs v) (hg : w.grownBy w' row) (hr : ∀ k, row = some k -> k < N /\ av k) : OwnV av N w' n xs v := by
 refine h.kept hg ?_ (fun k e => (hr k e).2)
 cases hv : v.ownBlock with
 | none => exact Or.inl rfl
 | some x => exact Or.inr (fun e => by have := (hr x e.symm).1; have := (h.row x hv).1; omega)
theorem OwnT.alloc {N : Nat} {w : World} {L : List Bs} {v : Value} (h : OwnT N w L v) (o : Obj) : OwnT N (w.alloc o) L v := World.ownsRow.alloc h o
theorem OwnT.snoc {N : Nat} {w : World} {L : List Bs} {s : Bs} {v : Value} (h : w.ownsRow N 9 1 v (L.length + 1) ((L.map fun s => .string ⟨s.toArray⟩) ++ [.string ⟨s.toArray⟩])) : OwnT N w (L ++ [s]) v := by
 unfold OwnT
 rw [List.length_append, List.map_append]
 exact h
theorem OwnV.snoc {av : Nat -> Prop} {N n g cap : Nat} {wa w1 : World} {xs : List (J n)} {us : List Six3} {v : Value} {j : J n} {nm l : Value} (hl : us.length = xs.length)
  (he : ∀ (i : Nat) (x : J n) (u : Six3), xs[i]? = some x -> us[i]? = some u -> u.1 = headJ n x /\ RSt (fun c => av c ∨ v.ownBlock = some c) wa n x (rfV u.1 u.2.1 u.2.2))
  (ho : w1.ownsRow N 38 6 (.slice (some ⟨g, 0, none⟩) (xs.length + 1) cap) (xs.length + 1) (us.flatMap six3 ++ six3 (headJ n j, nm, l)))
  (hg : wa.grownBy w1 v.ownBlock) (hat : v.ownBlock = some g ∨ wa.heap.size <= g) (hj : RSt (fun c => av c ∨ v.ownBlock = some c) wa n j (rfV (headJ n j) nm l)) :
  OwnV av N w1 n (xs ++ [j]) (.slice (some ⟨g, 0, none⟩) (xs.length + 1) cap) := by
 have hmove : ∀ {x : J n} {u : Value}, RSt (fun c => av c ∨ v.ownBlock = some c) wa n x u -> RSt (fun c => av c ∨ (Value.slice (some ⟨g, 0, none⟩) (xs.length + 1) cap).ownBlock = some c) w1 n x u := by
  intro x u h
  have h1 : RSt (fun c => av c ∨ v.ownBlock = some c ∨ c = g) wa n x u := h.wide (fun c e => by
   rcases e with e | e | e
   ·exact Or.inl (Or.inl e)
   ·exact Or.inl (Or.inr e)
   ·rcases hat with h | h
    ·exact Or.inl (Or.inr (by rw [e]; exact h))
    ·exact Or.inr (by omega))
  have h2 := h1.grown hg (fun k e => Or.inr (Or.inl e))
  exact h2.wide (fun c e => by
   rcases e with e | e
   ·exact Or.inl (Or.inl e)
   ·simp [Value.ownBlock] at e
    exact Or.inl (Or.inr (Or.inr e.symm)))
 refine ⟨us ++ [(headJ n j, nm, l)], by simp [hl], ?_, fun i x u hx hu => ?_⟩
 ·rw [List.length_append, List.flatMap_append]
  simpa using ho
 ·rcases snoc_get hx with ⟨hi, hx⟩ | ⟨hi, rfl⟩
  ·rcases snoc_get hu with ⟨_, hu⟩ | ⟨hi2, _⟩
   ·obtain ⟨h1, h2⟩ := he i x u hx hu
    exact ⟨h1, hmove h2⟩
   ·omega
  ·rcases snoc_get hu with ⟨hi2, _⟩ | ⟨_, rfl⟩
   ·omega
   ·exact ⟨rfl, hmove hj⟩
theorem OwnT.strs {av : Nat -> Prop} {N : Nat} {w : World} {L : List Bs} {v : Value} (h : OwnT N w L v) (hav : ∀ c, N <= c -> ¬ av c) : RStrs av w L v := by
 obtain ⟨_, h2⟩ := h
 rcases h2 with ⟨rfl, h0⟩ | ⟨g, cap, cur, rfl, hb, hh, h1, h3, h4, h5⟩
 ·exact Or.inl ⟨List.eq_nil_of_length_eq_zero h0, rfl⟩
 ·refine Or.inr ⟨g, cap, rfl, h1, h3, hav g hb, lt_of_block hh, fun i s hs => ?_⟩
  rw [cell_of_row _ _ _ _ _ _ hh]
  have hi : i < L.length := (List.getElem?_eq_some_iff.1 hs).1
  have h6 : (cur.toList.take (L.length * 1))[i]? = (L.map fun s => Value.string ⟨s.toArray⟩)[i]? := by rw [h5]
  rw [List.getElem?_take, if_pos (by omega), Array.getElem?_toList] at h6
  rw [h6, List.getElem?_map, hs]
  rfl
theorem OwnV.valsTo {av av' : Nat -> Prop} {N n : Nat} {w : World} {xs : List (J n)} {v : Value} (h : OwnV av' N w n xs v) (hav : ∀ c, N <= c -> ¬ av c) (hsub : ∀ c, av c -> av' c) : RVals av w n xs v := by
 obtain ⟨us, hl, ⟨_, h2⟩, he⟩ := h
 rcases h2 with ⟨rfl, h0⟩ | ⟨g, cap, cur, rfl, hb, hh, h1, h3, h4, h5⟩
 ·exact Or.inl ⟨List.eq_nil_of_length_eq_zero h0, rfl⟩
 ·refine Or.inr ⟨g, cap, rfl, h1, h3, hav g hb, lt_of_block hh, fun i x hx => ?_⟩
  have hi : i < xs.length := (List.getElem?_eq_some_iff.1 hx).1
  have hu : us[i]? = some (us[i]'(by omega)) := List.getElem?_eq_getElem (by omega)
  generalize us[i]'(by omega) = u at hu
  obtain ⟨e1, e2⟩ := he i x u hx hu
  have hc : ∀ k, k < 6 -> w.cell? ⟨g, i * 6 + k, none⟩ = (six3 u)[k]? := fun k hk => by
   rw [cell_of_row _ _ _ _ _ _ hh, <- flat6_get us i k u hu hk, <- h5, List.getElem?_take, if_pos (by omega), Array.getElem?_toList]
  refine ⟨u.2.1, u.2.2, ⟨?_, ?_, ?_, ?_, ?_, ?_⟩, ?_⟩
  ·have := hc 0 (by omega); rw [Nat.add_zero] at this; rw [this, <- e1]; rfl
  ·rw [hc 1 (by omega), <- e1]; rfl
  ·rw [hc 2 (by omega), <- e1]; rfl
  ·rw [hc 3 (by omega), <- e1]; rfl
  ·rw [hc 4 (by omega)]; rfl
  ·rw [hc 5 (by omega)]; rfl
  ·rw [<- e1]
   exact e2.wide (fun c h => Or.inl (Or.inl (hsub c h)))
theorem OwnV.vals {av : Nat -> Prop} {N n : Nat} {w : World} {xs : List (J n)} {v : Value} (h : OwnV av N w n xs v) (hav : ∀ c, N <= c -> ¬ av c) : RVals av w n xs v := h.valsTo hav (fun _ h => h)
theorem Box.setL {w : World} {g : Nat} {h : Hd} {nm l : Value} (hb : Box w g h nm l) (l' : Value) : Box (w.setCell ⟨g, 5, none⟩ l') g h nm l' := heap_setCell_same w g 5 _ _ l' hb
theorem Box.setN {w : World} {g : Nat} {h : Hd} {nm l : Value} (hb : Box w g h nm l) (nm' : Value) : Box (w.setCell ⟨g, 4, none⟩ nm') g h nm' l := heap_setCell_same w g 4 _ _ nm' hb
theorem Box.other {w : World} {g c o : Nat} {h : Hd} {nm l : Value} (hb : Box w g h nm l) (hne : g ≠ c) (v : Value) : Box (w.setCell ⟨c, o, none⟩ v) g h nm l := hb.grown (grownBy_setCell w c o v) (fun e => hne (Option.some.inj e))
theorem Box.alloc {w : World} {g : Nat} {h : Hd} {nm l : Value} (hb : Box w g h nm l) (o : Obj) : Box (w.alloc o) g h nm l := hb.grown (World.grownBy_alloc w o none) (fun e => by cases e)
theorem RSt.alloc {av : Nat -> Prop} {w : World} {n : Nat} {j : J n} {v : Value} (h : RSt av w n j v) (o : Obj) : RSt av (w.alloc o) n j v := h.grown (World.grownBy_alloc w o none) (fun k e => by cases e)
theorem six_new (w : World) (h : Hd) (nm l : Value) : ∀ j u, (six3 (h, nm, l))[j]? = some u -> (w.alloc (.cells #[.int .i64 h.k, .bool h.b, .int .i64 h.i, .string ⟨h.s.toArray⟩, nm, l] 38)).cell? ((⟨w.heap.size, 0, none⟩ : Addr).add j) = some u :=
 World.news_of_block (cs := #[.int .i64 h.k, .bool h.b, .int .i64 h.i, .string ⟨h.s.toArray⟩, nm, l]) (t := 38) (fr := (0, 0)) (heap_alloc_new w _)
theorem six_one (w : World) (h : Hd) (p q : Option Addr) (a b c d : Nat) : ∀ u ∈ six3 (h, .slice p a b, .slice q c d), u.oneCell' = true := by
 intro u hu
 simp [six3] at hu
 rcases hu with rfl | rfl | rfl | rfl | rfl | rfl <;> rfl
theorem text_one (s : ByteArray) : ∀ u ∈ [Value.string s], u.oneCell' = true := by
 intro u hu
 simp at hu
 subst hu
 rfl
end Go.Proofs.YtjcdklbimaclkaaGreatDoor
