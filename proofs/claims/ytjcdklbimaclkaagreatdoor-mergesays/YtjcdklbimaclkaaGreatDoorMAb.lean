/- RfJoin, RfLoc, DocQuote, DocNum, Order, DocGood, RfSize, RfOrd -/
import Derived.Test.YtjcdklbimaclkaaGreatDoorMAa
import Derived.Lib.ParseIntBCases
import Derived.StillTail
import Derived.Deep.RegionHeld
namespace Go.Proofs.YtjcdklbimaclkaaGreatDoor
open Go.RowKit
set_option linter.unusedVariables false
set_option linter.unusedSimpArgs false
def SetPost (av : Nat -> Prop) {n : Nat} (fs : List (Bs × J n)) (nm : Bs) (j : J n) (w : World) (e : Ending) (w' : World) : Prop :=
 Below w.heap.size w w' /\ ∃ vn vl, e = .returned (rfV ⟨6, false, 0, []⟩ vn vl) /\ RStrs av w' ((setF fs nm j).map fun f => f.1) vn /\ RVals av w' n ((setF fs nm j).map fun f => f.2) vl
theorem less_bytes' : ∀ (a b : Bs), Op.bytesLess a b = less a b
 | [], [] => by simp [Op.bytesLess, less, Lib.compareBytes]
 | [], _ :: _ => by simp [Op.bytesLess, less, Lib.compareBytes]
 | _ :: _, [] => by simp [Op.bytesLess, less, Lib.compareBytes]
 | x :: a, y :: b => by
  have ih := less_bytes' a b
  simp only [Op.bytesLess, less, Lib.compareBytes] at ih ⊢
  by_cases h1 : x < y
  ·simp [h1]
  ·by_cases h2 : y < x
   ·have h3 : (x == y) = false := by
     rw [beq_eq_false_iff_ne]
     rintro rfl
     exact h1 h2
    simp [h1, h2, h3]
   ·have h3 : x = y := UInt8.le_antisymm (UInt8.not_lt.1 h2) (UInt8.not_lt.1 h1)
    subst h3
    simp [ih]
theorem cell_alloc_old {w : World} {o : Obj} {a : Addr} {v : Value} (h : w.cell? a = some v) : (w.alloc o).cell? a = some v :=
 (World.cell?_of_block (w := w) (w' := w.alloc o) (a := a) (Below.heap_alloc w o a.block (World.block_lt_of_cell? w _ h))).trans h
theorem cell_grown_old {w w' : World} {row : Option Nat} {a : Addr} {v : Value} (hg : w.grownBy w' row) (h : w.cell? a = some v) (hne : some a.block ≠ row) : w'.cell? a = some v :=
 (hg.cell_far a (World.block_lt_of_cell? w _ h) hne).trans h
structure SetAt (av : Nat -> Prop) {n : Nat} (w : World) (B : Nat) (pn pl : Option Addr) (fl cn cl : Nat) (h : Hd) (p1 p2 : Option Addr) (k1 c1 k2 c2 : Nat) (done : List (Bs × J n)) (wr : World) (vn vl : Value) : Prop where
 names : OwnT (B + 4) wr (done.map fun f => f.1) vn
 vals : OwnV (fun c => av c ∨ B <= c) (B + 4) wr n (done.map fun f => f.2) vl
 b0 : Box wr B ⟨6, false, 0, []⟩ (.slice pn fl cn) (.slice pl fl cl)
 b1 : Box wr (B + 1) h (.slice p1 k1 c1) (.slice p2 k2 c2)
 b2 : Box wr (B + 1 + 1) ⟨0, false, 0, []⟩ (.slice none 0 0) (.slice none 0 0)
 b3 : Box wr (B + 1 + 1 + 1) ⟨6, false, 0, []⟩ vn vl
 below : Below B w wr
 size : B + 4 <= wr.heap.size
theorem OwnT.shape {N : Nat} {w : World} {L : List Bs} {v : Value} (h : OwnT N w L v) : ∃ p c, v = .slice p L.length c := by
 rcases h.2 with ⟨rfl, h0⟩ | ⟨g, cap, cur, rfl, _⟩
 ·exact ⟨none, 0, by rw [h0]⟩
 ·exact ⟨_, _, rfl⟩
theorem OwnV.shape {av : Nat -> Prop} {N n : Nat} {w : World} {xs : List (J n)} {v : Value} (h : OwnV av N w n xs v) : ∃ p c, v = .slice p xs.length c := by
 obtain ⟨us, _, h, _⟩ := h
 rcases h.2 with ⟨rfl, h0⟩ | ⟨g, cap, cur, rfl, _⟩
 ·exact ⟨none, 0, by rw [h0]⟩
 ·exact ⟨_, _, rfl⟩
def SetLoop (av : Nat -> Prop) {n : Nat} (w : World) (B : Nat) (pn pl : Option Addr) (cn cl : Nat) (p1 p2 : Option Addr) (k1 c1 k2 c2 : Nat) (fs : List (Bs × J n)) (nm : Bs) (j : J n) (z i : Value) (wr : World) : Prop :=
 ∃ (k : Nat) (q : Bool) (done : List (Bs × J n)) (vn vl : Value), k <= fs.length /\ z = .bool q /\ i = .int .i64 k /\ setF fs nm j = done ++ setGo nm j q (fs.drop k) /\ done.length <= k + (if q then 1 else 0) /\ SetAt av w B pn pl fs.length cn cl (headJ n j) p1 p2 k1 c1 k2 c2 done wr vn vl
theorem news_grown {w w' : World} {row : Option Nat} {g : Nat} {news : List Value} (h : ∀ j u, news[j]? = some u -> w.cell? ((⟨g, 0, none⟩ : Addr).add j) = some u) (hg : w.grownBy w' row) (hne : some g ≠ row) : ∀ j u, news[j]? = some u -> w'.cell? ((⟨g, 0, none⟩ : Addr).add j) = some u :=
 fun j u hu => cell_grown_old hg (h j u hu) (by rw [Addr.add_lit]; exact hne)
theorem news_alloc {w : World} {o : Obj} {g : Nat} {news : List Value} (h : ∀ j u, news[j]? = some u -> w.cell? ((⟨g, 0, none⟩ : Addr).add j) = some u) : ∀ j u, news[j]? = some u -> (w.alloc o).cell? ((⟨g, 0, none⟩ : Addr).add j) = some u :=
 fun j u hu => cell_alloc_old (h j u hu)
theorem text_new (w : World) (s : ByteArray) : ∀ j u, [Value.string s][j]? = some u -> (w.alloc (.cells #[.string s] 9)).cell? ((⟨w.heap.size, 0, none⟩ : Addr).add j) = some u :=
 World.news_of_block (cs := #[.string s]) (t := 9) (fr := (0, 0)) (heap_alloc_new w _)
theorem text_new2 (w : World) (o : Obj) (s : ByteArray) : ∀ j u, [Value.string s][j]? = some u -> ((w.drew.alloc o).alloc (.cells #[.string s] 9)).cell? ((⟨w.heap.size + 1, 0, none⟩ : Addr).add j) = some u := by
 have h := text_new (w.drew.alloc o) s
 have e : (w.drew.alloc o).heap.size = w.heap.size + 1 := by simp
 rw [e] at h
 exact h
theorem six_new2 (w : World) (o : Obj) (h : Hd) (nm l : Value) : ∀ j u, (six3 (h, nm, l))[j]? = some u -> ((w.drew.alloc o).alloc (.cells #[.int .i64 h.k, .bool h.b, .int .i64 h.i, .string ⟨h.s.toArray⟩, nm, l] 38)).cell? ((⟨w.heap.size + 1, 0, none⟩ : Addr).add j) = some u := by
 have h1 := six_new (w.drew.alloc o) h nm l
 have e : (w.drew.alloc o).heap.size = w.heap.size + 1 := by simp
 rw [e] at h1
 exact h1
theorem six_first (w : World) (o : Obj) (h : Hd) (nm l : Value) : ∀ j u, (six3 (h, nm, l))[j]? = some u -> ((w.drew.alloc (.cells #[.int .i64 h.k, .bool h.b, .int .i64 h.i, .string ⟨h.s.toArray⟩, nm, l] 38)).alloc o).cell? ((⟨w.heap.size, 0, none⟩ : Addr).add j) = some u := news_alloc (six_new w.drew h nm l)
theorem text_first (w : World) (o : Obj) (s : ByteArray) : ∀ j u, [Value.string s][j]? = some u -> ((w.drew.alloc (.cells #[.string s] 9)).alloc o).cell? ((⟨w.heap.size, 0, none⟩ : Addr).add j) = some u := news_alloc (text_new w.drew s)
theorem nm_eta (nm : ByteArray) : nm = ⟨nm.data.toList.toArray⟩ := by cases nm; simp
theorem grown_drew (w : World) : w.grownBy w.drew none := ⟨rfl, rfl, rfl, Nat.le_refl _, fun _ _ _ => rfl⟩
theorem grown_none {a b c : World} (h : a.grownBy b none) (k : b.grownBy c none) : a.grownBy c none :=
 ⟨k.os.trans h.os, k.tape.trans h.tape, k.output.trans h.output, Nat.le_trans h.size k.size, fun x hx hne => (k.block x (Nat.lt_of_lt_of_le hx h.size) hne).trans (h.block x hx hne)⟩
theorem grown_one (w : World) (o : Obj) : w.grownBy (w.drew.alloc o) none := grown_none (grown_drew w) (World.grownBy_alloc _ _ _)
theorem grown_two (w : World) (o o' : Obj) : w.grownBy ((w.drew.alloc o).alloc o') none := grown_none (grown_one w o) (World.grownBy_alloc _ _ _)
theorem grown_refl (w : World) : w.grownBy w none := ⟨rfl, rfl, rfl, Nat.le_refl _, fun _ _ _ => rfl⟩
theorem own_none (v : Value) : v.ownBlock = none ∨ v.ownBlock ≠ (none : Option Nat) := by
 cases v.ownBlock with
 | none => exact Or.inl rfl
 | some x => exact Or.inr (fun e => by cases e)
theorem set_join {av : Nat -> Prop} {n : Nat} {w : World} {B : Nat} {pn pl : Option Addr} {fl cn cl : Nat} {h : Hd} {p1 p2 : Option Addr} {k1 c1 k2 c2 : Nat} {done : List (Bs × J n)} {wr W1 wa W2 wb : World} {vn vl : Value} {us : List Six3} {nm : Bs} {nmv : ByteArray} {x : J n} {s1 s2 : Value} {ga ca gb cb : Nat}
  (hS : SetAt av w B pn pl fl cn cl h p1 p2 k1 c1 k2 c2 done wr vn vl) (hx : RSt (fun c => av c ∨ B <= c) wr n x (rfV (headJ n x) s1 s2))
  (hul : us.length = (done.map fun f => f.2).length) (hue : ∀ (i : Nat) (x : J n) (u : Six3), (done.map fun f => f.2)[i]? = some x -> us[i]? = some u -> u.1 = headJ n x /\ RSt (fun c => (av c ∨ B <= c) ∨ vl.ownBlock = some c) wr n x (rfV u.1 u.2.1 u.2.2))
  (g1 : wr.grownBy W1 none) (gA : W1.grownBy wa vn.ownBlock) (oA : wa.ownsRow (B + 4) 9 1 (.slice (some ⟨ga, 0, none⟩) (done.length + 1) ca) (done.length + 1) (((done.map fun f => f.1).map fun s => .string ⟨s.toArray⟩) ++ [.string nmv])) (hnm : nmv = ⟨nm.toArray⟩)
  (g2 : wa.grownBy W2 none) (gB : W2.grownBy wb vl.ownBlock) (oB : wb.ownsRow (B + 4) 38 6 (.slice (some ⟨gb, 0, none⟩) (done.length + 1) cb) (done.length + 1) (us.flatMap six3 ++ six3 (headJ n x, s1, s2))) (hat : vl.ownBlock = some gb ∨ W2.heap.size <= gb) :
  SetAt av w B pn pl fl cn cl h p1 p2 k1 c1 k2 c2 (done ++ [(nm, x)]) ((wb.setCell ⟨B + 1 + 1 + 1, 4, none⟩ (.slice (some ⟨ga, 0, none⟩) (done.length + 1) ca)).setCell ⟨B + 1 + 1 + 1, 5, none⟩ (.slice (some ⟨gb, 0, none⟩) (done.length + 1) cb)) (.slice (some ⟨ga, 0, none⟩) (done.length + 1) ca) (.slice (some ⟨gb, 0, none⟩) (done.length + 1) cb) := by
 have e1 : (done.map fun f => f.1).length = done.length := List.length_map _
 have e2 : (done.map fun f => f.2).length = done.length := List.length_map _
 have rn := hS.names.row
 have rv := hS.vals.row
 have hna : ∀ k, k < B + 4 -> some k ≠ vn.ownBlock := fun k hk e => by have := (rn k e.symm).1; omega
 have hnb : ∀ k, k < B + 4 -> some k ≠ vl.ownBlock := fun k hk e => by have := (rv k e.symm).1; omega
 have up : ∀ {g : Nat} {h : Hd} {a b : Value}, g < B + 4 -> Box wr g h a b -> Box wb g h a b := fun {g h a b} hg hb =>
  (((hb.grown g1 (fun e => by cases e)).grown gA (hna g hg)).grown g2 (fun e => by cases e)).grown gB (hnb g hg)
 have hb3 := up (by omega) hS.b3
 have hVa : OwnV (fun c => av c ∨ B <= c) (B + 4) wa n (done.map fun f => f.2) vl := by
  refine ((hS.vals.kept g1 (own_none _) (fun k e => by cases e)).kept gA ?_ (fun k e => Or.inr (by have := (rn k e).1; omega)))
  rcases ownT_apart hS.names hS.vals with h | h
  ·rw [h]; exact own_none _
  ·exact Or.inr (fun e => h e.symm)
 have hTb : OwnT (B + 4) wb ((done.map fun f => f.1) ++ [nm]) (.slice (some ⟨ga, 0, none⟩) (done.length + 1) ca) := by
  have h1 : OwnT (B + 4) wa ((done.map fun f => f.1) ++ [nm]) (.slice (some ⟨ga, 0, none⟩) (done.length + 1) ca) := OwnT.snoc (by rw [e1, <- hnm]; exact oA)
  exact (h1.kept g2 (own_none _)).kept gB (ownT_apart (h1.kept g2 (own_none _)) (hVa.kept g2 (own_none _) (fun k e => by cases e)))
 have hmv : ∀ {x : J n} {u : Value} {av' : Nat -> Prop}, (∀ c, B <= c -> av' c) -> RSt av' wr n x u -> RSt av' W2 n x u := fun {x u av'} ha h =>
  ((h.grown g1 (fun k e => by cases e)).grown gA (fun k e => ha k (by have := (rn k e).1; omega))).grown g2 (fun k e => by cases e)
 have hVb : OwnV (fun c => av c ∨ B <= c) (B + 4) wb n ((done.map fun f => f.2) ++ [x]) (.slice (some ⟨gb, 0, none⟩) (done.length + 1) cb) := by
  have h9 := OwnV.snoc (g := gb) (cap := cb) (v := vl) hul (fun i y u hy hu => ⟨(hue i y u hy hu).1, hmv (fun c hc => Or.inl (Or.inr hc)) (hue i y u hy hu).2⟩) (by rw [e2]; exact oB) gB hat (hmv (fun c hc => Or.inl (Or.inr hc)) (hx.wide (fun c e => by
   rcases e with e | e
   ·exact Or.inl e
   ·exact Or.inl (Or.inr (by have := (rv c e).1; omega)))))
  rw [e2] at h9
  exact h9
 have hsz : B + 4 <= wb.heap.size := by
  have := hS.size; have := g1.size; have := gA.size; have := g2.size; have := gB.size
  omega
 have hbl : Below B w wb := by
  have hB0 := hS.below
  have q1 := hB0.grown g1 (by have := hS.size; omega) (fun k e => by cases e)
  have q2 := q1.grown gA (by have := hS.size; have := g1.size; omega) (fun k e => by have := (rn k e).1; omega)
  have q3 := q2.grown g2 (by have := hS.size; have := g1.size; have := gA.size; omega) (fun k e => by cases e)
  exact q3.grown gB (by have := hS.size; have := g1.size; have := gA.size; have := g2.size; omega) (fun k e => by have := (rv k e).1; omega)
 refine ⟨?_, ?_, ((up (by omega) hS.b0).other (by omega) _).other (by omega) _, ((up (by omega) hS.b1).other (by omega) _).other (by omega) _, ((up (by omega) hS.b2).other (by omega) _).other (by omega) _, (hb3.setN _).setL _, (hbl.setCell (by show B <= B + 1 + 1 + 1; omega) _).setCell (by show B <= B + 1 + 1 + 1; omega) _, by rw [heap_setCell_size, heap_setCell_size]; exact hsz⟩
 ·rw [List.map_append]
  exact (hTb.far (grownBy_setCell _ _ _ _) (fun k e => by cases e; omega)).far (grownBy_setCell _ _ _ _) (fun k e => by cases e; omega)
 ·rw [List.map_append]
  exact (hVb.far (grownBy_setCell _ _ _ _) (fun k e => by cases e; exact ⟨by omega, Or.inr (by omega)⟩)).far (grownBy_setCell _ _ _ _) (fun k e => by cases e; exact ⟨by omega, Or.inr (by omega)⟩)
def Loc (av : Nat -> Prop) (a b c : Nat) : Prop := av c ∨ (a <= c /\ c < b)
theorem RStrs.wide {av av' : Nat -> Prop} {w : World} {L : List Bs} {v : Value} (h : RStrs av w L v) (ha : ∀ c, av' c -> av c ∨ w.heap.size <= c) : RStrs av' w L v :=
  h.move (Nat.le_refl _) (fun _ _ _ => rfl) (fun c hc hn e => by rcases ha c e with h1 | h1
                                                                 · exact hn h1
                                                                 · omega)
theorem RVals.wide {av av' : Nat -> Prop} {w : World} {n : Nat} {xs : List (J n)} {v : Value} (h : RVals av w n xs v) (ha : ∀ c, av' c -> av c ∨ w.heap.size <= c) : RVals av' w n xs v :=
  h.move (Nat.le_refl _) (fun _ _ _ => rfl) (fun c hc hn e => by rcases ha c e with h1 | h1
                                                                 · exact hn h1
                                                                 · omega)
section
variable {av : Nat -> Prop} {w wr w' : World} {n b : Nat}
theorem loc_wide (c : Nat) (e : Loc av w.heap.size b c) : av c ∨ w.heap.size <= c := by
  rcases e with e | e
  · exact Or.inl e
  · exact Or.inr e.1
theorem RSt.loc {j : J n} {v : Value} (h : RSt av w n j v) (hb : Below w.heap.size w wr) : RSt (Loc av w.heap.size b) wr n j v := (h.wide loc_wide).below hb
theorem RStrs.loc {L : List Bs} {v : Value} (h : RStrs av w L v) (hb : Below w.heap.size w wr) : RStrs (Loc av w.heap.size b) wr L v := (h.wide loc_wide).below hb
theorem RVals.loc {xs : List (J n)} {v : Value} (h : RVals av w n xs v) (hb : Below w.heap.size w wr) : RVals (Loc av w.heap.size b) wr n xs v := (h.wide loc_wide).below hb
theorem RStrs.unloc {a : Nat} {L : List Bs} {v : Value} (h : RStrs (Loc av a b) w L v) : RStrs av w L v := h.wide (fun c e => Or.inl (Or.inl e))
theorem RVals.unloc {a : Nat} {xs : List (J n)} {v : Value} (h : RVals (Loc av a b) w n xs v) : RVals av w n xs v := h.wide (fun c e => Or.inl (Or.inl e))
end
structure OutAt (av : Nat -> Prop) (B : Nat) {n : Nat} (s : List (Bs × J n)) (vn vl : Value) (wr : World) : Prop where
  names : RStrs av wr (s.map fun f => f.1) vn
  vals : RVals av wr n (s.map fun f => f.2) vl
  o : Box wr B ⟨6, false, 0, []⟩ vn vl
  hi : av B
  free : ∀ c, wr.heap.size <= c -> ¬ av c
section
variable {av : Nat -> Prop} {B n : Nat} {s s' : List (Bs × J n)} {vn vl vn' vl' : Value} {wr w' : World}
theorem OutAt.below (h : OutAt av B s vn vl wr) (g : Below wr.heap.size wr w') : OutAt av B s vn vl w' :=
  ⟨h.names.below g, h.vals.below g, h.o.below g, h.hi, fun c hc => h.free c (Nat.le_trans g.size hc)⟩
theorem OutAt.put (h : OutAt av B s vn vl wr) (hn : RStrs av wr (s'.map fun f => f.1) vn') (hl : RVals av wr n (s'.map fun f => f.2) vl') :
    OutAt av B s' vn' vl' (put6 wr B (.int .i64 6) (.bool false) (.int .i64 0) (.string ⟨#[]⟩) vn' vl') := by
  have g := put6_grown wr B (.int .i64 6) (.bool false) (.int .i64 0) (.string ⟨#[]⟩) vn' vl'
  exact ⟨hn.grown g (fun k e => by cases e; exact h.hi), hl.grown g (fun k e => by cases e; exact h.hi), put6_box h.o ⟨6, false, 0, []⟩ vn' vl', h.hi, fun c hc => h.free c (Nat.le_trans g.size hc)⟩
theorem OutAt.shape (h : OutAt av B s vn vl wr) : (∃ p c, vn = .slice p s.length c) /\ ∃ p c, vl = .slice p s.length c := by
  obtain ⟨p, c, e, _⟩ := h.names.form
  obtain ⟨q, d, f, _⟩ := h.vals.form
  rw [List.length_map] at e f
  exact ⟨⟨p, c, e⟩, q, d, f⟩
end
structure DAt (av : Nat -> Prop) (w : World) {n : Nat} (dfs : List (Bs × J n)) (dh : Hd) (dn dl : Value) : Prop where
  names : RStrs av w (dfs.map fun f => f.1) dn
  vals : (dh = ⟨6, false, 0, []⟩ /\ RVals av w n (dfs.map fun f => f.2) dl) ∨ (dh.k ≠ 6 /\ dfs = [])
  shape : ∃ p k c, dl = .slice p k c
theorem DAt.loc {av : Nat -> Prop} {w w' : World} {n b : Nat} {dfs : List (Bs × J n)} {dh : Hd} {dn dl : Value} (h : DAt av w dfs dh dn dl) (g : Below w.heap.size w w') : DAt (Loc av w.heap.size b) w' dfs dh dn dl :=
  ⟨h.names.loc g, by
    rcases h.vals with ⟨e, hv⟩ | hv
    · exact Or.inl ⟨e, hv.loc g⟩
    · exact Or.inr hv, h.shape⟩
def ROpt (av : Nat -> Prop) (w : World) (n : Nat) (d : Option (J n)) (v : Value) : Prop :=
  match d with
  | none => v = rfV ⟨0, false, 0, []⟩ (.slice none 0 0) (.slice none 0 0)
  | some x => RSt av w n x v
theorem ROpt.below {av : Nat -> Prop} {w w' : World} {n : Nat} {d : Option (J n)} {v : Value} (h : ROpt av w n d v) (g : Below w.heap.size w w') : ROpt av w' n d v := by
  cases d with
  | none => exact h
  | some x => exact RSt.below h g
theorem ROpt.form {av : Nat -> Prop} {w : World} {n : Nat} {d : Option (J n)} {v : Value} (h : ROpt av w n d v) : ∃ dh p k c q l e, v = rfV dh (.slice p k c) (.slice q l e) := by
  cases d with
  | none => exact ⟨_, _, _, _, _, _, _, h⟩
  | some x =>
    obtain ⟨nm, l, rfl⟩ := rst_form h
    obtain ⟨⟨p, k, c, rfl⟩, q, k', c', rfl⟩ := rst_sl h
    exact ⟨_, _, _, _, _, _, _, rfl⟩
end Go.Proofs.YtjcdklbimaclkaaGreatDoor
namespace Go.Proofs.YtjcdklbimaclkaaGreatDoor
def meant (c : UInt8) : Bool := plain c || (c == 10 || c == 9)
theorem meaning_meant (d : UInt8) (h : ¬ meaning d = 0) : meant (meaning d) = true /\ (quoteB (meaning d)).length <= 2 := by
 unfold meaning at h ⊢
 split at h
 ·rename_i h1
  rw [if_pos h1]
  rcases h1 with rfl | rfl <;> decide
 ·rename_i h1
  rw [if_neg h1]
  split at h
  ·rename_i h2
   rw [if_pos h2]
   decide
  ·rename_i h2
   rw [if_neg h2]
   split at h
   ·rename_i h3
    rw [if_pos h3]
    decide
   ·exact absurd rfl h
theorem plain_meant (c : UInt8) (h34 : ¬ c = 34) (h92 : ¬ c = 92) (hp : plain c = true) : meant c = true /\ (quoteB c).length <= 1 := by
 refine ⟨by simp [meant, hp], ?_⟩
 have h10 : c ≠ 10 := by intro e; subst e; revert hp; decide
 have h9 : c ≠ 9 := by intro e; subst e; revert hp; decide
 simp [quoteB, h10, h9, h34, h92]
theorem signs_nil : signs [] = none := by rw [signs.eq_def]
theorem signs_cons (c : UInt8) (r : Bs) : signs (c :: r) = if c = 34 then some ([], r)
  else if c = 92 then
   match r with
   | [] => none
   | d :: r' => if meaning d = 0 then none else (signs r').map fun p => (meaning d :: p.1, p.2)
  else if plain c then (signs r).map fun p => (c :: p.1, p.2)
  else none := by
 rw [signs.eq_def]
 rfl
theorem quoteB_cases (c : UInt8) (h : meant c = true) : (quoteB c = [c] /\ c ≠ 34 /\ c ≠ 92 /\ plain c = true) ∨ ∃ d, quoteB c = [92, d] /\ meaning d = c /\ c ≠ 0 := by
 by_cases h10 : c = 10
 ·subst h10; exact Or.inr ⟨110, by decide⟩
 by_cases h9 : c = 9
 ·subst h9; exact Or.inr ⟨116, by decide⟩
 by_cases h34 : c = 34
 ·subst h34; exact Or.inr ⟨34, by decide⟩
 by_cases h92 : c = 92
 ·subst h92; exact Or.inr ⟨92, by decide⟩
 refine Or.inl ⟨by simp [quoteB, h10, h9, h34, h92], h34, h92, ?_⟩
 simpa [meant, h10, h9] using h
theorem signs_quoteB (c : UInt8) (h : meant c = true) (r : Bs) : signs (quoteB c ++ r) = (signs r).map fun p => (c :: p.1, p.2) := by
 rcases quoteB_cases c h with ⟨e, h1, h2, h3⟩ | ⟨d, e, hm, h0⟩
 ·rw [e]
  show signs (c :: r) = _
  rw [signs_cons]
  simp only [h1, h2, h3, if_true, if_false]
 ·rw [e]
  show signs (92 :: d :: r) = _
  rw [signs_cons]
  simp [hm, h0]
theorem signs_quote : ∀ (s : Bs) (_ : ∀ c ∈ s, meant c = true) (r : Bs), signs (s.flatMap quoteB ++ 34 :: r) = some (s, r)
 | [], _, r => by simp [signs_cons]
 | c :: s, h, r => by
  rw [List.flatMap_cons, List.append_assoc, signs_quoteB c (h c (by simp)), signs_quote s (fun d hd => h d (by simp [hd])) r]
  rfl
theorem quoted_quote (s : Bs) (h : ∀ c ∈ s, meant c = true) (r : Bs) : quoted (quote s ++ r) = some (s, r) := by
 have : quote s ++ r = 34 :: (s.flatMap quoteB ++ 34 :: r) := by simp [quote]
 rw [this, quoted]
 simp only [hd, List.headD_cons, List.tail_cons, if_true]
 exact signs_quote s h r
theorem signs_meant : ∀ (n : Nat) (r : Bs) (_ : r.length <= n) (p : Bs × Bs), signs r = some p -> (∀ c ∈ p.1, meant c = true) /\ (p.1.flatMap quoteB).length + p.2.length < r.length
 | 0, [], _, p, h => by simp [signs_nil] at h
 | 0, _ :: _, hn, _, _ => by simp at hn
 | _ + 1, [], _, p, h => by simp [signs_nil] at h
 | n + 1, c :: r, hn, p, h => by
  rw [signs_cons] at h
  have hn' : r.length <= n := by simpa using hn
  split at h
  ·cases h; simp
  ·rename_i h34
   split at h
   ·split at h
    ·cases h
    ·rename_i d r'
     split at h
     ·cases h
     ·rename_i hm
      cases hs : signs r' with
      | none => rw [hs] at h; cases h
      | some q =>
       rw [hs] at h
       cases h
       have ih := signs_meant n r' (by simp at hn'; omega) q hs
       have hd := meaning_meant d hm
       refine ⟨fun c hc => ?_, ?_⟩
       ·rcases List.mem_cons.1 hc with rfl | hc
        ·exact hd.1
        ·exact ih.1 c hc
       ·simp only [List.flatMap_cons, List.length_append, List.length_cons]
        have := ih.2
        omega
   ·rename_i h92
    split at h
    ·rename_i hp
     cases hs : signs r with
     | none => rw [hs] at h; cases h
     | some q =>
      rw [hs] at h
      cases h
      have ih := signs_meant n r hn' q hs
      have hd := plain_meant c h34 h92 hp
      refine ⟨fun c hc => ?_, ?_⟩
      ·rcases List.mem_cons.1 hc with rfl | hc
       ·exact hd.1
       ·exact ih.1 c hc
      ·simp only [List.flatMap_cons, List.length_append, List.length_cons]
       have := ih.2
       omega
    ·cases h
theorem quoted_meant {r : Bs} {p : Bs × Bs} (h : quoted r = some p) : (∀ c ∈ p.1, meant c = true) /\ (quote p.1).length + p.2.length <= r.length := by
 unfold quoted at h
 split at h
 ·cases r with
  | nil => simp [signs_nil] at h
  | cons c r =>
   have := signs_meant r.length r (Nat.le_refl _) p h
   refine ⟨this.1, ?_⟩
   simp only [quote, List.length_cons, List.length_append, List.length_nil]
   have := this.2
   omega
 ·cases h
end Go.Proofs.YtjcdklbimaclkaaGreatDoor
namespace Go.Proofs.YtjcdklbimaclkaaGreatDoor
set_option linter.unusedVariables false
set_option linter.unusedSimpArgs false
theorem digit_iff (c : UInt8) : isDigit c = true ↔ 48 <= c.toNat /\ c.toNat <= 57 := by
 unfold isDigit
 simp only [Bool.and_eq_true, decide_eq_true_eq, UInt8.le_iff_toNat_le]
 exact Iff.rfl
theorem foldl_lt : ∀ (ds : Bs) (a k : Nat), (∀ c ∈ ds, isDigit c = true) -> a < 10 ^ k -> ds.foldl (fun n c => 10 * n + (c.toNat - 48)) a < 10 ^ (k + ds.length)
 | [], a, k, _, ha => by simpa using ha
 | c :: ds, a, k, h, ha => by
  have hc := (digit_iff c).1 (h c (by simp))
  have := foldl_lt ds (10 * a + (c.toNat - 48)) (k + 1) (fun d hd => h d (by simp [hd])) (by rw [Nat.pow_succ]; omega)
  rw [List.foldl_cons, List.length_cons]
  rw [show k + (ds.length + 1) = k + 1 + ds.length by omega]
  exact this
theorem decV_lt (ds : Bs) (h : ∀ c ∈ ds, isDigit c = true) : decV ds < 10 ^ ds.length := by
 have := foldl_lt ds 0 0 h (by simp)
 simpa [decV] using this
theorem parseM_ok : ∀ (ds : Bs) (a k M : Nat), (∀ c ∈ ds, isDigit c = true) -> a < 10 ^ k -> k + ds.length <= 18 -> 10 ^ 18 <= M -> Lib.parseUintM M a ds = .ok (ds.foldl (fun n c => 10 * n + (c.toNat - 48)) a)
 | [], a, k, M, _, ha, hk, hM => by simp [Lib.parseUintM]
 | c :: ds, a, k, M, h, ha, hk, hM => by
  have hc := (digit_iff c).1 (h c (by simp))
  have hlt : 10 * a + (c.toNat - 48) < 10 ^ (k + 1) := by rw [Nat.pow_succ]; omega
  have hle : 10 ^ (k + 1) <= 10 ^ 18 := Nat.pow_le_pow_right (by decide) (by simp at hk; omega)
  have ih := parseM_ok ds (10 * a + (c.toNat - 48)) (k + 1) M (fun d hd => h d (by simp [hd])) hlt (by simp at hk ⊢; omega) hM
  unfold Lib.parseUintM
  have h10 : 10 ^ k <= 10 ^ 17 := Nat.pow_le_pow_right (by decide) (by simp at hk; omega)
  rw [if_pos hc, if_neg (by omega), if_neg (by omega), Nat.mul_comm a 10, ih]
  rfl
theorem parse_ok (below : Bool) (ds : Bs) (h : ∀ c ∈ ds, isDigit c = true) (h0 : ds ≠ []) (h18 : ds.length <= 18) :
  Lib.parseIntB 64 ((if below then [45] else []) ++ ds) = .ok (numVal below ds) := by
 have hu : Lib.parseUintB 64 ds = .ok (decV ds) := by
  unfold Lib.parseUintB
  rw [if_neg h0]
  exact parseM_ok ds 0 0 _ h (by simp) (by omega) (by decide)
 have hlt := decV_lt ds h
 have hle : 10 ^ ds.length <= 10 ^ 18 := Nat.pow_le_pow_right (by decide) h18
 have hb : decV ds < 2 ^ 63 := by omega
 cases below with
 | true =>
  show Lib.parseIntB 64 (45 :: ds) = _
  rw [Lib.parseIntB_minus, hu]
  show (if 2 ^ 63 < decV ds then _ else _) = _
  rw [if_neg (by omega)]
  rfl
 | false =>
  show Lib.parseIntB 64 ds = _
  cases ds with
  | nil => exact absurd rfl h0
  | cons c r =>
   have hc := (digit_iff c).1 (h c (by simp))
   rw [Lib.parseIntB_plain 64 c r (by omega) (by omega), hu]
   show (if 2 ^ 63 <= decV (c :: r) then _ else _) = _
   rw [if_neg (by omega)]
   rfl
theorem cmp_self : ∀ a : Bs, Lib.compareBytes a a = 0
 | [] => rfl
 | x :: a => by
  rw [Lib.compareBytes, if_neg (UInt8.lt_irrefl x), if_neg (UInt8.lt_irrefl x)]
  exact cmp_self a
theorem cmp_vals : ∀ a b : Bs, Lib.compareBytes a b = 0 ∨ Lib.compareBytes a b = 1 ∨ Lib.compareBytes a b = -1
 | [], [] => Or.inl rfl
 | [], _ :: _ => Or.inr (Or.inr rfl)
 | _ :: _, [] => Or.inr (Or.inl rfl)
 | x :: a, y :: b => by
  rw [Lib.compareBytes]
  split
  ·exact Or.inr (Or.inr rfl)
  ·split
   ·exact Or.inr (Or.inl rfl)
   ·exact cmp_vals a b
theorem cmp_eq : ∀ a b : Bs, Lib.compareBytes a b = 0 -> a = b
 | [], [], _ => rfl
 | [], _ :: _, h => by rw [Lib.compareBytes] at h; omega
 | _ :: _, [], h => by rw [Lib.compareBytes] at h; omega
 | x :: a, y :: b, h => by
  rw [Lib.compareBytes] at h
  split at h
  ·omega
  ·split at h
   ·omega
   ·rename_i h1 h2
    have e : x = y := UInt8.toNat_inj.1 (by rw [UInt8.lt_iff_toNat_lt] at h1 h2; omega)
    rw [e, cmp_eq a b h]
theorem cmp_swap : ∀ a b : Bs, Lib.compareBytes b a = - Lib.compareBytes a b
 | [], [] => rfl
 | [], _ :: _ => rfl
 | _ :: _, [] => rfl
 | x :: a, y :: b => by
  rw [Lib.compareBytes, Lib.compareBytes]
  by_cases h1 : x < y
  ·have h2 : ¬ y < x := by rw [UInt8.lt_iff_toNat_lt] at h1 ⊢; omega
   simp [h1, h2]
  ·by_cases h2 : y < x
   ·simp [h1, h2]
   ·simp [h1, h2]
    exact cmp_swap a b
theorem cmp_trans : ∀ a b c : Bs, Lib.compareBytes a b < 0 -> Lib.compareBytes b c < 0 -> Lib.compareBytes a c < 0
 | [], [], _, h, _ => by rw [Lib.compareBytes] at h; omega
 | [], _ :: _, [], _, h => by rw [Lib.compareBytes] at h; omega
 | [], _ :: _, _ :: _, _, _ => by rw [Lib.compareBytes]; omega
 | _ :: _, [], _, h, _ => by rw [Lib.compareBytes] at h; omega
 | _ :: _, _ :: _, [], _, h => by rw [Lib.compareBytes] at h; omega
 | x :: a, y :: b, z :: c, h, g => by
  rw [Lib.compareBytes] at h g ⊢
  simp only [UInt8.lt_iff_toNat_lt] at h g ⊢
  by_cases h1 : x.toNat < y.toNat
  ·by_cases g1 : y.toNat < z.toNat
   ·rw [if_pos (by omega)]; omega
   ·rw [if_neg g1] at g
    by_cases g2 : z.toNat < y.toNat
    ·rw [if_pos g2] at g; omega
    ·rw [if_pos (by omega)]; omega
  ·rw [if_neg h1] at h
   by_cases h2 : y.toNat < x.toNat
   ·rw [if_pos h2] at h; omega
   ·rw [if_neg h2] at h
    by_cases g1 : y.toNat < z.toNat
    ·rw [if_pos (by omega)]; omega
    ·rw [if_neg g1] at g
     by_cases g2 : z.toNat < y.toNat
     ·rw [if_pos g2] at g; omega
     ·rw [if_neg g2] at g
      rw [if_neg (by omega), if_neg (by omega)]
      exact cmp_trans a b c h g
theorem less_iff (a b : Bs) : less a b = true ↔ Lib.compareBytes a b < 0 := by simp [less]
def Rising {α : Type} (fs : List (Bs × α)) : Prop := fs.Pairwise fun f g => less f.1 g.1 = true
def placeOfName {α : Type} (fs : List (Bs × α)) (nm : Bs) : Nat := (fs.takeWhile fun f => less f.1 nm).length
theorem place_le {α : Type} (fs : List (Bs × α)) (nm : Bs) : placeOfName fs nm <= fs.length := (List.takeWhile_sublist _).length_le
theorem place_of {α : Type} : ∀ (fs : List (Bs × α)) (nm : Bs) (i : Nat), i <= fs.length -> (∀ (x : Nat) (f : Bs × α), x < i -> fs[x]? = some f -> less f.1 nm = true) -> (∀ (f : Bs × α), fs[i]? = some f -> less f.1 nm = false) -> placeOfName fs nm = i
 | [], nm, i, hi, _, _ => by simp at hi; subst hi; rfl
 | f :: fs, nm, 0, _, _, h2 => by
  have := h2 f rfl
  unfold placeOfName
  rw [List.takeWhile_cons, if_neg (by simp [this])]
  rfl
 | f :: fs, nm, i + 1, hi, h1, h2 => by
  have h0 := h1 0 f (by omega) rfl
  have ih := place_of fs nm i (by simpa using hi) (fun x g hx hg => h1 (x + 1) g (by omega) (by simpa using hg)) (fun g hg => h2 g (by simpa using hg))
  unfold placeOfName at ih ⊢
  rw [List.takeWhile_cons, if_pos h0, List.length_cons, ih]
theorem insert_eq {α : Type} (fs : List (Bs × α)) (nm : Bs) (v : α) : insertAt fs nm v = fs.take (placeOfName fs nm) ++ (nm, v) :: fs.drop (placeOfName fs nm) := by
 unfold insertAt placeOfName
 have h := List.takeWhile_append_dropWhile (p := fun f : Bs × α => less f.1 nm) (l := fs)
 have h1 : fs.take (fs.takeWhile fun f => less f.1 nm).length = fs.takeWhile fun f => less f.1 nm := (List.prefix_iff_eq_take.1 (List.takeWhile_prefix _)).symm
 have h2 : fs.drop (fs.takeWhile fun f => less f.1 nm).length = fs.dropWhile fun f => less f.1 nm := by
  have e : fs.drop (fs.takeWhile fun f => less f.1 nm).length = ((fs.takeWhile fun f => less f.1 nm) ++ fs.dropWhile fun f => less f.1 nm).drop (fs.takeWhile fun f => less f.1 nm).length := by rw [h]
  rw [e, List.drop_left]
 rw [h1, h2]
theorem rising_get {α : Type} {fs : List (Bs × α)} (h : Rising fs) {i j : Nat} {f g : Bs × α} (hij : i < j) (hf : fs[i]? = some f) (hg : fs[j]? = some g) : less f.1 g.1 = true := by
 obtain ⟨hi, rfl⟩ := List.getElem?_eq_some_iff.1 hf
 obtain ⟨hj, rfl⟩ := List.getElem?_eq_some_iff.1 hg
 exact List.pairwise_iff_getElem.1 h i j hi hj hij
theorem place_spec {α : Type} (fs : List (Bs × α)) (nm : Bs) : (∀ (x : Nat) (f : Bs × α), x < placeOfName fs nm -> fs[x]? = some f -> less f.1 nm = true) /\ ∀ (f : Bs × α), fs[placeOfName fs nm]? = some f -> less f.1 nm = false := by
 induction fs with
 | nil => exact ⟨fun x f _ h => by simp at h, fun f h => by simp at h⟩
 | cons f fs ih =>
  unfold placeOfName
  rw [List.takeWhile_cons]
  split
  ·rename_i hl
   refine ⟨fun x g hx hg => ?_, fun g hg => ?_⟩
   ·cases x with
    | zero => simp at hg; subst hg; exact hl
    | succ x => exact ih.1 x g (by simpa [placeOfName] using hx) (by simpa using hg)
   ·exact ih.2 g (by simpa [placeOfName] using hg)
  ·rename_i hl
   refine ⟨fun x g hx hg => by simp at hx, fun g hg => ?_⟩
   simp at hg
   subst hg
   simpa using hl
theorem any_place {α : Type} {fs : List (Bs × α)} (h : Rising fs) (nm : Bs) : (fs.any fun f => f.1 == nm) = (match fs[placeOfName fs nm]? with | none => false | some f => decide (Lib.compareBytes f.1 nm = 0)) := by
 have hs := place_spec fs nm
 rw [Bool.eq_iff_iff, List.any_eq_true]
 constructor
 ·rintro ⟨f, hf, he⟩
  obtain ⟨x, hx, rfl⟩ := List.getElem_of_mem hf
  have he' : fs[x].1 = nm := by simpa using he
  have hx' : fs[x]? = some fs[x] := List.getElem?_eq_getElem hx
  have hge : placeOfName fs nm <= x := by
   rcases Nat.lt_or_ge x (placeOfName fs nm) with h' | h'
   ·have := hs.1 x _ h' hx'
    rw [he', less_iff, cmp_self] at this
    omega
   ·exact h'
  have hle : x <= placeOfName fs nm := by
   rcases Nat.lt_or_ge (placeOfName fs nm) x with h' | h'
   ·have hp : placeOfName fs nm < fs.length := by omega
    have hp' : fs[placeOfName fs nm]? = some fs[placeOfName fs nm] := List.getElem?_eq_getElem hp
    have h1 := rising_get h h' hp' hx'
    rw [he'] at h1
    have h2 := hs.2 _ hp'
    rw [h1] at h2
    cases h2
   ·exact h'
  have e : placeOfName fs nm = x := by omega
  rw [e, hx']
  simp [he', cmp_self]
 ·intro hm
  cases hp : fs[placeOfName fs nm]? with
  | none => rw [hp] at hm; cases hm
  | some f =>
   rw [hp] at hm
   have := cmp_eq _ _ (of_decide_eq_true hm)
   exact ⟨f, List.mem_of_getElem? hp, by simp [this]⟩
theorem less_of_not {a b : Bs} (h : less a b = false) (hne : a ≠ b) : less b a = true := by
 rw [less_iff, cmp_swap a b]
 have h1 : ¬ Lib.compareBytes a b < 0 := by simpa [less] using h
 rcases cmp_vals a b with h2 | h2 | h2
 ·exact absurd (cmp_eq _ _ h2) hne
 ·omega
 ·omega
theorem rising_insert {α : Type} {fs : List (Bs × α)} (h : Rising fs) (nm : Bs) (v : α) (hn : (fs.any fun f => f.1 == nm) = false) : Rising (insertAt fs nm v) := by
 have hs := place_spec fs nm
 rw [insert_eq]
 unfold Rising
 rw [List.pairwise_append]
 have hne : ∀ f ∈ fs, f.1 ≠ nm := by
  intro f hf e
  rw [List.any_eq_false] at hn
  exact hn f hf (by simp [e])
 refine ⟨List.Pairwise.sublist (List.take_sublist _ _) h, ?_, ?_⟩
 ·rw [List.pairwise_cons]
  refine ⟨fun g hg => ?_, List.Pairwise.sublist (List.drop_sublist _ _) h⟩
  obtain ⟨x, hx, rfl⟩ := List.getElem_of_mem hg
  rw [List.getElem_drop]
  have hx' : placeOfName fs nm + x < fs.length := by simp at hx; omega
  have hget : fs[placeOfName fs nm + x]? = some fs[placeOfName fs nm + x] := List.getElem?_eq_getElem hx'
  have hp' : fs[placeOfName fs nm]? = some (fs[placeOfName fs nm]'(by omega)) := List.getElem?_eq_getElem (by omega)
  have h0 : less nm (fs[placeOfName fs nm]'(by omega)).1 = true := less_of_not (hs.2 _ hp') (hne _ (List.getElem_mem _))
  rcases Nat.eq_zero_or_pos x with rfl | hpos
  ·exact h0
  ·have h1 := rising_get h (show placeOfName fs nm < placeOfName fs nm + x by omega) hp' hget
   rw [less_iff] at h0 h1 ⊢
   exact cmp_trans _ _ _ h0 h1
 ·intro f hf g hg
  obtain ⟨x, hx, rfl⟩ := List.getElem_of_mem hf
  have hxl : x < placeOfName fs nm := by simp at hx; omega
  have hxf : x < fs.length := by have := place_le fs nm; omega
  rw [List.getElem_take]
  have hget : fs[x]? = some fs[x] := List.getElem?_eq_getElem hxf
  have h1 := hs.1 x _ hxl hget
  rcases List.mem_cons.1 hg with rfl | hg
  ·exact h1
  ·obtain ⟨y, hy, rfl⟩ := List.getElem_of_mem hg
   rw [List.getElem_drop]
   have hy' : placeOfName fs nm + y < fs.length := by simp at hy; omega
   exact rising_get h (show x < placeOfName fs nm + y by omega) hget (List.getElem?_eq_getElem hy')
def GoodLeaf : Leaf -> Prop
 | some (Sum.inr (Sum.inl i)) => -1000000000000000000 < i /\ i < 1000000000000000000
 | some (Sum.inr (Sum.inr s)) => ∀ c ∈ s, meant c = true
 | _ => True
def Good : (n : Nat) -> J n -> Prop
 | 0, l => GoodLeaf l
 | _ + 1, Sum.inl l => GoodLeaf l
 | n + 1, Sum.inr (Sum.inl xs) => ∀ x ∈ xs, Good n x
 | n + 1, Sum.inr (Sum.inr fs) => Rising fs /\ ∀ f ∈ fs, (∀ c ∈ f.1, meant c = true) /\ Good n f.2
def FitLeaf : Leaf -> Prop
 | some (Sum.inr (Sum.inl i)) => -1000000000000000000 < i /\ i < 1000000000000000000
 | _ => True
def Fit : (n : Nat) -> J n -> Prop
 | 0, l => FitLeaf l
 | _ + 1, Sum.inl l => FitLeaf l
 | n + 1, Sum.inr (Sum.inl xs) => ∀ x ∈ xs, Fit n x
 | n + 1, Sum.inr (Sum.inr fs) => ∀ f ∈ fs, Fit n f.2
theorem fit_leaf {l : Leaf} (h : GoodLeaf l) : FitLeaf l := by
 rcases l with _ | b | i | s
 ·trivial
 ·trivial
 ·exact h
 ·trivial
theorem fit_of_good : ∀ (n : Nat) (j : J n), Good n j -> Fit n j
 | 0, l, h => fit_leaf h
 | _ + 1, Sum.inl l, h => fit_leaf h
 | n + 1, Sum.inr (Sum.inl xs), h => fun x hx => fit_of_good n x (h x hx)
 | n + 1, Sum.inr (Sum.inr fs), h => fun f hf => fit_of_good n f.2 (h.2 f hf).2
theorem good_leaf {n : Nat} {l : Leaf} (h : GoodLeaf l) : Good n (leaf n l) := by
 cases n <;> exact h
theorem leafE_good {r : Bs} {l : Leaf} {r' : Bs} (h : leafE r = .ok (l, r')) : GoodLeaf l := by
 unfold leafE at h
 split at h
 ·unfold word at h; split at h <;> cases h; trivial
 ·split at h
  ·unfold word at h; split at h <;> cases h; trivial
  ·split at h
   ·unfold word at h; split at h <;> cases h; trivial
   ·split at h
    ·unfold textE at h
     cases hq : quoted r with
     | none => rw [hq] at h; cases h
     | some p =>
      rw [hq] at h
      cases h
      exact (quoted_meant hq).1
    ·unfold number at h
     simp only [] at h
     generalize (if (hd r == 45) = true then r.tail else r) = r1 at h
     split at h
     ·cases h
     ·split at h
      ·cases h
      ·split at h
       ·cases h
       ·rename_i h1 h2 h3
        cases h
        show -1000000000000000000 < numVal _ _ /\ numVal _ _ < 1000000000000000000
        have hdg : ∀ c ∈ r1.takeWhile isDigit, isDigit c = true := fun c hc => by
         have := List.all_takeWhile (p := isDigit) (l := r1)
         rw [List.all_eq_true] at this
         exact this c hc
        have hlt := decV_lt _ hdg
        have hle : 10 ^ (r1.takeWhile isDigit).length <= 10 ^ 18 := Nat.pow_le_pow_right (by decide) (by omega)
        have hb : decV (r1.takeWhile isDigit) < 1000000000000000000 := by omega
        unfold numVal
        split <;> omega
theorem rowGo_all {σ : Type} {z : UInt8} {one : σ -> Nat -> Bs -> Except Nat (σ × Nat × Bs)} {P : σ -> Prop} (h : ∀ s k r s' k' r', P s -> one s k r = .ok (s', k', r') -> P s') : ∀ (f : Nat) (s : σ) (k : Nat) (r : Bs) (s' : σ) (k' : Nat) (r' : Bs), P s -> rowGo z one f s k r = .ok (s', k', r') -> P s'
 | 0, s, k, r, s', k', r', _, e => by simp [rowGo] at e
 | f + 1, s, k, r, s', k', r', hs, e => by
  rw [rowGo] at e
  cases ho : one s k r with
  | error er => rw [ho] at e; cases e
  | ok p =>
   obtain ⟨s1, k1, r1⟩ := p
   have h1 := h s k r s1 k1 r1 hs ho
   rw [ho] at e
   simp only [] at e
   split at e
   ·cases e; exact h1
   ·split at e
    ·exact rowGo_all h f s1 k1 _ s' k' r' h1 e
    ·cases e
theorem row_all {σ : Type} {z : UInt8} {one : σ -> Nat -> Bs -> Except Nat (σ × Nat × Bs)} {P : σ -> Prop} (h : ∀ s k r s' k' r', P s -> one s k r = .ok (s', k', r') -> P s') (s : σ) (k : Nat) (r : Bs) (s' : σ) (k' : Nat) (r' : Bs) (hs : P s) (e : row z one s k r = .ok (s', k', r')) : P s' := by
 unfold row at e
 split at e
 ·cases e; exact hs
 ·exact rowGo_all h _ _ _ _ _ _ _ hs e
theorem oneItem_ok {α : Type} {pv : Nat -> Bs -> Except Nat (α × Nat × Bs)} {s s' : List α} {k k' : Nat} {r r' : Bs} (h : oneItem pv s k r = .ok (s', k', r')) : ∃ v, pv k r = .ok (v, k', r') /\ s' = s ++ [v] := by
 unfold oneItem at h
 cases hv : pv k r with
 | error er => rw [hv] at h; cases h
 | ok p =>
  obtain ⟨v, k1, r1⟩ := p
  rw [hv] at h
  cases h
  exact ⟨v, rfl, rfl⟩
theorem nameE_ok {α : Type} {fs : List (Bs × α)} {r nm r' : Bs} (h : nameE fs r = .ok (nm, r')) : ∃ q, quoted (skip r) = some (nm, q) /\ (fs.any fun f => f.1 == nm) = false /\ hd (skip q) = 58 /\ r' = (skip q).tail := by
 unfold nameE at h
 cases hq : quoted (skip r) with
 | none => rw [hq] at h; cases h
 | some p =>
  rw [hq] at h
  simp only [] at h
  split at h
  ·cases h
  ·split at h
   ·rename_i h1 h2
    cases h
    exact ⟨p.2, rfl, by rw [<- Bool.not_eq_true]; exact h1, h2, rfl⟩
   ·cases h
theorem oneField_ok {α : Type} {pv : Nat -> Bs -> Except Nat (α × Nat × Bs)} {s s' : List (Bs × α)} {k k' : Nat} {r r' : Bs} (h : oneField pv s k r = .ok (s', k', r')) : ∃ nm v r1, nameE s r = .ok (nm, r1) /\ pv k r1 = .ok (v, k', r') /\ s' = insertAt s nm v := by
 unfold oneField at h
 cases hn : nameE s r with
 | error er => rw [hn] at h; cases h
 | ok p =>
  obtain ⟨nm, r1⟩ := p
  rw [hn] at h
  simp only [] at h
  cases hv : pv k r1 with
  | error er => rw [hv] at h; cases h
  | ok p =>
   obtain ⟨v, k1, r2⟩ := p
   rw [hv] at h
   cases h
   exact ⟨nm, v, r1, rfl, hv, rfl⟩
theorem mem_insertAt {α : Type} {fs : List (Bs × α)} {nm : Bs} {v : α} {f : Bs × α} (h : f ∈ insertAt fs nm v) : f = (nm, v) ∨ f ∈ fs := by
 rw [insert_eq] at h
 rcases List.mem_append.1 h with h | h
 ·exact Or.inr (List.mem_of_mem_take h)
 ·rcases List.mem_cons.1 h with h | h
  ·exact Or.inl h
  ·exact Or.inr (List.mem_of_mem_drop h)
theorem value_cases {n k : Nat} {r : Bs} {j : J n} {k' : Nat} {r' : Bs} (e : value n k r = .ok (j, k', r')) :
  (beginE n k (skip r) = 0) /\ ((∃ l, hd (skip r) ≠ 91 /\ hd (skip r) ≠ 123 /\ leafE (skip r) = .ok (l, r') /\ j = leaf n l /\ k' = k + 1) ∨
   (∃ m, ∃ hm : n = m + 1, ∃ xs : List (J m), hd (skip r) = 91 /\ row 93 (oneItem (value m)) [] (k + 1) (skip r) = .ok (xs, k', r') /\ j = hm ▸ (Sum.inr (Sum.inl xs) : J (m + 1))) ∨
   (∃ m, ∃ hm : n = m + 1, ∃ fs : List (Bs × J m), hd (skip r) = 123 /\ row 125 (oneField (value m)) [] (k + 1) (skip r) = .ok (fs, k', r') /\ j = hm ▸ (Sum.inr (Sum.inr fs) : J (m + 1)))) := by
 cases n with
 | zero =>
  rw [value] at e
  split at e
  ·cases e
  ·rename_i h0
   have h0' : beginE 0 k (skip r) = 0 := by simpa using h0
   refine ⟨h0', Or.inl ?_⟩
   unfold leafAt at e
   cases hl : leafE (skip r) with
   | error er => rw [hl] at e; cases e
   | ok p =>
    obtain ⟨l, r1⟩ := p
    rw [hl] at e
    cases e
    have hne : hd (skip r) ≠ 91 /\ hd (skip r) ≠ 123 := by
     unfold beginE at h0'
     split at h0'
     ·simp at h0'
     ·split at h0'
      ·simp at h0'
      ·split at h0'
       ·simp at h0'
       ·rename_i h
        exact ⟨fun e => h ⟨rfl, Or.inl e⟩, fun e => h ⟨rfl, Or.inr e⟩⟩
    exact ⟨l, hne.1, hne.2, rfl, rfl, rfl⟩
 | succ n =>
  rw [value] at e
  split at e
  ·cases e
  ·rename_i h0
   refine ⟨by simpa using h0, ?_⟩
   split at e
   ·rename_i h91
    cases hr : row 93 (oneItem (value n)) [] (k + 1) (skip r) with
    | error er => rw [hr] at e; cases e
    | ok p =>
     obtain ⟨s1, k1, r1⟩ := p
     rw [hr] at e
     cases e
     exact Or.inr (Or.inl ⟨n, rfl, s1, h91, hr, rfl⟩)
   ·rename_i h91
    split at e
    ·rename_i h123
     cases hr : row 125 (oneField (value n)) [] (k + 1) (skip r) with
     | error er => rw [hr] at e; cases e
     | ok p =>
      obtain ⟨s1, k1, r1⟩ := p
      rw [hr] at e
      cases e
      exact Or.inr (Or.inr ⟨n, rfl, s1, h123, hr, rfl⟩)
    ·rename_i h123
     unfold leafAt at e
     cases hl : leafE (skip r) with
     | error er => rw [hl] at e; cases e
     | ok p =>
      obtain ⟨l, r1⟩ := p
      rw [hl] at e
      cases e
      exact Or.inl ⟨l, h91, h123, rfl, rfl, rfl⟩
theorem value_good : ∀ (n : Nat) (k : Nat) (r : Bs) (j : J n) (k' : Nat) (r' : Bs), value n k r = .ok (j, k', r') -> Good n j
 | 0, k, r, j, k', r', e => by
  rcases (value_cases e).2 with ⟨l, _, _, hl, rfl, _⟩ | ⟨m, hm, _⟩ | ⟨m, hm, _⟩
  ·exact good_leaf (leafE_good hl)
  ·cases hm
  ·cases hm
 | n + 1, k, r, j, k', r', e => by
  rcases (value_cases e).2 with ⟨l, _, _, hl, rfl, _⟩ | ⟨m, hm, xs, _, hr, hj⟩ | ⟨m, hm, fs, _, hr, hj⟩
  ·exact good_leaf (leafE_good hl)
  ·cases hm
   subst hj
   refine row_all (one := oneItem (value n)) (P := fun s => ∀ x ∈ s, Good n x) (fun s k r s' k' r' hs ho => ?_) _ _ _ _ _ _ (fun x hx => by simp at hx) hr
   obtain ⟨v, hv, rfl⟩ := oneItem_ok ho
   intro x hx
   rcases List.mem_append.1 hx with hx | hx
   ·exact hs x hx
   ·simp at hx
    subst hx
    exact value_good n k r x k' r' hv
  ·cases hm
   subst hj
   refine row_all (one := oneField (value n)) (P := fun s => Rising s /\ ∀ f ∈ s, (∀ c ∈ f.1, meant c = true) /\ Good n f.2) (fun s k r s' k' r' hs ho => ?_) _ _ _ _ _ _ ⟨List.Pairwise.nil, fun x hx => by simp at hx⟩ hr
   obtain ⟨nm, v, r1, hn, hv, rfl⟩ := oneField_ok ho
   obtain ⟨q, hq, hany, _, _⟩ := nameE_ok hn
   refine ⟨rising_insert hs.1 nm v hany, fun f hf => ?_⟩
   rcases mem_insertAt hf with rfl | hf
   ·exact ⟨(quoted_meant hq).1, value_good n k r1 v k' r' hv⟩
   ·exact hs.2 f hf
theorem read_good {s : Bs} {j : J 10} (h : read s = .ok j) : Good 10 j := by
 unfold read at h
 split at h
 ·cases h
 ·cases hv : value 10 0 s with
  | error er => rw [hv] at h; cases h
  | ok p =>
   obtain ⟨j1, k1, r1⟩ := p
   rw [hv] at h
   simp only [] at h
   split at h
   ·cases h
    exact value_good 10 0 s j k1 r1 hv
   ·cases h
end Go.Proofs.YtjcdklbimaclkaaGreatDoor
namespace Go.Proofs.YtjcdklbimaclkaaGreatDoor
open Go.RowKit
set_option linter.unusedVariables false
set_option linter.unusedSimpArgs false
theorem maxOf_snocR : ∀ (l : List Nat) (x : Nat), maxOf (l ++ [x]) = max (maxOf l) x
 | [], x => by simp [maxOf]
 | y :: l, x => by
  have := maxOf_snocR l x
  simp only [List.cons_append, maxOf] at this ⊢
  rw [this]
  omega
theorem sum_snoc (l : List Nat) (x : Nat) : (l ++ [x]).sum = l.sum + x := by simp
theorem take_snoc {α β : Type} (f : α -> β) (l : List α) (k : Nat) (x : α) (h : l[k]? = some x) : ((l.take (k + 1)).map f) = (l.take k).map f ++ [f x] := by
 have hk : k < l.length := (List.getElem?_eq_some_iff.1 h).1
 rw [List.take_succ_eq_append_getElem hk, List.map_append]
 rw [List.getElem?_eq_getElem hk] at h
 cases h
 rfl
theorem sum_take_leR (l : List Nat) (k : Nat) : (l.take k).sum <= l.sum := by
 have := congrArg List.sum (List.take_append_drop k l)
 rw [List.sum_append] at this
 omega
theorem depth_leR : ∀ (n : Nat) (j : J n), depth n j <= n
 | 0, _ => Nat.le_refl _
 | _ + 1, Sum.inl _ => Nat.zero_le _
 | n + 1, Sum.inr (Sum.inl xs) => by
  have : ∀ l : List (J n), maxOf (l.map (depth n)) <= n := fun l => by
   induction l with
   | nil => exact Nat.zero_le _
   | cons x l ih => have := depth_leR n x; simp only [List.map_cons, maxOf]; omega
  have := this xs
  simp only [depth]
  omega
 | n + 1, Sum.inr (Sum.inr fs) => by
  have : ∀ l : List (Bs × J n), maxOf (l.map fun f => depth n f.2) <= n := fun l => by
   induction l with
   | nil => exact Nat.zero_le _
   | cons x l ih => have := depth_leR n x.2; simp only [List.map_cons, maxOf]; omega
  have := this fs
  simp only [depth]
  omega
def RSizeOK (n : Nat) : Prop := ∀ (av : Nat -> Prop) (j : J n) (v : Value) (w : World), RSt av w n j v -> nodes n j <= 1000000 -> n <= 1000 ->
 Calls Tryz.prog 35 #[v] w fun e w' => e = .returned (.tuple #[.int .i64 (nodes n j), .int .i64 (depth n j)]) /\ Below w.heap.size w w'
def ZLoop {n : Nat} (w : World) (xs : List (J n)) (h : Hd) (nm l : Value) (m d i : Value) (wr : World) : Prop :=
 ∃ k : Nat, k <= xs.length /\ i = .int .i64 k /\ m = .int .i64 ((1 + ((xs.take k).map (nodes n)).sum : Nat) : Int) /\ d = .int .i64 ((maxOf ((xs.take k).map (depth n)) : Nat) : Int) /\ Below w.heap.size w wr /\ Box wr w.heap.size h nm l
set_option maxRecDepth 100000 in
set_option maxHeartbeats 2000000 in
theorem rfsize_list (n : Nat) (ih : RSizeOK n) (av : Nat -> Prop) (xs : List (J n)) (h : Hd) (hk : h.k = 5) (pa : Option Addr) (na ca : Nat) (vl : Value) (w : World) (hL : RVals av w n xs vl) (hm : 1 + (xs.map (nodes n)).sum <= 1000000) (hn : n <= 1000) :
  Calls Tryz.prog 35 #[rfV h (.slice pa na ca) vl] w fun e w' => e = .returned (.tuple #[.int .i64 ((1 + (xs.map (nodes n)).sum : Nat) : Int), .int .i64 ((maxOf (xs.map (depth n)) + 1 : Nat) : Int)]) /\ Below w.heap.size w w' := by
 obtain ⟨pl, cl, rfl, hl1, hl2, hl3⟩ := hL.form
 unfold maxLen at hl2
 have HL3 : Hid (∀ (i : Nat) (x : J n), xs[i]? = some x -> ∃ g nm' l', pl = some ⟨g, 0, none⟩ /\ g < w.heap.size /\ Six w g (i * 6) (headJ n x) nm' l' /\ RSt av w n x (rfV (headJ n x) nm' l')) := hl3
 have HIh : Hid (RSizeOK n) := ih
 have HSm : Hid (∀ k, ((xs.take k).map (nodes n)).sum <= (xs.map (nodes n)).sum) := fun k => by rw [List.map_take]; exact sum_take_leR _ _
 have HMx : Hid (∀ l : List (J n), maxOf (l.map (depth n)) <= n) := fun l => by
  induction l with
  | nil => exact Nat.zero_le _
  | cons x l ih2 => have := depth_leR n x; simp only [List.map_cons, maxOf]; omega
 have e5 : ((h.k : Int) == 5) = true := by rw [hk]; rfl
 clear hk
 unfold rfV
 obtain ⟨w0, hw0⟩ : ∃ w0, w0 = w.alloc (.cells #[.int .i64 h.k, .bool h.b, .int .i64 h.i, .string ⟨h.s.toArray⟩, .slice pa na ca, .slice pl xs.length cl] 38) := ⟨_, rfl⟩
 have HW0 : Hid (w0 = w.alloc (.cells #[.int .i64 h.k, .bool h.b, .int .i64 h.i, .string ⟨h.s.toArray⟩, .slice pa na ca, .slice pl xs.length cl] 38)) := hw0
 have HV0 : Hid (Box w0 w.heap.size h (.slice pa na ca) (.slice pl xs.length cl)) := by show Box _ _ _ _ _; rw [hw0]; exact box_new w h _ _
 have HB0 : Hid (Below w.heap.size w w0) := by show Below _ _ _; rw [hw0]; exact (Below.refl _ _).alloc (Nat.le_refl _) _
 clear hw0 hl3 hL ih
 go_enter Tryz.func35, Tryz.ntmps35
 go_wp2
 rw [<- HW0.out]
 go_loopw [4, 5, 13] (fun m d i wr => ZLoop w xs h (.slice pa na ca) (.slice pl xs.length cl) m d i wr) (fun _ _ i _ => xs.length - (intOf i).toNat)
 case atStart => exact ⟨0, Nat.zero_le _, rfl, rfl, rfl, HB0.out, HV0.out⟩
 case round =>
  obtain ⟨k, hk, rfl, rfl, rfl, hB, hV⟩ := hrel
  have HB : Hid (Below w.heap.size w wr) := hB
  have HV : Hid (Box wr w.heap.size h (.slice pa na ca) (.slice pl xs.length cl)) := hV
  have v0 := hV.c0
  obtain ⟨ms, hms⟩ : ∃ ms, ms = 1 + ((xs.take k).map (nodes n)).sum := ⟨_, rfl⟩
  obtain ⟨ds, hds⟩ : ∃ ds, ds = maxOf ((xs.take k).map (depth n)) := ⟨_, rfl⟩
  have hmz : ms <= 1000000 := by have := HSm.out k; omega
  have hdz : ds <= 1000 := by have := HMx.out (xs.take k); omega
  have HMs : Hid (ms = 1 + ((xs.take k).map (nodes n)).sum) := hms
  have HDs : Hid (ds = maxOf ((xs.take k).map (depth n))) := hds
  rw [<- hms, <- hds]
  clear hB hV hms hds HV0 HB0 HW0
  by_cases hlt : k < xs.length
  ·obtain ⟨x, hxk⟩ : ∃ x, xs[k]? = some x := ⟨xs[k], List.getElem?_eq_getElem hlt⟩
   obtain ⟨g', nm', l', rfl, hg', h6, hst⟩ := HL3.out k x hxk
   obtain ⟨⟨p1, k1, c1, rfl⟩, p2, k2, c2, rfl⟩ := rst_sl hst
   obtain ⟨x0, x1, x2, x3, x4, x5⟩ := h6.keep (HB.out.block g' hg')
   have hnx : nodes n x <= 1000000 := by
    have h9 := HSm.out (k + 1)
    rw [take_snoc (nodes n) xs k x hxk, sum_snoc] at h9
    omega
   have hdx := depth_leR n x
   have HN1 : Hid (1 + ((xs.take (k + 1)).map (nodes n)).sum = ms + nodes n x) := by show _ = _; rw [take_snoc (nodes n) xs k x hxk, sum_snoc, HMs.out]; omega
   have HD1 : Hid (maxOf ((xs.take (k + 1)).map (depth n)) = max ds (depth n x)) := by show _ = _; rw [take_snoc (depth n) xs k x hxk, maxOf_snocR, HDs.out]
   have HCall : Hid (∀ w1, Below w.heap.size w w1 -> Calls Tryz.prog 35 #[rfV (headJ n x) (.slice p1 k1 c1) (.slice p2 k2 c2)] w1 fun e w' => e = .returned (.tuple #[.int .i64 (nodes n x), .int .i64 (depth n x)]) /\ Below w1.heap.size w1 w') := fun w1 b => HIh.out av x _ w1 (hst.below b) hnx hn
   have hkI : (k : Int) < (xs.length : Int) := by omega
   clear hst h6 hxk
   go_wp2_with fail
   have HB2 : Hid (Below w.heap.size w (wr.alloc (.cells #[.int .i64 (headJ n x).k, .bool (headJ n x).b, .int .i64 (headJ n x).i, .string ⟨(headJ n x).s.toArray⟩, .slice p1 k1 c1, .slice p2 k2 c2] 38))) := HB.out.alloc HB.out.size _
   have hc := HCall.out _ HB2.out
   unfold rfV at hc
   refine Calls.mono hc ?_
   rintro e w3 ⟨rfl, b3⟩
   have HB3 : Hid (Below w.heap.size w w3) := HB2.out.trans (b3.mono HB2.out.size)
   have HV3 : Hid (Box w3 w.heap.size h (.slice pa na ca) (.slice (some ⟨g', 0, none⟩) xs.length cl)) := (HV.out.alloc _).below b3
   clear b3 hc
   generalize nodes n x = nx at *
   generalize depth n x = dx at *
   have hs1 : (ms : Int) + (nx : Int) <= 9223372036854775807 := by omega
   go_wp2_with fail
   go_roundw
   case rel =>
    have hrelN : ZLoop w xs h (.slice pa na ca) (.slice (some ⟨g', 0, none⟩) xs.length cl) (.int .i64 ((ms : Int) + (nx : Int))) (.int .i64 (if ds < dx then (dx : Int) else (ds : Int))) (.int .i64 ((k : Int) + 1)) w3 := ⟨k + 1, by omega, by go_num, by rw [HN1.out]; congr 1, by rw [HD1.out]; congr 1; split <;> omega, HB3.out, HV3.out⟩
    first | exact hrelN | ((repeat apply Exists.intro); refine ⟨hrelN, ?_⟩; first | rfl | exact ⟨rfl, rfl⟩ | exact ⟨rfl, rfl, rfl⟩ | exact ⟨rfl, rfl, rfl, rfl⟩ | exact ⟨rfl, rfl, rfl, rfl, rfl⟩)
   case measure => (simp [intOf]; omega)
  ·have HM1 : Hid (1 + (xs.map (nodes n)).sum = ms) := by show _ = _; rw [HMs.out, List.take_of_length_le (by omega)]
   have HD1 : Hid (maxOf (xs.map (depth n)) = ds) := by show _ = _; rw [HDs.out, List.take_of_length_le (by omega)]
   go_wp2_with fail
   go_ret2
   exact ⟨by rw [HM1.out, HD1.out]; rfl, HB.out⟩
set_option maxRecDepth 100000 in
set_option maxHeartbeats 2000000 in
theorem rfsize_obj (n : Nat) (ih : RSizeOK n) (av : Nat -> Prop) (xs : List (J n)) (h : Hd) (hk : h.k = 6) (pa : Option Addr) (na ca : Nat) (vl : Value) (w : World) (hL : RVals av w n xs vl) (hm : 1 + (xs.map (nodes n)).sum <= 1000000) (hn : n <= 1000) :
  Calls Tryz.prog 35 #[rfV h (.slice pa na ca) vl] w fun e w' => e = .returned (.tuple #[.int .i64 ((1 + (xs.map (nodes n)).sum : Nat) : Int), .int .i64 ((maxOf (xs.map (depth n)) + 1 : Nat) : Int)]) /\ Below w.heap.size w w' := by
 obtain ⟨pl, cl, rfl, hl1, hl2, hl3⟩ := hL.form
 unfold maxLen at hl2
 have HL3 : Hid (∀ (i : Nat) (x : J n), xs[i]? = some x -> ∃ g nm' l', pl = some ⟨g, 0, none⟩ /\ g < w.heap.size /\ Six w g (i * 6) (headJ n x) nm' l' /\ RSt av w n x (rfV (headJ n x) nm' l')) := hl3
 have HIh : Hid (RSizeOK n) := ih
 have HSm : Hid (∀ k, ((xs.take k).map (nodes n)).sum <= (xs.map (nodes n)).sum) := fun k => by rw [List.map_take]; exact sum_take_leR _ _
 have HMx : Hid (∀ l : List (J n), maxOf (l.map (depth n)) <= n) := fun l => by
  induction l with
  | nil => exact Nat.zero_le _
  | cons x l ih2 => have := depth_leR n x; simp only [List.map_cons, maxOf]; omega
 have e5 : ((h.k : Int) == 5) = false := by rw [hk]; rfl
 have e6 : ((h.k : Int) == 6) = true := by rw [hk]; rfl
 clear hk
 unfold rfV
 obtain ⟨w0, hw0⟩ : ∃ w0, w0 = w.alloc (.cells #[.int .i64 h.k, .bool h.b, .int .i64 h.i, .string ⟨h.s.toArray⟩, .slice pa na ca, .slice pl xs.length cl] 38) := ⟨_, rfl⟩
 have HW0 : Hid (w0 = w.alloc (.cells #[.int .i64 h.k, .bool h.b, .int .i64 h.i, .string ⟨h.s.toArray⟩, .slice pa na ca, .slice pl xs.length cl] 38)) := hw0
 have HV0 : Hid (Box w0 w.heap.size h (.slice pa na ca) (.slice pl xs.length cl)) := by show Box _ _ _ _ _; rw [hw0]; exact box_new w h _ _
 have HB0 : Hid (Below w.heap.size w w0) := by show Below _ _ _; rw [hw0]; exact (Below.refl _ _).alloc (Nat.le_refl _) _
 clear hw0 hl3 hL ih
 go_enter Tryz.func35, Tryz.ntmps35
 go_wp2
 rw [<- HW0.out]
 go_loopw [4, 5, 13] (fun m d i wr => ZLoop w xs h (.slice pa na ca) (.slice pl xs.length cl) m d i wr) (fun _ _ i _ => xs.length - (intOf i).toNat)
 case atStart => exact ⟨0, Nat.zero_le _, rfl, rfl, rfl, HB0.out, HV0.out⟩
 case round =>
  obtain ⟨k, hk, rfl, rfl, rfl, hB, hV⟩ := hrel
  have HB : Hid (Below w.heap.size w wr) := hB
  have HV : Hid (Box wr w.heap.size h (.slice pa na ca) (.slice pl xs.length cl)) := hV
  have v0 := hV.c0
  obtain ⟨ms, hms⟩ : ∃ ms, ms = 1 + ((xs.take k).map (nodes n)).sum := ⟨_, rfl⟩
  obtain ⟨ds, hds⟩ : ∃ ds, ds = maxOf ((xs.take k).map (depth n)) := ⟨_, rfl⟩
  have hmz : ms <= 1000000 := by have := HSm.out k; omega
  have hdz : ds <= 1000 := by have := HMx.out (xs.take k); omega
  have HMs : Hid (ms = 1 + ((xs.take k).map (nodes n)).sum) := hms
  have HDs : Hid (ds = maxOf ((xs.take k).map (depth n))) := hds
  rw [<- hms, <- hds]
  clear hB hV hms hds HV0 HB0 HW0
  by_cases hlt : k < xs.length
  ·obtain ⟨x, hxk⟩ : ∃ x, xs[k]? = some x := ⟨xs[k], List.getElem?_eq_getElem hlt⟩
   obtain ⟨g', nm', l', rfl, hg', h6, hst⟩ := HL3.out k x hxk
   obtain ⟨⟨p1, k1, c1, rfl⟩, p2, k2, c2, rfl⟩ := rst_sl hst
   obtain ⟨x0, x1, x2, x3, x4, x5⟩ := h6.keep (HB.out.block g' hg')
   have hnx : nodes n x <= 1000000 := by
    have h9 := HSm.out (k + 1)
    rw [take_snoc (nodes n) xs k x hxk, sum_snoc] at h9
    omega
   have hdx := depth_leR n x
   have HN1 : Hid (1 + ((xs.take (k + 1)).map (nodes n)).sum = ms + nodes n x) := by show _ = _; rw [take_snoc (nodes n) xs k x hxk, sum_snoc, HMs.out]; omega
   have HD1 : Hid (maxOf ((xs.take (k + 1)).map (depth n)) = max ds (depth n x)) := by show _ = _; rw [take_snoc (depth n) xs k x hxk, maxOf_snocR, HDs.out]
   have HCall : Hid (∀ w1, Below w.heap.size w w1 -> Calls Tryz.prog 35 #[rfV (headJ n x) (.slice p1 k1 c1) (.slice p2 k2 c2)] w1 fun e w' => e = .returned (.tuple #[.int .i64 (nodes n x), .int .i64 (depth n x)]) /\ Below w1.heap.size w1 w') := fun w1 b => HIh.out av x _ w1 (hst.below b) hnx hn
   have hkI : (k : Int) < (xs.length : Int) := by omega
   clear hst h6 hxk
   go_wp2_with fail
   have HB2 : Hid (Below w.heap.size w (wr.alloc (.cells #[.int .i64 (headJ n x).k, .bool (headJ n x).b, .int .i64 (headJ n x).i, .string ⟨(headJ n x).s.toArray⟩, .slice p1 k1 c1, .slice p2 k2 c2] 38))) := HB.out.alloc HB.out.size _
   have hc := HCall.out _ HB2.out
   unfold rfV at hc
   refine Calls.mono hc ?_
   rintro e w3 ⟨rfl, b3⟩
   have HB3 : Hid (Below w.heap.size w w3) := HB2.out.trans (b3.mono HB2.out.size)
   have HV3 : Hid (Box w3 w.heap.size h (.slice pa na ca) (.slice (some ⟨g', 0, none⟩) xs.length cl)) := (HV.out.alloc _).below b3
   clear b3 hc
   generalize nodes n x = nx at *
   generalize depth n x = dx at *
   have hs1 : (ms : Int) + (nx : Int) <= 9223372036854775807 := by omega
   go_wp2_with fail
   go_roundw
   case rel =>
    have hrelN : ZLoop w xs h (.slice pa na ca) (.slice (some ⟨g', 0, none⟩) xs.length cl) (.int .i64 ((ms : Int) + (nx : Int))) (.int .i64 (if ds < dx then (dx : Int) else (ds : Int))) (.int .i64 ((k : Int) + 1)) w3 := ⟨k + 1, by omega, by go_num, by rw [HN1.out]; congr 1, by rw [HD1.out]; congr 1; split <;> omega, HB3.out, HV3.out⟩
    first | exact hrelN | ((repeat apply Exists.intro); refine ⟨hrelN, ?_⟩; first | rfl | exact ⟨rfl, rfl⟩ | exact ⟨rfl, rfl, rfl⟩ | exact ⟨rfl, rfl, rfl, rfl⟩ | exact ⟨rfl, rfl, rfl, rfl, rfl⟩)
   case measure => (simp [intOf]; omega)
  ·have HM1 : Hid (1 + (xs.map (nodes n)).sum = ms) := by show _ = _; rw [HMs.out, List.take_of_length_le (by omega)]
   have HD1 : Hid (maxOf (xs.map (depth n)) = ds) := by show _ = _; rw [HDs.out, List.take_of_length_le (by omega)]
   go_wp2_with fail
   go_ret2
   exact ⟨by rw [HM1.out, HD1.out]; rfl, HB.out⟩
set_option maxRecDepth 100000 in
set_option maxHeartbeats 2000000 in
theorem rfsize_leaf (n : Nat) (ih : RSizeOK n) (av : Nat -> Prop) (xs : List (J n)) (h : Hd) (hk : h.k ≠ 5) (hk2 : h.k ≠ 6) (pa : Option Addr) (na ca : Nat) (vl : Value) (w : World) (hL : RVals av w n xs vl) (hm : 1 + (xs.map (nodes n)).sum <= 1000000) (hn : n <= 1000) :
  Calls Tryz.prog 35 #[rfV h (.slice pa na ca) vl] w fun e w' => e = .returned (.tuple #[.int .i64 ((1 + (xs.map (nodes n)).sum : Nat) : Int), .int .i64 ((maxOf (xs.map (depth n)) + 0 : Nat) : Int)]) /\ Below w.heap.size w w' := by
 obtain ⟨pl, cl, rfl, hl1, hl2, hl3⟩ := hL.form
 unfold maxLen at hl2
 have HL3 : Hid (∀ (i : Nat) (x : J n), xs[i]? = some x -> ∃ g nm' l', pl = some ⟨g, 0, none⟩ /\ g < w.heap.size /\ Six w g (i * 6) (headJ n x) nm' l' /\ RSt av w n x (rfV (headJ n x) nm' l')) := hl3
 have HIh : Hid (RSizeOK n) := ih
 have HSm : Hid (∀ k, ((xs.take k).map (nodes n)).sum <= (xs.map (nodes n)).sum) := fun k => by rw [List.map_take]; exact sum_take_leR _ _
 have HMx : Hid (∀ l : List (J n), maxOf (l.map (depth n)) <= n) := fun l => by
  induction l with
  | nil => exact Nat.zero_le _
  | cons x l ih2 => have := depth_leR n x; simp only [List.map_cons, maxOf]; omega
 have e5 : ((h.k : Int) == 5) = false := by rw [beq_eq_false_iff_ne]; omega
 have e6 : ((h.k : Int) == 6) = false := by rw [beq_eq_false_iff_ne]; omega
 clear hk hk2
 unfold rfV
 obtain ⟨w0, hw0⟩ : ∃ w0, w0 = w.alloc (.cells #[.int .i64 h.k, .bool h.b, .int .i64 h.i, .string ⟨h.s.toArray⟩, .slice pa na ca, .slice pl xs.length cl] 38) := ⟨_, rfl⟩
 have HW0 : Hid (w0 = w.alloc (.cells #[.int .i64 h.k, .bool h.b, .int .i64 h.i, .string ⟨h.s.toArray⟩, .slice pa na ca, .slice pl xs.length cl] 38)) := hw0
 have HV0 : Hid (Box w0 w.heap.size h (.slice pa na ca) (.slice pl xs.length cl)) := by show Box _ _ _ _ _; rw [hw0]; exact box_new w h _ _
 have HB0 : Hid (Below w.heap.size w w0) := by show Below _ _ _; rw [hw0]; exact (Below.refl _ _).alloc (Nat.le_refl _) _
 clear hw0 hl3 hL ih
 go_enter Tryz.func35, Tryz.ntmps35
 go_wp2
 rw [<- HW0.out]
 go_loopw [4, 5, 13] (fun m d i wr => ZLoop w xs h (.slice pa na ca) (.slice pl xs.length cl) m d i wr) (fun _ _ i _ => xs.length - (intOf i).toNat)
 case atStart => exact ⟨0, Nat.zero_le _, rfl, rfl, rfl, HB0.out, HV0.out⟩
 case round =>
  obtain ⟨k, hk, rfl, rfl, rfl, hB, hV⟩ := hrel
  have HB : Hid (Below w.heap.size w wr) := hB
  have HV : Hid (Box wr w.heap.size h (.slice pa na ca) (.slice pl xs.length cl)) := hV
  have v0 := hV.c0
  obtain ⟨ms, hms⟩ : ∃ ms, ms = 1 + ((xs.take k).map (nodes n)).sum := ⟨_, rfl⟩
  obtain ⟨ds, hds⟩ : ∃ ds, ds = maxOf ((xs.take k).map (depth n)) := ⟨_, rfl⟩
  have hmz : ms <= 1000000 := by have := HSm.out k; omega
  have hdz : ds <= 1000 := by have := HMx.out (xs.take k); omega
  have HMs : Hid (ms = 1 + ((xs.take k).map (nodes n)).sum) := hms
  have HDs : Hid (ds = maxOf ((xs.take k).map (depth n))) := hds
  rw [<- hms, <- hds]
  clear hB hV hms hds HV0 HB0 HW0
  by_cases hlt : k < xs.length
  ·obtain ⟨x, hxk⟩ : ∃ x, xs[k]? = some x := ⟨xs[k], List.getElem?_eq_getElem hlt⟩
   obtain ⟨g', nm', l', rfl, hg', h6, hst⟩ := HL3.out k x hxk
   obtain ⟨⟨p1, k1, c1, rfl⟩, p2, k2, c2, rfl⟩ := rst_sl hst
   obtain ⟨x0, x1, x2, x3, x4, x5⟩ := h6.keep (HB.out.block g' hg')
   have hnx : nodes n x <= 1000000 := by
    have h9 := HSm.out (k + 1)
    rw [take_snoc (nodes n) xs k x hxk, sum_snoc] at h9
    omega
   have hdx := depth_leR n x
   have HN1 : Hid (1 + ((xs.take (k + 1)).map (nodes n)).sum = ms + nodes n x) := by show _ = _; rw [take_snoc (nodes n) xs k x hxk, sum_snoc, HMs.out]; omega
   have HD1 : Hid (maxOf ((xs.take (k + 1)).map (depth n)) = max ds (depth n x)) := by show _ = _; rw [take_snoc (depth n) xs k x hxk, maxOf_snocR, HDs.out]
   have HCall : Hid (∀ w1, Below w.heap.size w w1 -> Calls Tryz.prog 35 #[rfV (headJ n x) (.slice p1 k1 c1) (.slice p2 k2 c2)] w1 fun e w' => e = .returned (.tuple #[.int .i64 (nodes n x), .int .i64 (depth n x)]) /\ Below w1.heap.size w1 w') := fun w1 b => HIh.out av x _ w1 (hst.below b) hnx hn
   have hkI : (k : Int) < (xs.length : Int) := by omega
   clear hst h6 hxk
   go_wp2_with fail
   have HB2 : Hid (Below w.heap.size w (wr.alloc (.cells #[.int .i64 (headJ n x).k, .bool (headJ n x).b, .int .i64 (headJ n x).i, .string ⟨(headJ n x).s.toArray⟩, .slice p1 k1 c1, .slice p2 k2 c2] 38))) := HB.out.alloc HB.out.size _
   have hc := HCall.out _ HB2.out
   unfold rfV at hc
   refine Calls.mono hc ?_
   rintro e w3 ⟨rfl, b3⟩
   have HB3 : Hid (Below w.heap.size w w3) := HB2.out.trans (b3.mono HB2.out.size)
   have HV3 : Hid (Box w3 w.heap.size h (.slice pa na ca) (.slice (some ⟨g', 0, none⟩) xs.length cl)) := (HV.out.alloc _).below b3
   clear b3 hc
   generalize nodes n x = nx at *
   generalize depth n x = dx at *
   have hs1 : (ms : Int) + (nx : Int) <= 9223372036854775807 := by omega
   go_wp2_with fail
   go_roundw
   case rel =>
    have hrelN : ZLoop w xs h (.slice pa na ca) (.slice (some ⟨g', 0, none⟩) xs.length cl) (.int .i64 ((ms : Int) + (nx : Int))) (.int .i64 (if ds < dx then (dx : Int) else (ds : Int))) (.int .i64 ((k : Int) + 1)) w3 := ⟨k + 1, by omega, by go_num, by rw [HN1.out]; congr 1, by rw [HD1.out]; congr 1; split <;> omega, HB3.out, HV3.out⟩
    first | exact hrelN | ((repeat apply Exists.intro); refine ⟨hrelN, ?_⟩; first | rfl | exact ⟨rfl, rfl⟩ | exact ⟨rfl, rfl, rfl⟩ | exact ⟨rfl, rfl, rfl, rfl⟩ | exact ⟨rfl, rfl, rfl, rfl, rfl⟩)
   case measure => (simp [intOf]; omega)
  ·have HM1 : Hid (1 + (xs.map (nodes n)).sum = ms) := by show _ = _; rw [HMs.out, List.take_of_length_le (by omega)]
   have HD1 : Hid (maxOf (xs.map (depth n)) = ds) := by show _ = _; rw [HDs.out, List.take_of_length_le (by omega)]
   go_wp2_with fail
   go_ret2
   exact ⟨by rw [HM1.out, HD1.out]; rfl, HB.out⟩
set_option maxRecDepth 100000 in
set_option maxHeartbeats 2000000 in
theorem rfsize_none (w : World) (h : Hd) (hk : h.k ≠ 5) (hk2 : h.k ≠ 6) : Calls Tryz.prog 35 #[rfV h (.slice none 0 0) (.slice none 0 0)] w fun e w' => e = .returned (.tuple #[.int .i64 ((1 : Nat) : Int), .int .i64 ((0 : Nat) : Int)]) /\ Below w.heap.size w w' := by
 have e5 : ((h.k : Int) == 5) = false := by rw [beq_eq_false_iff_ne]; omega
 have e6 : ((h.k : Int) == 6) = false := by rw [beq_eq_false_iff_ne]; omega
 clear hk hk2
 unfold rfV
 go_enter Tryz.func35, Tryz.ntmps35
 go_wp2
 go_loopw [4, 5, 13] (fun m d i wr => m = .int .i64 1 /\ d = .int .i64 0 /\ i = .int .i64 0 /\ wr = w.alloc (.cells #[.int .i64 h.k, .bool h.b, .int .i64 h.i, .string ⟨h.s.toArray⟩, .slice none 0 0, .slice none 0 0] 38)) (fun _ _ _ _ => 0)
 case atStart => exact ⟨rfl, rfl, rfl, rfl⟩
 case round =>
  obtain ⟨rfl, rfl, rfl, rfl⟩ := hrel
  go_wp2_with fail
  go_ret2
  exact ⟨rfl, (Below.refl _ _).alloc (Nat.le_refl _) _⟩
theorem rfsize_ok : ∀ n : Nat, RSizeOK n
 | 0, av, l, v, w, h, hm, hn => by
  have e : v = rfV (headL l) (.slice none 0 0) (.slice none 0 0) := h
  subst e
  have hk : (headL l).k ≠ 5 /\ (headL l).k ≠ 6 := by rcases l with _ | b | i | s <;> simp [headL]
  have hz : RSizeOK 0 -> True := fun _ => trivial
  exact rfsize_none w (headL l) hk.1 hk.2
 | n + 1, av, Sum.inl l, v, w, h, hm, hn => by
  obtain ⟨nm, lv, rfl, h1, h2⟩ := h.open
  obtain ⟨p, c, rfl, _⟩ := h1.form
  have hk : (headL l).k ≠ 5 /\ (headL l).k ≠ 6 := by rcases l with _ | b | i | s <;> simp [headL]
  exact rfsize_leaf n (rfsize_ok n) av [] (headL l) hk.1 hk.2 p _ c lv w h2 (by simp) (by omega)
 | n + 1, av, Sum.inr (Sum.inl xs), v, w, h, hm, hn => by
  obtain ⟨nm, lv, rfl, h1, h2⟩ := h.open
  obtain ⟨p, c, rfl, _⟩ := h1.form
  have h9 := rfsize_list n (rfsize_ok n) av xs ⟨5, false, 0, []⟩ rfl p (namesJ (n := n) (Sum.inr (Sum.inl xs))).length c lv w h2 (by simpa only [nodes] using hm) (by omega)
  refine h9.mono ?_
  rintro e w1 ⟨rfl, b⟩
  exact ⟨by simp only [nodes, depth, Nat.add_comm], b⟩
 | n + 1, av, Sum.inr (Sum.inr fs), v, w, h, hm, hn => by
  obtain ⟨nm, lv, rfl, h1, h2⟩ := h.open
  obtain ⟨p, c, rfl, _⟩ := h1.form
  have e1 : ((fs.map fun f => f.2).map (nodes n)) = fs.map fun f => nodes n f.2 := by rw [List.map_map]; rfl
  have e2 : ((fs.map fun f => f.2).map (depth n)) = fs.map fun f => depth n f.2 := by rw [List.map_map]; rfl
  have hm1 : 1 + (fs.map fun f => nodes n f.2).sum <= 1000000 := by simpa only [nodes] using hm
  have hm2 : 1 + ((fs.map fun f => f.2).map (nodes n)).sum <= 1000000 := by rw [e1]; exact hm1
  have h9 := rfsize_obj n (rfsize_ok n) av (List.map (fun f : Bs × J n => f.2) fs) ⟨6, false, 0, []⟩ rfl p (namesJ (n := n) (Sum.inr (Sum.inr fs))).length c lv w h2 hm2 (by omega)
  rw [e1, e2] at h9
  refine h9.mono ?_
  rintro e w1 ⟨rfl, b⟩
  exact ⟨by simp only [nodes, depth, Nat.add_comm], b⟩
end Go.Proofs.YtjcdklbimaclkaaGreatDoor
namespace Go.Proofs.YtjcdklbimaclkaaGreatDoor
set_option linter.unusedVariables false
set_option linter.unusedSimpArgs false
section
variable {P : Program} {ops : Array Oper} {Q : Exit -> Act -> World -> Prop} {md : Region.Mode} {S : World -> Prop} {n : Nat}
def wpM (P : Program) (md : Region.Mode) (ops : Array Oper) (Q : Exit -> Act -> World -> Prop) (S : World -> Prop) (n : Nat) : Nat -> Array Bool -> Act -> World -> Prop
 | 0, listed, a, w => Region.ready md ops listed = [] /\ Q .normal a w
 | fuel + 1, listed, a, w =>
  (Region.ready md ops listed = [] -> Q .normal a w) /\
  ∀ i ∈ Region.ready md ops listed, wpOp P ops Q i (fun a' w' => (i < n -> S w') /\ wpM P md ops Q S n fuel (listed.setIfInBounds i true) a' w') a w
theorem any_of_M : ∀ (fuel : Nat) (listed : Array Bool) (a : Act) (w : World), wpM P md ops Q S n fuel listed a w -> wpAny P md ops Q fuel listed a w
 | 0, _, _, _, h => h
 | fuel + 1, _, _, _, h => ⟨h.1, fun i hi => wpOp_mono (fun a' w' h' => any_of_M fuel _ a' w' h'.2) (h.2 i hi)⟩
theorem M_of_any (hn : ∀ (listed' : Array Bool) (i : Nat), i ∈ Region.ready md ops listed' -> (∀ t, t < n -> listed'.getD t true = true) -> n <= i) : ∀ (fuel : Nat) (listed : Array Bool) (a : Act) (w : World), (∀ t, t < n -> listed.getD t true = true) -> wpAny P md ops Q fuel listed a w -> wpM P md ops Q S n fuel listed a w
 | 0, _, _, _, _, h => h
 | fuel + 1, listed, _, _, hl, h => ⟨h.1, fun i hi => wpOp_mono (fun a' w' h' => ⟨fun hlt => by have := hn _ i hi hl; omega, M_of_any hn fuel _ a' w' (fun t ht => by
   have h1 := hn _ i hi hl
   rw [getD_set_ne true (by omega)]
   exact hl t ht) h'⟩) (h.2 i hi)⟩
theorem M_first {i : Nat} {oi : Oper} {v : Value} (hi : ops[i]? = some oi) (hsel : ∀ (j : Nat) (o : Oper) cs b, ops[j]? = some o -> o.op ≠ .select cs b)
  (hQ : ∀ c a w, Q (.panic c) (a.put oi.dst v) w -> Q (.panic c) a w) (hs : Region.sinkB md ops n = true) (hc : Region.chainB md ops n = true) (hn : n < ops.size) (hin : i < n) :
  ∀ (fuel : Nat) (listed : Array Bool) (a : Act) (w : World), HeadInv md ops n listed ->
   (∀ j oj, ops[j]? = some oj -> j ≠ i -> listed.getD j true = false -> (∀ e ∈ oj.after, Region.binds md e = true -> e.on ≠ i) -> oi.apart ops oj = true) ->
   i ∈ Region.ready md ops listed -> YieldsIf P ops S oi v a -> S w ->
   wpM P md ops Q S n fuel (listed.setIfInBounds i true) (a.put oi.dst v) w -> wpM P md ops Q S n (fuel + 1) listed a w := by
 intro fuel
 induction fuel with
 | zero =>
  intro listed a w _ _ hr hy hS H
  refine ⟨fun h => (by rw [h] at hr; cases hr), fun j hj => ?_⟩
  by_cases hji : j = i
  ·subst hji; exact hy.wpOp hi hS ⟨fun _ => hS, H⟩
  ·have := ready_mono hj hji
   rw [H.1] at this
   cases this
 | succ fuel ih =>
  intro listed a w inv hfree hr hy hS H
  refine ⟨fun h => (by rw [h] at hr; cases hr), fun j hj => ?_⟩
  by_cases hji : j = i
  ·subst hji; exact hy.wpOp hi hS ⟨fun _ => hS, H⟩
  ·have h1 := H.2 j (ready_mono hj hji)
   have hjn : j < n := by
    rcases Nat.lt_or_ge j n with h | h
    ·exact h
    ·exact absurd hj (tail_waits hs hc hn inv (n - i) i rfl hin (mem_ready.1 hr).1 j h)
   obtain ⟨hjun, oj, hoj, hall⟩ := mem_ready.1 hj
   have hnot : ∀ e ∈ oj.after, Region.binds md e = true -> e.on ≠ i := fun e he hb heq => by
    have h1 := hall e he hb
    have h0 := getD_both (mem_ready.1 hr).1
    rw [heq, h0] at h1
    cases h1
   have h2 := wpOp_putIf hoj (hfree j oj hoj hji hjun hnot) (fun cs b => hsel i oi cs b hi) (fun cs b => hsel j oj cs b hoj) hQ hy h1
   have hfree' : ∀ k ok, ops[k]? = some ok -> k ≠ i -> (listed.setIfInBounds j true).getD k true = false ->
     (∀ e ∈ ok.after, Region.binds md e = true -> e.on ≠ i) -> oi.apart ops ok = true := fun k ok hk hki hun hno => by
    refine hfree k ok hk hki ?_ hno
    by_cases hjk : j = k
    ·subst hjk; exact hjun
    ·rw [getD_set_ne true hjk] at hun; exact hun
   refine wpOp_mono (fun a' w' h3 => ⟨h3.2.1, ih (listed.setIfInBounds j true) a' w' (inv.set hj hjn) hfree' (ready_mono hr (Ne.symm hji)) h3.1 (h3.2.1 hjn) ?_⟩) h2
   rw [Array.setIfInBounds_comm _ _ hji]
   exact h3.2.2
def headB (md : Region.Mode) (ops : Array Oper) (n : Nat) (listed : Array Bool) : Bool :=
 decide (listed.size = ops.size) && ((List.range ops.size).all (fun j => !listed.getD j false || ((ops[j]?).map (fun o => o.after.all fun e => !Region.binds md e || listed.getD e.on false)).getD true) && (List.range ops.size).all (fun t => decide (t < n) || !listed.getD t true))
theorem headB_spec {listed : Array Bool} (h : headB md ops n listed = true) : HeadInv md ops n listed := by
 unfold headB at h
 rw [Bool.and_eq_true, Bool.and_eq_true, decide_eq_true_iff, List.all_eq_true, List.all_eq_true] at h
 obtain ⟨h0, h1, h2⟩ := h
 refine ⟨h0, fun j oj hj hl e he hb => ?_, fun t ht ht' => ?_⟩
 ·have h3 := h1 j (List.mem_range.2 (Array.getElem?_eq_some_iff.1 hj).1)
  rw [hl, hj] at h3
  simp only [Bool.not_true, Bool.false_or, Option.map_some, Option.getD_some, Array.all_eq_true_iff_forall_mem] at h3
  have h4 := h3 e he
  rw [hb] at h4
  simpa using h4
 ·have h3 := h2 t (List.mem_range.2 ht')
  rw [Bool.or_eq_true, decide_eq_true_iff] at h3
  rcases h3 with h3 | h3
  ·omega
  ·simpa using h3
theorem M_take (i : Nat) {oi : Oper} {v : Value} {fuel : Nat} {listed : Array Bool} {a : Act} {w : World} (hi : ops[i]? = some oi)
  (hs : Region.noSelect ops = true) (hf : Region.free md ops listed i = true) (hr : (Region.ready md ops listed).contains i = true) (hk : Region.sinkB md ops n = true) (hc : Region.chainB md ops n = true) (hn : n < ops.size) (hin : i < n) (hh : headB md ops n listed = true)
  (hQ : ∀ c a w, Q (.panic c) (a.put oi.dst v) w -> Q (.panic c) a w) (hS : S w) (hy : YieldsIf P ops S oi v a)
  (h : wpM P md ops Q S n fuel (listed.setIfInBounds i true) (a.put oi.dst v) w) : wpM P md ops Q S n (fuel + 1) listed a w :=
 M_first hi (Region.noSelect_spec hs) hQ hk hc hn hin fuel listed a w (headB_spec hh) (Region.free_spec hi hf) (by simpa using hr) hy hS h
theorem M_takeA (i : Nat) {oi : Oper} {v : Value} {fuel : Nat} {listed : Array Bool} {a : Act} {w : World} (hi : ops[i]? = some oi) (hS : S w) (hy : YieldsIf P ops S oi v a)
  (h : wpM P md ops Q S n fuel (listed.setIfInBounds i true) (a.put oi.dst v) w) (hs : Region.noSelect ops = true := by kernel_rfl) (hf : Region.free md ops listed i = true := by kernel_rfl) (hr : (Region.ready md ops listed).contains i = true := by kernel_rfl) (hk : Region.sinkB md ops n = true := by kernel_rfl) (hc : Region.chainB md ops n = true := by kernel_rfl) (hn : n < ops.size := by decide) (hin : i < n := by decide) (hh : headB md ops n listed = true := by kernel_rfl)
  (hQ : ∀ c a w, Q (.panic c) (a.put oi.dst v) w -> Q (.panic c) a w := by exact fun _ _ _ h => h) : wpM P md ops Q S n (fuel + 1) listed a w := M_take i hi hs hf hr hk hc hn hin hh hQ hS hy h
def AllM (P : Program) (md : Region.Mode) (ops : Array Oper) (Q : Exit -> Act -> World -> Prop) (S : World -> Prop) (n fuel : Nat) (listed : Array Bool) (a : Act) (w : World) (rs : List Nat) : Prop :=
 ∀ i ∈ rs, wpOp P ops Q i (fun a' w' => (i < n -> S w') /\ wpM P md ops Q S n fuel (listed.setIfInBounds i true) a' w') a w
theorem AllM.nil {fuel : Nat} {listed : Array Bool} {a : Act} {w : World} : AllM P md ops Q S n fuel listed a w [] := fun _ h => by cases h
theorem AllM.cons {fuel : Nat} {listed : Array Bool} {a : Act} {w : World} {i : Nat} {o : Oper} {rs : List Nat} (ho : ops[i]? = some o)
  (h : ∀ K' : Act -> World -> Prop, Shut (∀ a w, S w -> (S w -> wpM P md ops Q S n fuel (listed.setIfInBounds i true) a w) -> K' a w) -> if Region.wanted o (yielded ops a.tmps) = true then Oper.wp P o a w K' Q else K' (a.put o.dst undef) w)
  (hs : AllM P md ops Q S n fuel listed a w rs) : AllM P md ops Q S n fuel listed a w (i :: rs) := fun j hj => by
 rcases List.mem_cons.1 hj with rfl | hj
 ·exact wpOp_step ho (fun K' hK => h K' (fun a w hS hW => hK a w ⟨fun _ => hS, hW hS⟩))
 ·exact hs j hj
theorem M_ready (rs : List Nat) {fuel : Nat} {listed : Array Bool} {a : Act} {w : World} (hr : Region.ready md ops listed = rs) (hne : rs ≠ []) (h : AllM P md ops Q S n fuel listed a w rs) : wpM P md ops Q S n (fuel + 1) listed a w :=
 ⟨fun h0 => absurd (hr ▸ h0) hne, hr ▸ h⟩
theorem M_tail (l : List Oper) {listed : Array Bool} {a : Act} {w : World} (hl' : ops.toList.drop n = l) (hB : Region.seqB md ops l.length n listed = true) (hall : (List.range n).all (fun t => listed.getD t true) = true)
  (h : wpList P ops Q l a w) : wpM P md ops Q S n l.length listed a w := by
 have hl : ∀ j, l[j]? = ops[n + j]? := fun j => by rw [<- hl', List.getElem?_drop, Array.getElem?_toList]
 refine M_of_any (fun listed' i hi hd => ?_) _ _ _ _ (fun t ht => List.all_eq_true.1 hall t (List.mem_range.2 ht)) (wpAny_of_seq l n listed a w hl hB h)
 rcases Nat.lt_or_ge i n with h | h
 ·have := (mem_ready.1 hi).1
  rw [hd i h] at this
  cases this
 ·exact h
theorem M_begin {id : Nat} {a : Act} {w : World} (n sz : Nat) (S : World -> Prop) (hm : P.follows .mixedOrders = true) (hz : ops.size = sz)
  (h : wpM P .any ops Q S n sz (Array.replicate sz false) a w.drew) : (Code.region id ops true).wp P Q a w :=
 wp_region_any hm (any_of_M _ _ _ _ (by rw [hz]; exact h))
end
end Go.Proofs.YtjcdklbimaclkaaGreatDoor
