/- What the reference's Set gathers, and where it lies: plain facts on worlds. -/
import Derived.Test.YtaogilpkeeigoaaGreatDoorRfFind
import Derived.Test.YtaogilpkeeigoaaGreatDoorRfRows
namespace Go.Proofs.YtaogilpkeeigoaaGreatDoor
open Go.RowKit
set_option linter.unusedVariables false
set_option linter.unusedSimpArgs false
/-- what is known of the answer of Set -/
def SetPost (av : Nat → Prop) {n : Nat} (fs : List (Bs × J n)) (nm : Bs) (j : J n) (w : World) (e : Ending) (w' : World) : Prop :=
  Below w.heap.size w w' ∧ ∃ vn vl, e = .returned (rfV ⟨6, false, 0, []⟩ vn vl) ∧ RStrs av w' ((setF fs nm j).map fun f => f.1) vn ∧ RVals av w' n ((setF fs nm j).map fun f => f.2) vl
theorem less_bytes' : ∀ (a b : Bs), Op.bytesLess a b = less a b
  | [], [] => by simp [Op.bytesLess, less, Lib.compareBytes]
  | [], _ :: _ => by simp [Op.bytesLess, less, Lib.compareBytes]
  | _ :: _, [] => by simp [Op.bytesLess, less, Lib.compareBytes]
  | x :: a, y :: b => by
    have ih := less_bytes' a b
    simp only [Op.bytesLess, less, Lib.compareBytes] at ih ⊢
    by_cases h1 : x < y
    · simp [h1]
    · by_cases h2 : y < x
      · have h3 : (x == y) = false := by
          rw [beq_eq_false_iff_ne]
          rintro rfl
          exact h1 h2
        simp [h1, h2, h3]
      · have h3 : x = y := UInt8.le_antisymm (UInt8.not_lt.1 h2) (UInt8.not_lt.1 h1)
        subst h3
        simp [ih]
theorem cell_alloc_old {w : World} {o : Obj} {a : Addr} {v : Value} (h : w.cell? a = some v) : (w.alloc o).cell? a = some v :=
  (World.cell?_of_block (w := w) (w' := w.alloc o) (a := a) (Below.heap_alloc w o a.block (World.block_lt_of_cell? w _ h))).trans h
theorem cell_grown_old {w w' : World} {row : Option Nat} {a : Addr} {v : Value} (hg : w.grownBy w' row) (h : w.cell? a = some v) (hne : some a.block ≠ row) : w'.cell? a = some v :=
  (hg.cell_far a (World.block_lt_of_cell? w _ h) hne).trans h
/-- what has been gathered on the way, and where it lies -/
structure SetAt (av : Nat → Prop) {n : Nat} (w : World) (B : Nat) (pn pl : Option Addr) (fl cn cl : Nat) (h : Hd) (p1 p2 : Option Addr) (k1 c1 k2 c2 : Nat) (done : List (Bs × J n)) (wr : World) (vn vl : Value) : Prop where
  names : OwnT (B + 4) wr (done.map fun f => f.1) vn
  vals : OwnV (fun c => av c ∨ B ≤ c) (B + 4) wr n (done.map fun f => f.2) vl
  b0 : Box wr B ⟨6, false, 0, []⟩ (.slice pn fl cn) (.slice pl fl cl)
  b1 : Box wr (B + 1) h (.slice p1 k1 c1) (.slice p2 k2 c2)
  b2 : Box wr (B + 1 + 1) ⟨0, false, 0, []⟩ (.slice none 0 0) (.slice none 0 0)
  b3 : Box wr (B + 1 + 1 + 1) ⟨6, false, 0, []⟩ vn vl
  below : Below B w wr
  size : B + 4 ≤ wr.heap.size
theorem OwnT.shape {N : Nat} {w : World} {L : List Bs} {v : Value} (h : OwnT N w L v) : ∃ p c, v = .slice p L.length c := by
  rcases h.2 with ⟨rfl, h0⟩ | ⟨g, cap, cur, rfl, _⟩
  · exact ⟨none, 0, by rw [h0]⟩
  · exact ⟨_, _, rfl⟩
theorem OwnV.shape {av : Nat → Prop} {N n : Nat} {w : World} {xs : List (J n)} {v : Value} (h : OwnV av N w n xs v) : ∃ p c, v = .slice p xs.length c := by
  obtain ⟨us, _, h, _⟩ := h
  rcases h.2 with ⟨rfl, h0⟩ | ⟨g, cap, cur, rfl, _⟩
  · exact ⟨none, 0, by rw [h0]⟩
  · exact ⟨_, _, rfl⟩
def SetLoop (av : Nat → Prop) {n : Nat} (w : World) (B : Nat) (pn pl : Option Addr) (cn cl : Nat) (p1 p2 : Option Addr) (k1 c1 k2 c2 : Nat) (fs : List (Bs × J n)) (nm : Bs) (j : J n) (z i : Value) (wr : World) : Prop :=
  ∃ (k : Nat) (q : Bool) (done : List (Bs × J n)) (vn vl : Value), k ≤ fs.length ∧ z = .bool q ∧ i = .int .i64 k ∧ setF fs nm j = done ++ setGo nm j q (fs.drop k) ∧ done.length ≤ k + (if q then 1 else 0) ∧ SetAt av w B pn pl fs.length cn cl (headJ n j) p1 p2 k1 c1 k2 c2 done wr vn vl
theorem news_grown {w w' : World} {row : Option Nat} {g : Nat} {news : List Value} (h : ∀ j u, news[j]? = some u → w.cell? ((⟨g, 0, none⟩ : Addr).add j) = some u) (hg : w.grownBy w' row) (hne : some g ≠ row) : ∀ j u, news[j]? = some u → w'.cell? ((⟨g, 0, none⟩ : Addr).add j) = some u :=
  fun j u hu => cell_grown_old hg (h j u hu) (by rw [Addr.add_lit]; exact hne)
theorem news_alloc {w : World} {o : Obj} {g : Nat} {news : List Value} (h : ∀ j u, news[j]? = some u → w.cell? ((⟨g, 0, none⟩ : Addr).add j) = some u) : ∀ j u, news[j]? = some u → (w.alloc o).cell? ((⟨g, 0, none⟩ : Addr).add j) = some u :=
  fun j u hu => cell_alloc_old (h j u hu)
theorem text_new (w : World) (s : ByteArray) : ∀ j u, [Value.string s][j]? = some u → (w.alloc (.cells #[.string s] 9)).cell? ((⟨w.heap.size, 0, none⟩ : Addr).add j) = some u :=
  World.news_of_block (cs := #[.string s]) (t := 9) (fr := (0, 0)) (heap_alloc_new w _)
theorem text_new2 (w : World) (o : Obj) (s : ByteArray) : ∀ j u, [Value.string s][j]? = some u → ((w.drew.alloc o).alloc (.cells #[.string s] 9)).cell? ((⟨w.heap.size + 1, 0, none⟩ : Addr).add j) = some u := by
  have h := text_new (w.drew.alloc o) s
  have e : (w.drew.alloc o).heap.size = w.heap.size + 1 := by simp
  rw [e] at h
  exact h
theorem six_new2 (w : World) (o : Obj) (h : Hd) (nm l : Value) : ∀ j u, (six3 (h, nm, l))[j]? = some u → ((w.drew.alloc o).alloc (.cells #[.int .i64 h.k, .bool h.b, .int .i64 h.i, .string ⟨h.s.toArray⟩, nm, l] 25)).cell? ((⟨w.heap.size + 1, 0, none⟩ : Addr).add j) = some u := by
  have h1 := six_new (w.drew.alloc o) h nm l
  have e : (w.drew.alloc o).heap.size = w.heap.size + 1 := by simp
  rw [e] at h1
  exact h1
theorem six_first (w : World) (o : Obj) (h : Hd) (nm l : Value) : ∀ j u, (six3 (h, nm, l))[j]? = some u → ((w.drew.alloc (.cells #[.int .i64 h.k, .bool h.b, .int .i64 h.i, .string ⟨h.s.toArray⟩, nm, l] 25)).alloc o).cell? ((⟨w.heap.size, 0, none⟩ : Addr).add j) = some u := news_alloc (six_new w.drew h nm l)
theorem text_first (w : World) (o : Obj) (s : ByteArray) : ∀ j u, [Value.string s][j]? = some u → ((w.drew.alloc (.cells #[.string s] 9)).alloc o).cell? ((⟨w.heap.size, 0, none⟩ : Addr).add j) = some u := news_alloc (text_new w.drew s)
theorem nm_eta (nm : ByteArray) : nm = ⟨nm.data.toList.toArray⟩ := by cases nm; simp
theorem grown_drew (w : World) : w.grownBy w.drew none := ⟨rfl, rfl, rfl, Nat.le_refl _, fun _ _ _ => rfl⟩
theorem grown_none {a b c : World} (h : a.grownBy b none) (k : b.grownBy c none) : a.grownBy c none :=
  ⟨k.os.trans h.os, k.tape.trans h.tape, k.output.trans h.output, Nat.le_trans h.size k.size, fun x hx hne => (k.block x (Nat.lt_of_lt_of_le hx h.size) hne).trans (h.block x hx hne)⟩
theorem grown_one (w : World) (o : Obj) : w.grownBy (w.drew.alloc o) none := grown_none (grown_drew w) (World.grownBy_alloc _ _ _)
theorem grown_two (w : World) (o o' : Obj) : w.grownBy ((w.drew.alloc o).alloc o') none := grown_none (grown_one w o) (World.grownBy_alloc _ _ _)
theorem grown_refl (w : World) : w.grownBy w none := ⟨rfl, rfl, rfl, Nat.le_refl _, fun _ _ _ => rfl⟩
theorem own_none (v : Value) : v.ownBlock = none ∨ v.ownBlock ≠ (none : Option Nat) := by
  cases v.ownBlock with
  | none => exact Or.inl rfl
  | some x => exact Or.inr (fun e => by cases e)
/-- a text and a value more, whatever was made in between -/
theorem set_join {av : Nat → Prop} {n : Nat} {w : World} {B : Nat} {pn pl : Option Addr} {fl cn cl : Nat} {h : Hd} {p1 p2 : Option Addr} {k1 c1 k2 c2 : Nat} {done : List (Bs × J n)} {wr W1 wa W2 wb : World} {vn vl : Value} {us : List Six3} {nm : Bs} {nmv : ByteArray} {x : J n} {s1 s2 : Value} {ga ca gb cb : Nat}
    (hS : SetAt av w B pn pl fl cn cl h p1 p2 k1 c1 k2 c2 done wr vn vl) (hx : RSt (fun c => av c ∨ B ≤ c) wr n x (rfV (headJ n x) s1 s2))
    (hul : us.length = (done.map fun f => f.2).length) (hue : ∀ (i : Nat) (x : J n) (u : Six3), (done.map fun f => f.2)[i]? = some x → us[i]? = some u → u.1 = headJ n x ∧ RSt (fun c => (av c ∨ B ≤ c) ∨ vl.ownBlock = some c) wr n x (rfV u.1 u.2.1 u.2.2))
    (g1 : wr.grownBy W1 none) (gA : W1.grownBy wa vn.ownBlock) (oA : wa.ownsRow (B + 4) 9 1 (.slice (some ⟨ga, 0, none⟩) (done.length + 1) ca) (done.length + 1) (((done.map fun f => f.1).map fun s => .string ⟨s.toArray⟩) ++ [.string nmv])) (hnm : nmv = ⟨nm.toArray⟩)
    (g2 : wa.grownBy W2 none) (gB : W2.grownBy wb vl.ownBlock) (oB : wb.ownsRow (B + 4) 25 6 (.slice (some ⟨gb, 0, none⟩) (done.length + 1) cb) (done.length + 1) (us.flatMap six3 ++ six3 (headJ n x, s1, s2))) (hat : vl.ownBlock = some gb ∨ W2.heap.size ≤ gb) :
    SetAt av w B pn pl fl cn cl h p1 p2 k1 c1 k2 c2 (done ++ [(nm, x)]) ((wb.setCell ⟨B + 1 + 1 + 1, 4, none⟩ (.slice (some ⟨ga, 0, none⟩) (done.length + 1) ca)).setCell ⟨B + 1 + 1 + 1, 5, none⟩ (.slice (some ⟨gb, 0, none⟩) (done.length + 1) cb)) (.slice (some ⟨ga, 0, none⟩) (done.length + 1) ca) (.slice (some ⟨gb, 0, none⟩) (done.length + 1) cb) := by
  have e1 : (done.map fun f => f.1).length = done.length := List.length_map _
  have e2 : (done.map fun f => f.2).length = done.length := List.length_map _
  have rn := hS.names.row
  have rv := hS.vals.row
  have hna : ∀ k, k < B + 4 → some k ≠ vn.ownBlock := fun k hk e => by have := (rn k e.symm).1; omega
  have hnb : ∀ k, k < B + 4 → some k ≠ vl.ownBlock := fun k hk e => by have := (rv k e.symm).1; omega
  have up : ∀ {g : Nat} {h : Hd} {a b : Value}, g < B + 4 → Box wr g h a b → Box wb g h a b := fun {g h a b} hg hb =>
    (((hb.grown g1 (fun e => by cases e)).grown gA (hna g hg)).grown g2 (fun e => by cases e)).grown gB (hnb g hg)
  have hb3 := up (by omega) hS.b3
  have hVa : OwnV (fun c => av c ∨ B ≤ c) (B + 4) wa n (done.map fun f => f.2) vl := by
    refine ((hS.vals.kept g1 (own_none _) (fun k e => by cases e)).kept gA ?_ (fun k e => Or.inr (by have := (rn k e).1; omega)))
    rcases ownT_apart hS.names hS.vals with h | h
    · rw [h]; exact own_none _
    · exact Or.inr (fun e => h e.symm)
  have hTb : OwnT (B + 4) wb ((done.map fun f => f.1) ++ [nm]) (.slice (some ⟨ga, 0, none⟩) (done.length + 1) ca) := by
    have h1 : OwnT (B + 4) wa ((done.map fun f => f.1) ++ [nm]) (.slice (some ⟨ga, 0, none⟩) (done.length + 1) ca) := OwnT.snoc (by rw [e1, ← hnm]; exact oA)
    exact (h1.kept g2 (own_none _)).kept gB (ownT_apart (h1.kept g2 (own_none _)) (hVa.kept g2 (own_none _) (fun k e => by cases e)))
  have hmv : ∀ {x : J n} {u : Value} {av' : Nat → Prop}, (∀ c, B ≤ c → av' c) → RSt av' wr n x u → RSt av' W2 n x u := fun {x u av'} ha h =>
    ((h.grown g1 (fun k e => by cases e)).grown gA (fun k e => ha k (by have := (rn k e).1; omega))).grown g2 (fun k e => by cases e)
  have hVb : OwnV (fun c => av c ∨ B ≤ c) (B + 4) wb n ((done.map fun f => f.2) ++ [x]) (.slice (some ⟨gb, 0, none⟩) (done.length + 1) cb) := by
    have h9 := OwnV.snoc (g := gb) (cap := cb) (v := vl) hul (fun i y u hy hu => ⟨(hue i y u hy hu).1, hmv (fun c hc => Or.inl (Or.inr hc)) (hue i y u hy hu).2⟩) (by rw [e2]; exact oB) gB hat (hmv (fun c hc => Or.inl (Or.inr hc)) (hx.wide (fun c e => by
      rcases e with e | e
      · exact Or.inl e
      · exact Or.inl (Or.inr (by have := (rv c e).1; omega)))))
    rw [e2] at h9
    exact h9
  have hsz : B + 4 ≤ wb.heap.size := by
    have := hS.size; have := g1.size; have := gA.size; have := g2.size; have := gB.size
    omega
  have hbl : Below B w wb := by
    have hB0 := hS.below
    have q1 := hB0.grown g1 (by have := hS.size; omega) (fun k e => by cases e)
    have q2 := q1.grown gA (by have := hS.size; have := g1.size; omega) (fun k e => by have := (rn k e).1; omega)
    have q3 := q2.grown g2 (by have := hS.size; have := g1.size; have := gA.size; omega) (fun k e => by cases e)
    exact q3.grown gB (by have := hS.size; have := g1.size; have := gA.size; have := g2.size; omega) (fun k e => by have := (rv k e).1; omega)
  refine ⟨?_, ?_, ((up (by omega) hS.b0).other (by omega) _).other (by omega) _, ((up (by omega) hS.b1).other (by omega) _).other (by omega) _, ((up (by omega) hS.b2).other (by omega) _).other (by omega) _, (hb3.setN _).setL _, (hbl.setCell (by show B ≤ B + 1 + 1 + 1; omega) _).setCell (by show B ≤ B + 1 + 1 + 1; omega) _, by rw [heap_setCell_size, heap_setCell_size]; exact hsz⟩
  · rw [List.map_append]
    exact (hTb.far (grownBy_setCell _ _ _ _) (fun k e => by cases e; omega)).far (grownBy_setCell _ _ _ _) (fun k e => by cases e; omega)
  · rw [List.map_append]
    exact (hVb.far (grownBy_setCell _ _ _ _) (fun k e => by cases e; exact ⟨by omega, Or.inr (by omega)⟩)).far (grownBy_setCell _ _ _ _) (fun k e => by cases e; exact ⟨by omega, Or.inr (by omega)⟩)
end Go.Proofs.YtaogilpkeeigoaaGreatDoor
