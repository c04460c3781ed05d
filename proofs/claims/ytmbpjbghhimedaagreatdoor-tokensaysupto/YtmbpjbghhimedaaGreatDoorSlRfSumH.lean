/- Contract over this translation: what the document's Sum answers. -/
import Derived.Test.YtmbpjbghhimedaaGreatDoorSlRfRows
import Derived.Test.YtmbpjbghhimedaaGreatDoorSlTail
import Derived.Test.YtmbpjbghhimedaaGreatDoorSlRfBits
import Derived.Test.YtmbpjbghhimedaaGreatDoorSlRfRoot
import Derived.Lib.Repeat
import Derived.Laws.IdiomStrings
namespace Go.Proofs.YtmbpjbghhimedaaGreatDoor
open Go.RowKit
set_option linter.unusedVariables false
set_option linter.unusedSimpArgs false
/-- two rows of numbers of one's own beside each other -/
structure HK (B : Nat) (w0 w : World) (hv : Value) (n : Nat) (st : List Nat) (kv : Value) (m : Nat) (ks : List Nat) : Prop where
  below : Below B w0 w
  h : w.ownsRow B 85 1 hv n (Vw st)
  k : w.ownsRow B 85 1 kv m (Vw ks)
  apart : Apart hv kv
theorem HK.step {B : Nat} {w0 w w' : World} {hv kv : Value} {n m : Nat} {st ks : List Nat} (h : HK B w0 w hv n st kv m ks) (hb : B ≤ w.heap.size) (g : Below w.heap.size w w') : HK B w0 w' hv n st kv m ks :=
  ⟨h.below.trans (g.mono hb), own_below h.h g, own_below h.k g, h.apart⟩
theorem HK.pushH {B : Nat} {w0 w w' : World} {hv kv : Value} {n m : Nat} {st ks : List Nat} (h : HK B w0 w hv n st kv m ks) (hb : B ≤ w.heap.size) {g cap x : Nat} (ho : w'.ownsRow B 85 1 (.slice (some ⟨g, 0, none⟩) (n + 1) cap) (n + 1) (Vw st ++ [.int .u32 (x : Int)]))
    (hg : w.grownBy w' hv.ownBlock) (hl : hv.ownBlock = some g ∨ g = w.heap.size) : HK B w0 w' (.slice (some ⟨g, 0, none⟩) (n + 1) cap) (n + 1) (st ++ [x]) kv m ks := by
  refine ⟨h.below.grown hg hb (fun k hk => (h.h.lt k hk).1), by simpa [Vw] using ho, own_kept h.k hg h.apart, fun j hj e => ?_⟩
  have hjg : g = j := by simpa [Value.ownBlock] using hj
  subst hjg
  rcases hl with hl | hl
  · exact h.apart g hl e
  · have := (h.k.lt g e).2
    omega
theorem HK.pushK {B : Nat} {w0 w w' : World} {hv kv : Value} {n m : Nat} {st ks : List Nat} (h : HK B w0 w hv n st kv m ks) (hb : B ≤ w.heap.size) {g cap x : Nat} (ho : w'.ownsRow B 85 1 (.slice (some ⟨g, 0, none⟩) (m + 1) cap) (m + 1) (Vw ks ++ [.int .u32 (x : Int)]))
    (hg : w.grownBy w' kv.ownBlock) (hl : kv.ownBlock = some g ∨ g = w.heap.size) : HK B w0 w' hv n st (.slice (some ⟨g, 0, none⟩) (m + 1) cap) (m + 1) (ks ++ [x]) := by
  have ha : Apart kv hv := fun j hj e => h.apart j e hj
  refine ⟨h.below.grown hg hb (fun k hk => (h.k.lt k hk).1), own_kept h.h hg ha, by simpa [Vw] using ho, fun j hj e => ?_⟩
  have hjg : g = j := by simpa [Value.ownBlock] using e
  subst hjg
  rcases hl with hl | hl
  · exact ha g hl hj
  · have := (h.h.lt g hj).2
    omega
theorem take_one (l : List Nat) (i : Nat) (h : i < l.length) : l.take (i + 1) = l.take i ++ [l.getD i 0] := by
  rw [List.take_succ_eq_append_getElem h]
  simp [List.getD_eq_getElem?_getD, h]
theorem own_mono {w : World} {B B2 : Nat} {v : Value} {n : Nat} {xs : List Value} (h : w.ownsRow B 85 1 v n xs) (hb : B2 ≤ B) : w.ownsRow B2 85 1 v n xs :=
  ⟨h.1, h.2.imp id fun ⟨g, cap, cur, h1, h2, h3⟩ => ⟨g, cap, cur, h1, Nat.le_trans hb h2, h3⟩⟩
theorem low8 (x : Nat) (hx : x < big) : bits .and .u64 (x : Int) 255 = ((x % 256 : Nat) : Int) := by
  have := u64_and_nat x 255 hx (by decide)
  rw [show ((255 : Nat) : Int) = 255 from rfl] at this
  rw [this]
  congr 1
  exact Nat.and_two_pow_sub_one_eq_mod x 8
/-- how long a text is -/
def lenOf (v : Value) : Nat := match v with
  | .string b => b.size
  | _ => 0
/-- the numbers of a block, in a box of their own -/
structure RW (w0 : World) (ws : List Nat) (wr : World) : Prop where
  below : Below w0.heap.size w0 wr
  b : wr.heap[w0.heap.size]? = some (.cells (Vw ws).toArray 88 (0, 0))
theorem RW.begin (w : World) : RW w (List.replicate 64 0) (w.alloc (.cells (Vw (List.replicate 64 0)).toArray 88)) :=
  ⟨(Below.refl _ w).alloc (Nat.le_refl _) _, heap_alloc_new w _⟩
theorem RW.size {w w2 : World} {ws : List Nat} (h : RW w ws w2) : w.heap.size + 1 ≤ w2.heap.size := by
  have := lt_of_block h.b
  omega
theorem RW.step {w0 w w2 : World} {ws : List Nat} (h : RW w0 ws w) (hb : Below w.heap.size w w2) : RW w0 ws w2 :=
  ⟨h.below.trans (hb.mono h.below.size), (hb.block _ (lt_of_block h.b)).trans h.b⟩
theorem RW.put {w0 w : World} {ws : List Nat} (h : RW w0 ws w) (k x : Nat) : RW w0 (ws.set k x) (w.setCell ⟨w0.heap.size, k, none⟩ (.int .u32 (x : Int))) := by
  refine ⟨h.below.setCell (p := ⟨w0.heap.size, k, none⟩) (Nat.le_refl _) _, ?_⟩
  rw [heap_setCell_same _ _ _ _ _ _ h.b, vw_set]
theorem RW.word {w0 w : World} {ws : List Nat} (h : RW w0 ws w) (k : Nat) (hk : k < ws.length) : w.cell? ⟨w0.heap.size, k, none⟩ = some (.int .u32 (ws.getD k 0 : Nat)) := cell_at h.b (vw_get hk)
/-- the numbers after i steps -/
def wAt (b : Bs) (i : Nat) : List Nat := if i ≤ 16 then firstP b i else moreP b (i - 16)
theorem wAt_lt (b : Bs) (i : Nat) : AllLt (wAt b i) := by
  unfold wAt
  split
  · exact first_lt b i
  · exact more_lt b _
theorem wAt_first (b : Bs) {i : Nat} (h : i < 16) : wAt b (i + 1) = (wAt b i).set i (wordAt b i) := by
  unfold wAt
  rw [if_pos (by omega), if_pos (by omega)]
  rfl
theorem wAt_more (b : Bs) {i : Nat} (h : 16 ≤ i) : wAt b (i + 1) = (wAt b i).set i (extAt (wAt b i) i) := by
  obtain ⟨j, rfl⟩ : ∃ j, i = 16 + j := ⟨i - 16, by omega⟩
  have e1 : wAt b (16 + j) = moreP b j := by
    unfold wAt
    by_cases h0 : j = 0
    · subst h0
      rw [if_pos (by omega)]
      rfl
    · rw [if_neg (by omega), show 16 + j - 16 = j by omega]
  have e2 : wAt b (16 + j + 1) = moreP b (j + 1) := by
    unfold wAt
    rw [if_neg (by omega), show 16 + j + 1 - 16 = j + 1 by omega]
  rw [e1, e2]
  rfl
theorem wAt_end (b : Bs) : wAt b 64 = spreadP b := rfl
/-- bytes as a number -/
def numP (l : Bs) : Nat := l.foldl (fun x c => x * 256 + c.toNat) 0
theorem num_snoc (l : Bs) (c : UInt8) : numP (l ++ [c]) = numP l * 256 + c.toNat := by
  unfold numP
  rw [List.foldl_append]
  rfl
theorem four_at {t : Bs} {q : Nat} (h : q + 4 ≤ t.length) : (t.drop q).take 4 = [t.getD q 0, t.getD (q + 1) 0, t.getD (q + 2) 0, t.getD (q + 3) 0] := by
  apply List.ext_getElem
  · simp
    omega
  · intro k h1 h2
    simp only [List.length_cons, List.length_nil] at h2
    rw [List.getElem_take, List.getElem_drop]
    match k, h2 with
    | 0, _ => simp [List.getD_eq_getElem?_getD, show q < t.length by omega]
    | 1, _ => simp [List.getD_eq_getElem?_getD, show q + 1 < t.length by omega]
    | 2, _ => simp [List.getD_eq_getElem?_getD, show q + 2 < t.length by omega]
    | 3, _ => simp [List.getD_eq_getElem?_getD, show q + 3 < t.length by omega]
theorem word_num {t : Bs} {i : Nat} (hi : i < 16) (h : 64 ≤ t.length) : wordAt (t.take 64) i = numP ((t.drop (4 * i)).take 4) := by
  rw [four_at (by omega)]
  have e : ∀ j, j < 64 → (t.take 64).getD j 0 = t.getD j 0 := fun j hj => by
    simp only [List.getD_eq_getElem?_getD, List.getElem?_take, if_pos hj]
  unfold wordAt
  rw [e _ (by omega), e _ (by omega), e _ (by omega), e _ (by omega)]
  unfold wordP numP
  simp only [List.foldl_cons, List.foldl_nil, Nat.zero_mul, Nat.zero_add]
theorem num_lt : ∀ (k : Nat) (l : Bs), l.length = k → numP l < 256 ^ k
  | 0, l, h => by
    rw [List.length_eq_zero_iff.1 h]
    decide
  | k + 1, l, h => by
    have hne : l ≠ [] := fun e => by rw [e] at h; simp at h
    have hl := List.dropLast_concat_getLast hne
    rw [← hl, num_snoc]
    have := num_lt k l.dropLast (by rw [List.length_dropLast]; omega)
    have := (l.getLast hne).toNat_lt
    rw [Nat.pow_succ]
    omega
theorem first_zero (b : Bs) : ∀ k i, k ≤ i → (firstP b k).getD i 0 = 0
  | 0, i, _ => by
    show (List.replicate 64 0).getD i 0 = 0
    rw [List.getD_eq_getElem?_getD, List.getElem?_replicate]
    split <;> rfl
  | k + 1, i, h => by
    show ((firstP b k).set k (wordAt b k)).getD i 0 = 0
    rw [List.getD_eq_getElem?_getD, List.getElem?_set_ne (by omega), ← List.getD_eq_getElem?_getD]
    exact first_zero b k i (by omega)
theorem set_same {l : List Nat} {i : Nat} (h : i < l.length) (h0 : l.getD i 0 = 0) : l.set i 0 = l := by
  have : l[i] = 0 := by
    rw [List.getD_eq_getElem?_getD, List.getElem?_eq_getElem h] at h0
    exact h0
  conv => lhs; arg 3; rw [← this]
  exact List.set_getElem_self h
theorem ba_part (t : Bs) (a b : Nat) : (Ba t).extract a b = Ba ((t.drop a).take (b - a)) := by
  apply ByteArray.ext
  simp [Ba, ByteArray.data_extract]
theorem conv_bytes (l : Bs) (w : World) : ∃ cap w2 cs fr, (convert 9 56 (.string (Ba l))).run Tryz.prog w = .ok (.slice (some ⟨w.heap.size, 0, none⟩) l.length cap) w2 ∧ Below w.heap.size w w2 ∧ w2.heap[w.heap.size]? = some (.cells cs 5 fr) ∧ ∀ k (h : k < l.length), cs[k]? = some (.int .u8 (l[k].toNat : Nat)) := by
  have h := run_bytes_of_string (P := Tryz.prog) w 9 56 5 (Ba l) Tryz.underlying9 Tryz.underlying56 Tryz.underlying5
  rw [ba_size] at h
  generalize hcap : grownCap w l.length 0 5 = cap at *
  refine ⟨cap, w.drew.alloc (.cells (bytesRow (Ba l) cap) 5 ((bytesRow (Ba l) cap).size, (bytesRow (Ba l) cap).size + 1)), bytesRow (Ba l) cap, ((bytesRow (Ba l) cap).size, (bytesRow (Ba l) cap).size + 1), h, ((Below.refl _ w).drew).alloc (Nat.le_refl _) _, heap_alloc_new w.drew _, fun k hk => ?_⟩
  rw [bytesRow_at (Ba l) cap k (by simpa [Ba] using hk)]
  simp [Ba]
theorem RW.drewN {w0 w : World} {ws : List Nat} (h : RW w0 ws w) (n : Nat) : RW w0 ws (w.drewN n) := ⟨below_drewN h.below n, h.b⟩
end Go.Proofs.YtmbpjbghhimedaaGreatDoor
