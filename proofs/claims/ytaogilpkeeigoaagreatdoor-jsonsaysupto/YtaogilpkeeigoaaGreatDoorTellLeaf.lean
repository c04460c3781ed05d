/- Contracts over this translation of what tells a value, however deep. -/
import Derived.Test.YtaogilpkeeigoaaGreatDoorWriteQuoted
import Derived.Test.YtaogilpkeeigoaaGreatDoorTa
import Derived.Test.YtaogilpkeeigoaaGreatDoorRepr
import Derived.Test.YtaogilpkeeigoaaGreatDoorShelf
import Derived.Test.YtaogilpkeeigoaaGreatDoorDocGood
import Derived.Lib.AppendStr
namespace Go.Proofs.YtaogilpkeeigoaaGreatDoor
open Go.RowKit
set_option linter.unusedVariables false
set_option linter.unusedSimpArgs false
/-- the powers of ten lie as the library's text lays them, in blocks below B -/
def Tab (B : Nat) (w : World) : Prop := Lib.TabBelow Tryz.prog B w "internal/strconv.uint64pow10" .u64 Lib.pow10Tab
theorem Tab.below {B : Nat} {w w' : World} (h : Tab B w) (g : Below B w w') : Tab B w' := fun w2 h2 => h w2 (g.trans h2)
theorem Tab.mono {B B' : Nat} {w : World} (h : Tab B w) (hb : B ≤ B') : Tab B' w := fun w2 h2 => h w2 (h2.mono hb)
theorem St.belowB {B : Nat} {w w' : World} {n : Nat} {j : J n} {x : Value} (h : St (fun c => B ≤ c) w n j x) (g : Below B w w') : St (fun c => B ≤ c) w' n j x :=
  h.step g.size (fun c _ hc => g.block c (by omega))
def WriteOK (n : Nat) : Prop := ∀ (B : Nat) (j : J n) (x v : Value) (l : Bs) (w : World), St (fun c => B ≤ c) w n j x → Fit n j → Own B w v l → B ≤ w.heap.size → Tab B w → l.length + (tell n j).length ≤ 100000000 →
  Calls Tryz.prog 66 #[v, x] w fun e w' => ∃ v', e = .returned v' ∧ Own B w' v' (l ++ tell n j) ∧ Fr B w w'
theorem own_str {B : Nat} {w : World} {v : Value} {l s : Bs} (h : w.ownsRow B 5 1 v (l.length + (⟨s.toArray⟩ : ByteArray).size) (Lib.byteCells l ++ Lib.strCells ⟨s.toArray⟩)) : Own B w v (l ++ s) := by
  unfold Own
  have e : (l ++ s).length = l.length + (⟨s.toArray⟩ : ByteArray).size := by simp [ByteArray.size]
  have e2 : Lib.byteCells (l ++ s) = Lib.byteCells l ++ Lib.strCells ⟨s.toArray⟩ := by simp [Lib.byteCells, Lib.strCells]
  rw [e, e2]
  exact h
theorem quote_ge (s : Bs) : s.length ≤ (quote s).length := by
  have h : ∀ s : Bs, s.length ≤ (s.flatMap quoteB).length := by
    intro s
    induction s with
    | nil => simp
    | cons c s ih =>
      have : 1 ≤ (quoteB c).length := by
        unfold quoteB
        split
        · simp
        · split
          · simp
          · split <;> simp
      simp only [List.flatMap_cons, List.length_append, List.length_cons]
      omega
  have := h s
  simp only [quote, List.length_cons, List.length_append]
  omega
theorem below_own {B : Nat} {w0 w w' : World} {v : Value} {l : Bs} (h : Below B w0 w) (ho : Own B w v l) (hB : B ≤ w.heap.size) (hg : w.grownBy w' v.ownBlock) : Below B w0 w' := h.grown hg hB ho.row
set_option maxRecDepth 100000 in
set_option maxHeartbeats 2000000 in
theorem write_null (B : Nat) (v : Value) (l : Bs) (w : World) (hO : Own B w v l) (hB : B ≤ w.heap.size) (hlim : l.length + 4 ≤ 100000000) :
    Calls Tryz.prog 66 #[v, leafV none] w fun e w' => ∃ v', e = .returned v' ∧ Own B w' v' (l ++ nullB) ∧ Fr B w w' := by
  obtain ⟨i0, hi, hz0, hz1, hz2⟩ := info_parts info_u8
  obtain ⟨a1, a2, a3, a4, a5, a6⟩ := tas_Null
  have HO : Hid (Own B w v l) := hO
  have HN : Hid ((w.alloc (.cells #[] 78)).ownsRow B 5 1 v l.length (Lib.byteCells l)) := World.ownsRow.alloc hO _
  have HNB : Hid (B ≤ (w.alloc (.cells #[] 78)).heap.size) := by show B ≤ (w.alloc _).heap.size; simp; omega
  have HNW : Hid (Fr B w (w.alloc (.cells #[] 78))) := (Fr.refl B w).alloc hB _
  clear hO
  unfold leafV
  go_enter Tryz.func66, Tryz.ntmps66
  go_wp2_with (at_builtin; refine Lib.wpList_append_own_string _ rfl _ _ 99 9 rfl B 5 i0 Tryz.underlying99 Tryz.underlying9 hi hz0 hz1 hz2 _ _ _ rfl HN.out { data := #[110, 117, 108, 108] } rfl (by show l.length + 4 ≤ _; unfold maxLen; omega) (by show l.length + 4 ≤ _; omega) HNB.out ?_)
  intro v' w1 hown' hgrow _
  have HO1 : Hid (Own B w1 v' (l ++ nullB)) := own_str (s := nullB) hown'
  have HB1 : Hid (Fr B w w1) := HNW.out.own HN.out HNB.out hgrow
  clear hown' hgrow
  go_wp2_with fail
  go_ret
  exact ⟨v', rfl, HO1.out, HB1.out⟩
set_option maxRecDepth 100000 in
set_option maxHeartbeats 2000000 in
theorem append_true (B : Nat) (v : Value) (l : Bs) (w : World) (hO : Own B w v l) (hB : B ≤ w.heap.size) (hlim : l.length + 4 ≤ 100000000) :
    Calls Tryz.prog 86 #[v, .bool true] w fun e w' => ∃ v', e = .returned v' ∧ Own B w' v' (l ++ trueB) ∧ Fr B w w' := by
  obtain ⟨i0, hi, hz0, hz1, hz2⟩ := info_parts info_u8
  have HO : Hid (Own B w v l) := hO
  have HN : Hid (w.ownsRow B 5 1 v l.length (Lib.byteCells l)) := hO
  have HNB : Hid (B ≤ w.heap.size) := hB
  have HNW : Hid (Fr B w w) := Fr.refl B w
  clear hO
  go_enter Tryz.func86, Tryz.ntmps86
  go_wp2_with (first | (at_builtin; refine Lib.wpList_append_own_string _ rfl _ _ 99 9 rfl B 5 i0 Tryz.underlying99 Tryz.underlying9 hi hz0 hz1 hz2 _ _ _ rfl HN.out { data := #[116, 114, 117, 101] } rfl (by show l.length + 4 ≤ _; unfold maxLen; omega) (by show l.length + 4 ≤ _; omega) HNB.out ?_) | go_in)
  intro v' w1 hown' hgrow _
  have HO1 : Hid (Own B w1 v' (l ++ trueB)) := own_str (s := trueB) hown'
  have HB1 : Hid (Fr B w w1) := HNW.out.own HN.out HNB.out hgrow
  clear hown' hgrow
  go_wp2_with fail
  go_ret
  exact ⟨v', rfl, HO1.out, HB1.out⟩
set_option maxRecDepth 100000 in
set_option maxHeartbeats 2000000 in
theorem write_true (B : Nat) (v : Value) (l : Bs) (w : World) (hO : Own B w v l) (hB : B ≤ w.heap.size) (hlim : l.length + 4 ≤ 100000000) :
    Calls Tryz.prog 66 #[v, leafV (some (Sum.inl true))] w fun e w' => ∃ v', e = .returned v' ∧ Own B w' v' (l ++ trueB) ∧ Fr B w w' := by
  obtain ⟨a1, a2, a3, a4, a5, a6⟩ := tas_Bool
  have HO : Hid (Own B w v l) := hO
  clear hO
  unfold leafV
  go_enter Tryz.func66, Tryz.ntmps66
  go_wp2_with fail
  refine (append_true B v l _ HO.out hB hlim).mono ?_
  rintro e w1 ⟨v', rfl, hO, hb⟩
  have HO1 : Hid (Own B w1 v' (l ++ trueB)) := hO
  have HB1 : Hid (Fr B w w1) := hb
  clear hO hb
  go_wp2_with fail
  go_ret
  exact ⟨v', rfl, HO1.out, HB1.out⟩
set_option maxRecDepth 100000 in
set_option maxHeartbeats 2000000 in
theorem append_false (B : Nat) (v : Value) (l : Bs) (w : World) (hO : Own B w v l) (hB : B ≤ w.heap.size) (hlim : l.length + 5 ≤ 100000000) :
    Calls Tryz.prog 86 #[v, .bool false] w fun e w' => ∃ v', e = .returned v' ∧ Own B w' v' (l ++ falseB) ∧ Fr B w w' := by
  obtain ⟨i0, hi, hz0, hz1, hz2⟩ := info_parts info_u8
  have HO : Hid (Own B w v l) := hO
  have HN : Hid (w.ownsRow B 5 1 v l.length (Lib.byteCells l)) := hO
  have HNB : Hid (B ≤ w.heap.size) := hB
  have HNW : Hid (Fr B w w) := Fr.refl B w
  clear hO
  go_enter Tryz.func86, Tryz.ntmps86
  go_wp2_with (first | (at_builtin; refine Lib.wpList_append_own_string _ rfl _ _ 99 9 rfl B 5 i0 Tryz.underlying99 Tryz.underlying9 hi hz0 hz1 hz2 _ _ _ rfl HN.out { data := #[102, 97, 108, 115, 101] } rfl (by show l.length + 5 ≤ _; unfold maxLen; omega) (by show l.length + 5 ≤ _; omega) HNB.out ?_) | go_in)
  intro v' w1 hown' hgrow _
  have HO1 : Hid (Own B w1 v' (l ++ falseB)) := own_str (s := falseB) hown'
  have HB1 : Hid (Fr B w w1) := HNW.out.own HN.out HNB.out hgrow
  clear hown' hgrow
  go_wp2_with fail
  go_ret
  exact ⟨v', rfl, HO1.out, HB1.out⟩
set_option maxRecDepth 100000 in
set_option maxHeartbeats 2000000 in
theorem write_false (B : Nat) (v : Value) (l : Bs) (w : World) (hO : Own B w v l) (hB : B ≤ w.heap.size) (hlim : l.length + 5 ≤ 100000000) :
    Calls Tryz.prog 66 #[v, leafV (some (Sum.inl false))] w fun e w' => ∃ v', e = .returned v' ∧ Own B w' v' (l ++ falseB) ∧ Fr B w w' := by
  obtain ⟨a1, a2, a3, a4, a5, a6⟩ := tas_Bool
  have HO : Hid (Own B w v l) := hO
  clear hO
  unfold leafV
  go_enter Tryz.func66, Tryz.ntmps66
  go_wp2_with fail
  refine (append_false B v l _ HO.out hB hlim).mono ?_
  rintro e w1 ⟨v', rfl, hO, hb⟩
  have HO1 : Hid (Own B w1 v' (l ++ falseB)) := hO
  have HB1 : Hid (Fr B w w1) := hb
  clear hO hb
  go_wp2_with fail
  go_ret
  exact ⟨v', rfl, HO1.out, HB1.out⟩
set_option maxRecDepth 100000 in
set_option maxHeartbeats 2000000 in
theorem write_number (B : Nat) (i : Int) (v : Value) (l : Bs) (w : World) (hO : Own B w v l) (hB : B ≤ w.heap.size) (hT : Tab B w) (h1 : -1000000000000000000 < i) (h2 : i < 1000000000000000000) (hlim : l.length ≤ 100000000) :
    Calls Tryz.prog 66 #[v, leafV (some (Sum.inr (Sum.inl i)))] w fun e w' => ∃ v', e = .returned v' ∧ Own B w' v' (l ++ Lib.itoa i) ∧ Fr B w w' := by
  obtain ⟨a1, a2, a3, a4, a5, a6⟩ := tas_Number
  have HO : Hid (Own B w v l) := hO
  have HT : Hid (Tab B w) := hT
  clear hO hT
  unfold leafV
  go_enter Tryz.func66, Tryz.ntmps66
  go_wp2_with fail
  refine (Tryz.strconv_AppendInt_10 B l.length i (by omega) (by omega) v (Lib.byteCells l) _ HO.out hB (by omega) HT.out).mono ?_
  rintro e w1 ⟨v', rfl, hO, hb0, hb1⟩
  have hb : Fr B w w1 := ⟨hb0, hb1⟩
  have HO1 : Hid (Own B w1 v' (l ++ Lib.itoa i)) := by
    have e1 : (l ++ Lib.itoa i).length = l.length + (Lib.itoa i).length := by simp
    have e2 : Lib.byteCells (l ++ Lib.itoa i) = Lib.byteCells l ++ Lib.byteCells (Lib.itoa i) := by simp [Lib.byteCells]
    show Own B w1 v' (l ++ Lib.itoa i)
    unfold Own
    rw [e1, e2]
    exact hO
  have HB1 : Hid (Fr B w w1) := hb
  clear hO hb
  go_wp2_with fail
  go_ret
  exact ⟨v', rfl, HO1.out, HB1.out⟩
set_option maxRecDepth 100000 in
set_option maxHeartbeats 2000000 in
theorem write_str (B : Nat) (s : Bs) (v : Value) (l : Bs) (w : World) (hO : Own B w v l) (hB : B ≤ w.heap.size) (hlim : l.length + (quote s).length ≤ 100000000) :
    Calls Tryz.prog 66 #[v, leafV (some (Sum.inr (Sum.inr s)))] w fun e w' => ∃ v', e = .returned v' ∧ Own B w' v' (l ++ quote s) ∧ Fr B w w' := by
  obtain ⟨a1, a2, a3, a4, a5, a6⟩ := tas_Text
  have HO : Hid (Own B w v l) := hO
  have hq := writeQuoted_any B ⟨s.toArray⟩ v l w hO hB (by show l.length + (quote s).length ≤ 1000000000; omega) (by have := quote_ge s; simp [ByteArray.size]; omega)
  have HQ : Hid (Calls Tryz.prog 88 #[v, .string ⟨s.toArray⟩] w fun e w' => ∃ v', e = .returned v' ∧ Own B w' v' (l ++ quote s) ∧ Fr B w w') := hq
  clear hO hq
  unfold leafV
  go_enter Tryz.func66, Tryz.ntmps66
  go_wp2_with fail
  refine Calls.mono HQ.out ?_
  rintro e w1 ⟨v', rfl, hO, hb⟩
  have HO1 : Hid (Own B w1 v' (l ++ quote s)) := hO
  have HB1 : Hid (Fr B w w1) := hb
  clear hO hb
  go_wp2_with fail
  go_ret
  exact ⟨v', rfl, HO1.out, HB1.out⟩
theorem write_leaf (B : Nat) (a : Leaf) (v : Value) (l : Bs) (w : World) (hG : FitLeaf a) (hO : Own B w v l) (hB : B ≤ w.heap.size) (hT : Tab B w) (hlim : l.length + (tellLeaf a).length ≤ 100000000) :
    Calls Tryz.prog 66 #[v, leafV a] w fun e w' => ∃ v', e = .returned v' ∧ Own B w' v' (l ++ tellLeaf a) ∧ Fr B w w' := by
  match a, hG, hlim with
  | none, _, hlim => exact write_null B v l w hO hB hlim
  | some (Sum.inl true), _, hlim => exact write_true B v l w hO hB hlim
  | some (Sum.inl false), _, hlim => exact write_false B v l w hO hB hlim
  | some (Sum.inr (Sum.inl i)), hG, hlim => exact write_number B i v l w hO hB hT hG.1 hG.2 (by omega)
  | some (Sum.inr (Sum.inr s)), _, hlim => exact write_str B s v l w hO hB hlim
end Go.Proofs.YtaogilpkeeigoaaGreatDoor
