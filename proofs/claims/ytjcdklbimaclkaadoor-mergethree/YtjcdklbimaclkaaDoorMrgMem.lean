/- How what is met lies in memory: values that may lack, fields from some place on; contracts of the small functions of package merge. -/
import Derived.Test.YtjcdklbimaclkaaDoorMrgPlain
import Derived.Test.YtjcdklbimaclkaaDoorTop
import Derived.Test.YtjcdklbimaclkaaDoorKindAny
import Derived.Test.YtjcdklbimaclkaaDoorInsert
import Derived.Test.YtjcdklbimaclkaaDoorObjPlain
namespace Go.Proofs.YtjcdklbimaclkaaDoor
open Go.RowKit
set_option linter.unusedVariables false
set_option linter.unusedSimpArgs false
theorem St.ona {av : Nat → Prop} {w w' : World} {n : Nat} {j : J n} {v : Value} (h : St av w n j v) (hb : Below w.heap.size w w') : St av w' n j v := h.step hb.size (fun c hc _ => hb.block c hc)
/-- a value that may lack -/
def OptV (av : Nat → Prop) (w : World) (n : Nat) (o : Option (J n)) (v : Value) : Prop :=
  (o = none ∧ v = .nilIface) ∨ ∃ (j : J n) (T : TypeId) (x : Value), o = some j ∧ v = .iface T x ∧ St av w n j (.iface T x)
theorem OptV.below {av : Nat → Prop} {w w' : World} {n : Nat} {o : Option (J n)} {v : Value} (h : OptV av w n o v) (hb : Below w.heap.size w w') : OptV av w' n o v := by
  rcases h with h | ⟨j, T, x, h1, h2, h3⟩
  · exact Or.inl h
  · exact Or.inr ⟨j, T, x, h1, h2, h3.ona hb⟩
theorem OptV.move {av av' : Nat → Prop} {w w' : World} {n : Nat} {o : Option (J n)} {v : Value} (h : OptV av w n o v) (hs : w.heap.size ≤ w'.heap.size) (hb : ∀ c, c < w.heap.size → ¬ av c → w'.heap[c]? = w.heap[c]?) (ha : ∀ c, c < w.heap.size → ¬ av c → ¬ av' c) : OptV av' w' n o v := by
  rcases h with h | ⟨j, T, x, h1, h2, h3⟩
  · exact Or.inl h
  · exact Or.inr ⟨j, T, x, h1, h2, St.move hs hb ha n j _ h3⟩
/-- fields in memory, from some place on -/
def Flds (av : Nat → Prop) (w : World) (n : Nat) (fs : List (Bs × J n)) (v : Value) : Prop :=
  (fs = [] ∧ ∃ p c, v = .slice p 0 c) ∨ ∃ g o cap, v = .slice (some ⟨g, o, none⟩) fs.length cap ∧ fs.length ≤ cap ∧ cap ≤ maxLen ∧ ¬ av g ∧ g < w.heap.size ∧
    ∀ (i : Nat) (f : Bs × J n), fs[i]? = some f → ∃ T x, w.cell? ⟨g, o + i * 2, none⟩ = some (.string ⟨f.1.toArray⟩) ∧ w.cell? ⟨g, o + i * 2 + 1, none⟩ = some (.iface T x) ∧ St av w n f.2 (.iface T x)
theorem Flds.move {av av' : Nat → Prop} {w w' : World} {n : Nat} {fs : List (Bs × J n)} {v : Value} (h : Flds av w n fs v) (hs : w.heap.size ≤ w'.heap.size) (hb : ∀ c, c < w.heap.size → ¬ av c → w'.heap[c]? = w.heap[c]?) (ha : ∀ c, c < w.heap.size → ¬ av c → ¬ av' c) : Flds av' w' n fs v := by
  rcases h with h | ⟨g, o, cap, hv, h1, h2, h3, h4, h5⟩
  · exact Or.inl h
  · refine Or.inr ⟨g, o, cap, hv, h1, h2, ha g h4 h3, by omega, fun i f hf => ?_⟩
    obtain ⟨T, x, c1, c2, c3⟩ := h5 i f hf
    refine ⟨T, x, ?_, ?_, St.move hs hb ha n f.2 _ c3⟩
    · rw [World.cell?_of_block (w := w) (w' := w') (a := ⟨g, o + i * 2, none⟩) (hb g h4 h3)]; exact c1
    · rw [World.cell?_of_block (w := w) (w' := w') (a := ⟨g, o + i * 2 + 1, none⟩) (hb g h4 h3)]; exact c2
theorem Flds.below {av : Nat → Prop} {w w' : World} {n : Nat} {fs : List (Bs × J n)} {v : Value} (h : Flds av w n fs v) (hb : Below w.heap.size w w') : Flds av w' n fs v :=
  h.move hb.size (fun c hc _ => hb.block c hc) (fun _ _ h => h)
theorem flds_of_st {av : Nat → Prop} {w : World} {n : Nat} {fs : List (Bs × J n)} {v : Value} (h : St av w (n + 1) (Sum.inr (Sum.inr fs)) v) : ∃ p cap, v = .iface 36 (.slice p fs.length cap) ∧ Flds av w n fs (.slice p fs.length cap) := by
  rcases h with ⟨rfl, rfl⟩ | ⟨g, cap, vs, hv, hl, hc, hm, hg, hlt, hcell, hel⟩
  · exact ⟨none, 0, rfl, Or.inl ⟨rfl, none, 0, rfl⟩⟩
  · refine ⟨_, cap, hv, Or.inr ⟨g, 0, cap, rfl, hc, hm, hg, hlt, fun i f hf => ?_⟩⟩
    have hi : i < fs.length := by
      rcases Nat.lt_or_ge i fs.length with h | h
      · exact h
      · rw [List.getElem?_eq_none h] at hf; cases hf
    have hu : vs[i]? = some (vs[i]'(by omega)) := List.getElem?_eq_getElem (by omega)
    have hs := hel i f _ hf hu
    obtain ⟨T, x, e⟩ := st_iface hs
    have hc2 := hcell i f _ hf hu
    rw [e] at hs hc2
    refine ⟨T, x, ?_, ?_, hs⟩
    · rw [Nat.zero_add]; exact hc2.1
    · rw [Nat.zero_add]; exact hc2.2
theorem Flds.form {av : Nat → Prop} {w : World} {n : Nat} {fs : List (Bs × J n)} {v : Value} (h : Flds av w n fs v) : ∃ p cap, v = .slice p fs.length cap := by
  rcases h with ⟨rfl, p, c, h⟩ | ⟨g, o, cap, h, _⟩
  · exact ⟨p, c, h⟩
  · exact ⟨_, _, h⟩
theorem Flds.cons {av : Nat → Prop} {w : World} {n : Nat} {f : Bs × J n} {r : List (Bs × J n)} {v : Value} (h : Flds av w n (f :: r) v) : ∃ g o cap T x, v = .slice (some ⟨g, o, none⟩) (r.length + 1) cap ∧ r.length + 1 ≤ cap ∧ cap ≤ maxLen ∧ g < w.heap.size ∧ w.cell? ⟨g, o, none⟩ = some (.string ⟨f.1.toArray⟩) ∧ w.cell? ⟨g, o + 1, none⟩ = some (.iface T x) ∧ St av w n f.2 (.iface T x) ∧
    ∀ A, (A = ⟨g, o, none⟩ ∧ cap = 1) ∨ A = ⟨g, o + 2, none⟩ → Flds av w n r (.slice (some A) r.length (cap - 1)) := by
  rcases h with ⟨h, _⟩ | ⟨g, o, cap, hv, h1, h2, h3, h4, h5⟩
  · cases h
  · obtain ⟨T, x, c1, c2, c3⟩ := h5 0 f rfl
    rw [List.length_cons] at h1
    refine ⟨g, o, cap, T, x, hv, h1, h2, h4, by simpa using c1, by simpa using c2, c3, fun A hA => ?_⟩
    rcases hA with ⟨rfl, hc⟩ | rfl
    · have : r = [] := List.eq_nil_of_length_eq_zero (by omega)
      subst this
      exact Or.inl ⟨rfl, _, _, rfl⟩
    · refine Or.inr ⟨g, o + 2, cap - 1, rfl, by omega, by omega, h3, h4, fun i f' hf => ?_⟩
      obtain ⟨T', x', d1, d2, d3⟩ := h5 (i + 1) f' (by simpa using hf)
      have e : o + (i + 1) * 2 = o + 2 + i * 2 := by omega
      rw [e] at d1 d2
      exact ⟨T', x', d1, d2, d3⟩
theorem bytes_eq (a b : Bs) : ((⟨a.toArray⟩ : ByteArray).toList == (⟨b.toArray⟩ : ByteArray).toList) = decide (a = b) := by
  rw [ByteArray.toList_eq, ByteArray.toList_eq, Bool.eq_iff_iff, beq_iff_eq, decide_eq_true_iff]
theorem named_two (c : Prop) [Decidable c] (a b : Addr) : ∃ A, (if c then some a else some b) = some A ∧ ((A = a ∧ c) ∨ A = b) := by
  split
  · rename_i h
    exact ⟨_, rfl, Or.inl ⟨rfl, h⟩⟩
  · exact ⟨_, rfl, Or.inr rfl⟩
/-- what is known of the answer of take -/
def TakePost (av : Nat → Prop) {n : Nat} (fs : List (Bs × J n)) (nm : Bs) (w : World) (e : Ending) (w' : World) : Prop :=
  Below w.heap.size w w' ∧ ∃ u v, e = .returned (.tuple #[u, v]) ∧ OptV av w' n (takeV fs nm) u ∧ Flds av w' n (takeR fs nm) v
set_option maxRecDepth 100000 in
set_option maxHeartbeats 1000000 in
theorem take_any (av : Nat → Prop) {n : Nat} (fs : List (Bs × J n)) (nm : ByteArray) (v : Value) (w : World) (h : Flds av w n fs v) :
    Calls Tryd.prog 23 #[v, .string nm] w (TakePost av fs nm.data.toList w) := by
  cases fs with
  | nil =>
    obtain ⟨p, cap, rfl⟩ := h.form
    have HF : Hid (Flds av w n [] (.slice p 0 cap)) := h
    clear h
    go_enter Tryd.func23, Tryd.ntmps23
    go_wp2_with fail
    go_ret2
    exact ⟨Below.refl _ _, _, _, rfl, Or.inl ⟨rfl, rfl⟩, HF.out⟩
  | cons f r =>
    have HF0 : Hid (Flds av w n (f :: r) v) := h
    obtain ⟨g, o, cap, T, x, rfl, h1, h2, h4, c1, c2, c3, ht⟩ := h.cons
    obtain ⟨fn, fj⟩ := f
    simp only [] at c1 c3
    have hbe : ((⟨fn.toArray⟩ : ByteArray).toList == nm.toList) = decide (fn = nm.data.toList) := by
      rw [ByteArray.toList_eq, ByteArray.toList_eq, Bool.eq_iff_iff, beq_iff_eq, decide_eq_true_iff]
    unfold maxLen at h2
    clear h
    by_cases he : fn = nm.data.toList
    · obtain ⟨A, hA, hA2⟩ := named_two (cap = 1) ⟨g, o, none⟩ ⟨g, o + 2, none⟩
      have hq : ((⟨fn.toArray⟩ : ByteArray).toList == nm.toList) = true := by rw [hbe]; exact decide_eq_true he
      have HV : Hid (takeV ((fn, fj) :: r) nm.data.toList = some fj) := if_pos he
      have HRr : Hid (takeR ((fn, fj) :: r) nm.data.toList = r) := if_pos he
      have HS : Hid (St av w.drew n fj (.iface T x)) := c3.ona (Below.refl _ _).drew
      have HT : Hid (Flds av w.drew n r (.slice (some A) r.length (cap - 1))) := (ht A hA2).below (Below.refl _ _).drew
      clear hbe he c3 ht HF0 hA2
      generalize (⟨fn.toArray⟩ : ByteArray) = fb at *
      generalize r.length = rl at *
      go_enter Tryd.func23, Tryd.ntmps23
      go_wp2_with fail
      go_region_with fail
      all_goals (go_wp2_with fail; go_ret2)
      all_goals exact ⟨(Below.refl _ _).drew, .iface T x, .slice (some A) rl (cap - 1), rfl, by rw [HV.out]; exact Or.inr ⟨_, _, _, rfl, rfl, HS.out⟩, by rw [HRr.out]; exact HT.out⟩
    · have hq : ((⟨fn.toArray⟩ : ByteArray).toList == nm.toList) = false := by rw [hbe]; exact decide_eq_false he
      have HV : Hid (takeV ((fn, fj) :: r) nm.data.toList = none) := if_neg he
      have HRr : Hid (takeR ((fn, fj) :: r) nm.data.toList = (fn, fj) :: r) := if_neg he
      clear hbe he c3 ht
      generalize (⟨fn.toArray⟩ : ByteArray) = fb at *
      go_enter Tryd.func23, Tryd.ntmps23
      go_wp2_with fail
      go_ret2
      exact ⟨Below.refl _ _, _, _, rfl, by rw [HV.out]; exact Or.inl ⟨rfl, rfl⟩, by rw [HRr.out]; exact HF0.out⟩
theorem less_bytes : ∀ (a b : Bs), Op.bytesLess a b = less a b
  | [], [] => by simp [Op.bytesLess, less, Lib.compareBytes]
  | [], _ :: _ => by simp [Op.bytesLess, less, Lib.compareBytes]
  | _ :: _, [] => by simp [Op.bytesLess, less, Lib.compareBytes]
  | x :: a, y :: b => by
    have ih := less_bytes a b
    simp only [Op.bytesLess, less, Lib.compareBytes] at ih ⊢
    by_cases h1 : x < y
    · simp [h1]
    · by_cases h2 : y < x
      · have h3 : (x == y) = false := by
          rw [beq_eq_false_iff_ne]
          rintro rfl
          exact h1 h2
        simp [h1, h2, h3]
      · have h3 : x = y := UInt8.le_antisymm (UInt8.not_lt.1 h2) (UInt8.not_lt.1 h1)
        subst h3
        simp [ih]
theorem drewN_below {B : Nat} {a w : World} (h : Below B a w) (n : Nat) : Below B a (w.drewN n) := ⟨h.os, h.tape, h.output, h.size, h.block⟩
set_option maxRecDepth 100000 in
set_option maxHeartbeats 1000000 in
theorem firstName_any (av : Nat → Prop) {n : Nat} (a b : List (Bs × J n)) (va vb : Value) (w : World) (ha : Flds av w n a va) (hb : Flds av w n b vb) (hne : a.length + b.length ≠ 0) :
    Calls Tryd.prog 22 #[va, vb] w fun e w' => e = .returned (.string ⟨(lowName a b).toArray⟩) ∧ Below w.heap.size w w' := by
  cases a with
  | nil =>
    cases b with
    | nil => simp at hne
    | cons g b =>
      obtain ⟨p, cap, rfl⟩ := ha.form
      obtain ⟨gb, ob, capb, T, x, rfl, h1, h2, h4, c1, c2, c3, ht⟩ := hb.cons
      have HL : Hid (lowName [] (g :: b) = g.1) := rfl
      unfold maxLen at h2
      clear ha hb hne ht c3
      rw [HL.out]
      generalize (⟨g.1.toArray⟩ : ByteArray) = gn at *
      have hI : ((b.length : Int) + 1 == 0) = false := by rw [beq_eq_false_iff_ne]; omega
      go_enter Tryd.func22, Tryd.ntmps22
      go_wp2_with fail
      go_quiet (fail)
      go_wp2_with fail
      go_ret
      exact ⟨rfl, drewN_below (Below.refl _ _) _⟩
  | cons f a =>
    cases b with
    | nil =>
      obtain ⟨p, cap, rfl⟩ := hb.form
      obtain ⟨ga, oa, capa, T, x, rfl, h1, h2, h4, c1, c2, c3, ht⟩ := ha.cons
      have HL : Hid (lowName (f :: a) [] = f.1) := rfl
      unfold maxLen at h2
      clear ha hb hne ht c3
      rw [HL.out]
      generalize (⟨f.1.toArray⟩ : ByteArray) = fn at *
      go_enter Tryd.func22, Tryd.ntmps22
      go_wp2_with fail
      go_quiet (fail)
      go_wp2_with fail
      go_ret
      exact ⟨rfl, drewN_below (Below.refl _ _) _⟩
    | cons g b =>
      obtain ⟨ga, oa, capa, T, x, rfl, h1, h2, h4, c1, c2, c3, ht⟩ := ha.cons
      obtain ⟨gb, ob, capb, T', x', rfl, k1, k2, k4, d1, d2, d3, kt⟩ := hb.cons
      unfold maxLen at h2 k2
      clear ha hb hne ht c3 kt d3
      have hI : ((b.length : Int) + 1 == 0) = false := by rw [beq_eq_false_iff_ne]; omega
      have hJ : (0 : Int) < (a.length : Int) + 1 := by omega
      have hbl := less_bytes f.1 g.1
      by_cases hl : less f.1 g.1 = true
      · have HL : Hid (lowName (f :: a) (g :: b) = f.1) := if_pos hl
        rw [hl] at hbl
        rw [HL.out]
        go_enter Tryd.func22, Tryd.ntmps22
        go_wp2_with fail
        go_quiet (fail)
        go_wp2_with fail
        go_ret
        exact ⟨rfl, drewN_below (Below.refl _ _) _⟩
      · have HL : Hid (lowName (f :: a) (g :: b) = g.1) := if_neg hl
        rw [Bool.not_eq_true] at hl
        rw [hl] at hbl
        rw [HL.out]
        go_enter Tryd.func22, Tryd.ntmps22
        go_wp2_with fail
        go_quiet (fail)
        go_wp2_with fail
        go_ret
        exact ⟨rfl, drewN_below (Below.refl _ _) _⟩
end Go.Proofs.YtjcdklbimaclkaaDoor
