/- Plain facts on keys: one or two parts. -/
import Derived.Test.YtgaopmdpcjcooaaGreatDoorPlain
import Derived.Lib.SplitLaws
namespace Go.Proofs.YtgaopmdpcjcooaaGreatDoor
/-- the texts between one byte -/
def partsB (c : UInt8) (s : ByteArray) : List ByteArray := Lib.splitB { data := #[c] } 0 (Lib.countB s { data := #[c] }) s
theorem parts_length (c : UInt8) (s : ByteArray) : (partsB c s).length = Lib.countB s { data := #[c] } + 1 := Lib.splitB_all { data := #[c] } (Nat.le_refl 1) 0 _ s rfl
theorem split_size (sep : ByteArray) : ∀ (k : Nat) (s x : ByteArray), x ∈ Lib.splitB sep 0 k s → x.size ≤ s.size
  | 0, s, x, h => by rw [Lib.splitB_zero] at h; simp at h; rw [h]; exact Nat.le_refl _
  | k + 1, s, x, h => by
    unfold Lib.splitB at h
    split at h
    · simp at h; rw [h]; exact Nat.le_refl _
    · rcases List.mem_cons.mp h with rfl | h
      · rw [ByteArray.size_extract]; omega
      · have := split_size sep k _ x h
        rw [ByteArray.size_extract] at this; omega
theorem parts_size {c : UInt8} {s x : ByteArray} (h : x ∈ partsB c s) : x.size ≤ s.size := split_size _ _ _ _ h
/-- are all texts between the dots names? -/
def namesB (s : ByteArray) : Bool := (partsB 46 s).all nameB
theorem names_t {s : ByteArray} (h : ∀ j, j < (partsB 46 s).length → nameB ((partsB 46 s).getD j ByteArray.empty) = true) : namesB s = true := by
  unfold namesB
  rw [List.all_eq_true]
  intro x hx
  obtain ⟨j, hj, rfl⟩ := List.mem_iff_getElem.mp hx
  have := h j hj
  rwa [List.getD_eq_getElem?_getD, List.getElem?_eq_getElem hj] at this
theorem names_f {s : ByteArray} {j : Nat} (hj : j < (partsB 46 s).length) (h : nameB ((partsB 46 s).getD j ByteArray.empty) = false) : namesB s = false := by
  unfold namesB
  rw [List.all_eq_false]
  refine ⟨(partsB 46 s).getD j ByteArray.empty, ?_, by rw [h]; decide⟩
  rw [List.getD_eq_getElem?_getD, List.getElem?_eq_getElem hj]
  exact List.getElem_mem hj
theorem part_size {c : UInt8} {s : ByteArray} {j : Nat} (hj : j < (partsB c s).length) : ((partsB c s).getD j ByteArray.empty).size ≤ s.size := by
  apply parts_size (c := c)
  rw [List.getD_eq_getElem?_getD, List.getElem?_eq_getElem hj]
  exact List.getElem_mem hj
theorem texts_cells (w : World) (l : List ByteArray) (t : TypeId) (k : Nat) (hk : k < l.length) :
    (w.alloc (.cells (l.map Value.string).toArray t)).cell? ⟨w.heap.size, k, none⟩ = some (.string (l.getD k ByteArray.empty)) := by
  rw [World.cell?_alloc_at _ _ _ _ rfl]
  simp [hk]
/-- is it a KEY? -/
def keyB (s : ByteArray) : Bool :=
  match Lib.cut s.data.toList [47] with
  | (a, b, true) => namesB { data := a.toArray } && lastB { data := b.toArray }
  | (_, _, false) => lastB s
def keyI (s : ByteArray) : Int := if 64 < s.size then 2 else if keyB s = true then 0 else 6
theorem keyI_large {s : ByteArray} (h : (64 : Int) < s.size) : keyI s = 2 := if_pos (by omega)
theorem keyI_ok {s : ByteArray} (h : ¬ (64 : Int) < s.size) (h' : keyB s = true) : keyI s = 0 := by unfold keyI; rw [if_neg (by omega), if_pos h']
theorem keyI_bad {s : ByteArray} (h : ¬ (64 : Int) < s.size) (h' : keyB s = false) : keyI s = 6 := by unfold keyI; rw [if_neg (by omega), if_neg (by simp [h'])]
theorem bytes_of {a : ByteArray} {l : List UInt8} (h : l = a.data.toList) : ({ data := l.toArray } : ByteArray) = a := by
  subst h
  rfl
theorem key_two {s a b : ByteArray} (h : Lib.cut s.data.toList [47] = (a.data.toList, b.data.toList, true)) : keyB s = (namesB a && lastB b) := by
  unfold keyB; rw [h]
theorem key_one {s : ByteArray} (h : (Lib.cut s.data.toList [47]).2.2 = false) : keyB s = lastB s := by
  unfold keyB
  generalize Lib.cut s.data.toList [47] = c at h
  obtain ⟨a, b, t⟩ := c
  simp only at h
  subst h
  rfl
theorem cut_sizes {s a b : ByteArray} (h : Lib.cut s.data.toList [47] = (a.data.toList, b.data.toList, true)) : a.size ≤ s.size ∧ b.size ≤ s.size := by
  unfold Lib.cut at h
  split at h
  · simp only [Prod.mk.injEq] at h
    have h1 := congrArg List.length h.1
    have h2 := congrArg List.length h.2.1
    simp only [List.length_take, List.length_drop] at h1 h2
    have e1 : a.data.toList.length = a.size := rfl
    have e2 : b.data.toList.length = b.size := rfl
    have e3 : s.data.toList.length = s.size := rfl
    omega
  · simp at h
theorem cut_some (s : ByteArray) (h : (Lib.cut s.data.toList [47]).2.2 = true) : ∃ a b : ByteArray, Lib.cut s.data.toList [47] = (a.data.toList, b.data.toList, true) := by
  generalize Lib.cut s.data.toList [47] = c at h
  obtain ⟨a, b, t⟩ := c
  simp only at h
  subst h
  exact ⟨{ data := a.toArray }, { data := b.toArray }, by simp⟩
end Go.Proofs.YtgaopmdpcjcooaaGreatDoor
