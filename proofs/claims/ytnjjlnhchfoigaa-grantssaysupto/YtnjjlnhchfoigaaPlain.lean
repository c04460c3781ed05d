/- Plain facts on words of bytes: a name is a value; two names with a sign between are a name. -/
import Derived.Test.YtnjjlnhchfoigaaWord
namespace Go.Proofs.Ytnjjlnhchfoigaa
theorem idx_dash (c : UInt8) : 0 ≤ firstIdx { data := #[45] } c ↔ c = 45 := by
  have r : List.range (ByteArray.size { data := #[45] }) = [0] := rfl
  have e : ({ data := #[45] } : ByteArray)[0]! = 45 := rfl
  unfold firstIdx
  rw [r]
  simp only [List.find?, e]
  by_cases h : (45 : UInt8) = c
  · simp [← h]
  · have hb : ((45 : UInt8) == c) = false := by simpa using h
    simp [hb]
    exact fun g => h g.symm
theorem idx_signs (c : UInt8) : 0 ≤ firstIdx { data := #[45, 95, 46] } c ↔ c = 45 ∨ c = 95 ∨ c = 46 := by
  have r : List.range (ByteArray.size { data := #[45, 95, 46] }) = [0, 1, 2] := rfl
  have e0 : ({ data := #[45, 95, 46] } : ByteArray)[0]! = 45 := rfl
  have e1 : ({ data := #[45, 95, 46] } : ByteArray)[1]! = 95 := rfl
  have e2 : ({ data := #[45, 95, 46] } : ByteArray)[2]! = 46 := rfl
  unfold firstIdx
  rw [r]
  simp only [List.find?, e0, e1, e2]
  by_cases h0 : (45 : UInt8) = c
  · simp [← h0]
  · have b0 : ((45 : UInt8) == c) = false := by simpa using h0
    have n0 : ¬ c = 45 := fun g => h0 g.symm
    by_cases h1 : (95 : UInt8) = c
    · simp [← h1]
    · have b1 : ((95 : UInt8) == c) = false := by simpa using h1
      have n1 : ¬ c = 95 := fun g => h1 g.symm
      by_cases h2 : (46 : UInt8) = c
      · simp [← h2]
      · have b2 : ((46 : UInt8) == c) = false := by simpa using h2
        have n2 : ¬ c = 46 := fun g => h2 g.symm
        simp [b0, b1, b2, n0, n1, n2]
theorem small_letter {n : Int} (h : small n = true) : letter n = true := by simp [letter, h]
theorem ok_small_letter {n : Int} (h : okB small { data := #[45] } n = true) : okB letter { data := #[45, 95, 46] } n = true := by
  simp only [okB, Bool.or_eq_true, decide_eq_true_eq] at h ⊢
  rcases h with h | h
  · exact .inl (small_letter h)
  · exact .inr ((idx_signs _).mpr (.inl ((idx_dash _).mp h)))
theorem nameB_iff {s : ByteArray} : nameB s = true ↔ WordP small { data := #[45] } s := wordB_iff
theorem lastB_iff {s : ByteArray} : lastB s = true ↔ WordP letter { data := #[45, 95, 46] } s := wordB_iff
theorem name_last {s : ByteArray} (h : nameB s = true) : lastB s = true := by
  rw [nameB_iff] at h
  rw [lastB_iff]
  exact ⟨h.1, h.2.1, small_letter h.2.2.1, small_letter h.2.2.2.1, fun k hk => ok_small_letter (h.2.2.2.2 k hk)⟩
theorem byteI_list (s : ByteArray) (k : Nat) : byteI s k = ((s.data.toList[k]?.getD 0).toNat : Int) := by
  unfold byteI
  by_cases h : k < s.size
  · have h' : k < s.data.toList.length := by simpa using h
    rw [dif_pos h, List.getElem?_eq_getElem h']
    rfl
  · have h' : s.data.toList.length ≤ k := by
      have : ¬ k < s.data.toList.length := by simpa using h
      omega
    rw [dif_neg h, List.getElem?_eq_none h']
    rfl
theorem byteI_left {a b : ByteArray} {k : Nat} (h : k < a.size) : byteI (a ++ b) k = byteI a k := by
  have h' : k < a.data.toList.length := by simpa using h
  rw [byteI_list, byteI_list, ByteArray.data_append, Array.toList_append, List.getElem?_append_left h']
theorem byteI_right {a b : ByteArray} {k : Nat} (h : a.size ≤ k) : byteI (a ++ b) k = byteI b (k - a.size) := by
  have h' : a.data.toList.length ≤ k := by simpa using h
  have e : a.data.toList.length = a.size := by simp
  rw [byteI_list, byteI_list, ByteArray.data_append, Array.toList_append, List.getElem?_append_right h', e]
theorem size_one (c : UInt8) : ByteArray.size { data := #[c] } = 1 := rfl
theorem byteI_joined {a b : ByteArray} (c : UInt8) {k : Nat} : byteI (a ++ { data := #[c] } ++ b) k = if k < a.size then byteI a k else if k = a.size then (c.toNat : Int) else byteI b (k - a.size - 1) := by
  have e : (a ++ ({ data := #[c] } : ByteArray)).size = a.size + 1 := by rw [ByteArray.size_append]; rfl
  by_cases h : k < a.size
  · rw [if_pos h, byteI_left (by omega), byteI_left h]
  · rw [if_neg h]
    by_cases h2 : k = a.size
    · rw [if_pos h2, byteI_left (by omega), byteI_right (by omega), h2, Nat.sub_self]
      rfl
    · rw [if_neg h2, byteI_right (by omega), e]
      congr 1
theorem name_join {a b : ByteArray} (ha : nameB a = true) (hb : nameB b = true) (h : a.size + b.size < 63) : nameB (a ++ { data := #[45] } ++ b) = true := by
  rw [nameB_iff] at ha hb ⊢
  obtain ⟨a1, a2, a3, a4, a5⟩ := ha
  obtain ⟨b1, b2, b3, b4, b5⟩ := hb
  have hz := size_join a b
  refine ⟨by omega, by omega, ?_, ?_, ?_⟩
  · rw [byteI_joined, if_pos (by omega)]; exact a3
  · rw [byteI_joined, hz, if_neg (by omega), if_neg (by omega)]
    rw [show a.size + 1 + b.size - 1 - a.size - 1 = b.size - 1 from by omega]
    exact b4
  · intro k hk
    rw [hz] at hk
    rw [byteI_joined]
    by_cases h1 : k < a.size
    · rw [if_pos h1]; exact a5 k h1
    · rw [if_neg h1]
      by_cases h2 : k = a.size
      · rw [if_pos h2]; decide
      · rw [if_neg h2]; exact b5 _ (by omega)
theorem checkI_zero {s : ByteArray} : checkI s = 0 ↔ nameB s = true := by
  constructor
  · intro h
    unfold checkI at h
    split at h
    · omega
    · split at h
      · assumption
      · omega
  · intro h
    have := (nameB_iff.mp h).2.1
    exact checkI_ok (by omega) h
theorem valI_of_name {s : ByteArray} (h : checkI s = 0) : valI s = 0 := by
  have hn := checkI_zero.mp h
  have := (nameB_iff.mp hn).2.1
  exact valI_ok (by omega) (by simp [valB, name_last hn])
theorem checkI_empty : checkI { data := #[] } = 6 := by decide
theorem valI_empty : valI { data := #[] } = 0 := by decide
theorem join_good {a b : ByteArray} (ha : checkI a = 0) (hb : checkI b = 0) (h : a.size + b.size < 63) : checkI (a ++ { data := #[45] } ++ b) = 0 :=
  checkI_zero.mpr (name_join (checkI_zero.mp ha) (checkI_zero.mp hb) h)
theorem join_large {a b : ByteArray} (h : ¬ a.size + b.size < 63) : checkI (a ++ { data := #[45] } ++ b) = 2 :=
  checkI_large (by rw [size_join]; omega)
end Go.Proofs.Ytnjjlnhchfoigaa
