/- Plain facts on keys and values: a name and a sign ahead of a text. -/
import Derived.Test.YtgaopmdpcjcooaaGreatDoorKeyPlain
namespace Go.Proofs.YtgaopmdpcjcooaaGreatDoor
theorem index_miss (c : UInt8) : ∀ l : List UInt8, c ∉ l → Lib.index l [c] = -1
  | [], _ => rfl
  | b :: l, h => by
    have hb : ¬ c = b := fun e => h (by rw [e]; exact List.mem_cons_self ..)
    have ih := index_miss c l (fun e => h (List.mem_cons_of_mem _ e))
    have hp : ([c] : List UInt8).isPrefixOf (b :: l) = false := by simp [List.isPrefixOf, hb]
    unfold Lib.index
    rw [hp, ih]
    rfl
theorem index_at (c : UInt8) (r : List UInt8) : ∀ l : List UInt8, c ∉ l → Lib.index (l ++ c :: r) [c] = l.length
  | [], _ => by unfold Lib.index; simp [List.isPrefixOf]
  | b :: l, h => by
    have hb : ¬ c = b := fun e => h (by rw [e]; exact List.mem_cons_self ..)
    have ih := index_at c r l (fun e => h (List.mem_cons_of_mem _ e))
    have hp : ([c] : List UInt8).isPrefixOf (b :: (l ++ c :: r)) = false := by simp [List.isPrefixOf, hb]
    rw [List.cons_append]
    unfold Lib.index
    rw [hp, ih]
    have hn : (((l.length : Nat) : Int) == -1) = false := by rw [beq_eq_false_iff_ne]; omega
    simp [hn]
theorem mem_byteI {c : UInt8} {s : ByteArray} (h : c ∈ s.data.toList) : ∃ k, k < s.size ∧ byteI s k = (c.toNat : Int) := by
  obtain ⟨k, hk, e⟩ := List.mem_iff_getElem.mp h
  refine ⟨k, by simpa using hk, ?_⟩
  rw [byteI_list, List.getElem?_eq_getElem hk, e]
  rfl
theorem word_no {P : Int → Bool} {sg s : ByteArray} (h : WordP P sg s) (c : UInt8) (hc : okB P sg (c.toNat : Int) = false) : c ∉ s.data.toList := by
  intro hm
  obtain ⟨k, hk, e⟩ := mem_byteI hm
  have := h.2.2.2.2 k hk
  rw [e, hc] at this
  cases this
theorem name_no47 {s : ByteArray} (h : nameB s = true) : (47 : UInt8) ∉ s.data.toList := word_no (nameB_iff.mp h) 47 (by decide)
theorem name_no46 {s : ByteArray} (h : nameB s = true) : (46 : UInt8) ∉ s.data.toList := word_no (nameB_iff.mp h) 46 (by decide)
theorem last_no47 {s : ByteArray} (h : lastB s = true) : (47 : UInt8) ∉ s.data.toList := word_no (lastB_iff.mp h) 47 (by decide)
theorem last_not {s : ByteArray} (h : (47 : UInt8) ∈ s.data.toList) : lastB s = false := by
  cases e : lastB s with
  | false => rfl
  | true => exact absurd h (last_no47 e)
theorem parts_alone {c : UInt8} {s : ByteArray} (h : c ∉ s.data.toList) : partsB c s = [s] := by
  unfold partsB
  exact Lib.splitB_miss _ _ _ _ (index_miss c _ h)
theorem names_of_name {s : ByteArray} (h : nameB s = true) : namesB s = true := by
  unfold namesB
  rw [parts_alone (name_no46 h)]
  simp [h]
theorem cut_miss {s : ByteArray} (h : (47 : UInt8) ∉ s.data.toList) : (Lib.cut s.data.toList [47]).2.2 = false := by
  unfold Lib.cut
  rw [index_miss 47 _ h]
  rfl
theorem cut_at {a b : List UInt8} (h : (47 : UInt8) ∉ a) : Lib.cut (a ++ 47 :: b) [47] = (a, b, true) := by
  unfold Lib.cut
  rw [index_at 47 b a h, if_pos (by omega)]
  simp
theorem joined_list (a b : ByteArray) : (a ++ { data := #[47] } ++ b).data.toList = a.data.toList ++ 47 :: b.data.toList := by
  simp
theorem size_slash (a b : ByteArray) : (a ++ { data := #[47] } ++ b).size = a.size + 1 + b.size := by
  simp [ByteArray.size_append]
  rfl
theorem key_of_name {s : ByteArray} (h : checkI s = 0) : keyI s = 0 := by
  have hn := checkI_zero.mp h
  have hz := (nameB_iff.mp hn).2.1
  exact keyI_ok (by omega) (by rw [key_one (cut_miss (name_no47 hn))]; exact name_last hn)
theorem key_slash {a b : ByteArray} (h : checkI a = 0) : keyB (a ++ { data := #[47] } ++ b) = lastB b := by
  have hn := checkI_zero.mp h
  have hc : Lib.cut (a ++ { data := #[47] } ++ b).data.toList [47] = (a.data.toList, b.data.toList, true) := by rw [joined_list]; exact cut_at (name_no47 hn)
  rw [key_two hc, names_of_name hn, Bool.true_and]
theorem key_slash_large {a b : ByteArray} (h : 63 < a.size + b.size) : keyI (a ++ { data := #[47] } ++ b) = 2 := keyI_large (by rw [size_slash]; omega)
theorem key_slash_ok {a b : ByteArray} (h : checkI a = 0) (hs : ¬ 63 < a.size + b.size) (hb : lastB b = true) : keyI (a ++ { data := #[47] } ++ b) = 0 :=
  keyI_ok (by rw [size_slash]; omega) (by rw [key_slash h]; exact hb)
theorem key_slash_bad {a b : ByteArray} (h : checkI a = 0) (hs : ¬ 63 < a.size + b.size) (hb : lastB b = false) : keyI (a ++ { data := #[47] } ++ b) = 6 :=
  keyI_bad (by rw [size_slash]; omega) (by rw [key_slash h]; exact hb)
theorem val_slash {a b : ByteArray} : valI (a ++ { data := #[47] } ++ b) ≠ 0 := by
  unfold valI
  split
  · decide
  · have hl : lastB (a ++ { data := #[47] } ++ b) = false := last_not (by rw [joined_list]; simp)
    have hz := size_slash a b
    have hv : valB (a ++ { data := #[47] } ++ b) = false := by
      unfold valB
      rw [hl, decide_eq_false (by omega)]
      rfl
    rw [hv]
    decide
theorem last_empty {b : ByteArray} (h : b.size = 0) : lastB b = false := by
  cases e : lastB b with
  | false => rfl
  | true => have := (lastB_iff.mp e).1; omega
theorem val_of_last {b : ByteArray} (h : lastB b = true) : valI b = 0 := by
  have := (lastB_iff.mp h).2.1
  exact valI_ok (by omega) (by simp [valB, h])
theorem val_bad {b : ByteArray} (h0 : b.size ≠ 0) (hs : b.size ≤ 63) (h : lastB b = false) : valI b = 6 :=
  valI_bad (by omega) (by simp [valB, h, h0])
theorem key_sign : keyI { data := #[47] } = 6 :=
  keyI_bad (by decide) (by
    have hc : Lib.cut ({ data := #[47] } : ByteArray).data.toList [47] = (({ data := #[] } : ByteArray).data.toList, ({ data := #[] } : ByteArray).data.toList, true) := cut_at (a := []) (b := []) (by simp)
    rw [key_two hc, last_empty (b := { data := #[] }) rfl, Bool.and_false])
end Go.Proofs.YtgaopmdpcjcooaaGreatDoor
