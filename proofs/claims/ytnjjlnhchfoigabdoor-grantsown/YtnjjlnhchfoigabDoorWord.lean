/- Plain functions on bytes: what a name, a key's last part and a value are. -/
import Derived.WalkKit
import Derived.Laws.Externs
namespace Go.Proofs.YtnjjlnhchfoigabDoor
def small (n : Int) : Bool := (decide (97 ≤ n) && decide (n ≤ 122)) || (decide (48 ≤ n) && decide (n ≤ 57))
def letter (n : Int) : Bool := small n || (decide (65 ≤ n) && decide (n ≤ 90))
/-- the k-th byte, as a number (0 behind the end) -/
def byteI (s : ByteArray) (k : Nat) : Int := if h : k < s.size then (s[k].toNat : Int) else 0
theorem byteI_of {s : ByteArray} {k : Nat} (h : k < s.size) : byteI s k = (s[k].toNat : Int) := dif_pos h
theorem u8_back (c : UInt8) : (c.toNat : Int).toNat.toUInt8 = c := by simp
/-- may the byte stand within a word? -/
def okB (P : Int → Bool) (sg : ByteArray) (n : Int) : Bool := P n || decide (0 ≤ firstIdx sg n.toNat.toUInt8)
def WordP (P : Int → Bool) (sg s : ByteArray) : Prop :=
  1 ≤ s.size ∧ s.size ≤ 63 ∧ P (byteI s 0) = true ∧ P (byteI s (s.size - 1)) = true ∧ ∀ k, k < s.size → okB P sg (byteI s k) = true
def wordB (P : Int → Bool) (sg s : ByteArray) : Bool :=
  decide (1 ≤ s.size) && (decide (s.size ≤ 63) && (P (byteI s 0) && (P (byteI s (s.size - 1)) && (List.range s.size).all fun k => okB P sg (byteI s k))))
theorem wordB_iff {P : Int → Bool} {sg s : ByteArray} : wordB P sg s = true ↔ WordP P sg s := by
  simp only [wordB, WordP, Bool.and_eq_true, decide_eq_true_eq, List.all_eq_true, List.mem_range]
theorem wordB_false {P : Int → Bool} {sg s : ByteArray} (h : ¬ WordP P sg s) : wordB P sg s = false := by
  rw [← Bool.not_eq_true, wordB_iff]
  exact h
theorem word_f1 {P : Int → Bool} {sg s : ByteArray} (h : (s.size : Int) < 1) : wordB P sg s = false := wordB_false (fun h' => by have := h'.1; omega)
theorem word_f2 {P : Int → Bool} {sg s : ByteArray} (h : (63 : Int) < s.size) : wordB P sg s = false := wordB_false (fun h' => by have := h'.2.1; omega)
theorem word_f3 {P : Int → Bool} {sg s : ByteArray} (h0 : 0 < s.size) (h : P (s[0].toNat : Int) = false) : wordB P sg s = false :=
  wordB_false (fun h' => by have := h'.2.2.1; rw [byteI_of h0, h] at this; cases this)
theorem word_f4 {P : Int → Bool} {sg s : ByteArray} (h0 : s.size - 1 < s.size) (h : P (s[s.size - 1].toNat : Int) = false) : wordB P sg s = false :=
  wordB_false (fun h' => by have := h'.2.2.2.1; rw [byteI_of h0, h] at this; cases this)
theorem word_f5 {P : Int → Bool} {sg s : ByteArray} {k : Nat} (hk : k < s.size) (h : P (s[k].toNat : Int) = false) (h' : firstIdx sg s[k] < 0) : wordB P sg s = false :=
  wordB_false (fun g => by have := g.2.2.2.2 k hk; rw [byteI_of hk] at this; simp only [okB, h, Bool.false_or, decide_eq_true_eq, u8_back] at this; omega)
theorem word_t {P : Int → Bool} {sg s : ByteArray} (h1 : ¬ (s.size : Int) < 1) (h2 : ¬ (63 : Int) < s.size) (h0 : 0 < s.size) (h3 : P (s[0].toNat : Int) = true) (hl : s.size - 1 < s.size)
    (h4 : P (s[s.size - 1].toNat : Int) = true) (h5 : ∀ k, k < s.size → okB P sg (byteI s k) = true) : wordB P sg s = true :=
  wordB_iff.mpr ⟨by omega, by omega, by rw [byteI_of h0]; exact h3, by rw [byteI_of hl]; exact h4, h5⟩
theorem okB_plain {P : Int → Bool} {sg s : ByteArray} {k : Nat} (hk : k < s.size) (h : P (s[k].toNat : Int) = true) : okB P sg (byteI s k) = true := by
  rw [byteI_of hk]; simp [okB, h]
theorem okB_sign {P : Int → Bool} {sg s : ByteArray} {k : Nat} (hk : k < s.size) (h : ¬ firstIdx sg s[k] < 0) : okB P sg (byteI s k) = true := by
  rw [byteI_of hk]; simp only [okB, Bool.or_eq_true, decide_eq_true_eq, u8_back]; right; omega
/-- is it a NAME? -/
def nameB (s : ByteArray) : Bool := wordB small { data := #[45] } s
/-- can it be the last part of a key? -/
def lastB (s : ByteArray) : Bool := wordB letter { data := #[45, 95, 46] } s
/-- what Check answers -/
def checkI (s : ByteArray) : Int := if 63 < s.size then 2 else if nameB s = true then 0 else 6
/-- is it a VAL? -/
def valB (s : ByteArray) : Bool := decide (s.size = 0) || lastB s
/-- what CheckVal answers -/
def valI (s : ByteArray) : Int := if 63 < s.size then 2 else if valB s = true then 0 else 6
theorem checkI_large {s : ByteArray} (h : (63 : Int) < s.size) : checkI s = 2 := if_pos (by omega)
theorem checkI_ok {s : ByteArray} (h : ¬ (63 : Int) < s.size) (h' : nameB s = true) : checkI s = 0 := by unfold checkI; rw [if_neg (by omega), if_pos h']
theorem checkI_bad {s : ByteArray} (h : ¬ (63 : Int) < s.size) (h' : nameB s = false) : checkI s = 6 := by unfold checkI; rw [if_neg (by omega), if_neg (by simp [h'])]
theorem valI_large {s : ByteArray} (h : (63 : Int) < s.size) : valI s = 2 := if_pos (by omega)
theorem valI_ok {s : ByteArray} (h : ¬ (63 : Int) < s.size) (h' : valB s = true) : valI s = 0 := by unfold valI; rw [if_neg (by omega), if_pos h']
theorem valI_bad {s : ByteArray} (h : ¬ (63 : Int) < s.size) (h' : valB s = false) : valI s = 6 := by unfold valI; rw [if_neg (by omega), if_neg (by simp [h'])]
theorem ret_int {k : IntKind} {a b : Int} (h : a = b) : Ending.returned (.int k a) = .returned (.int k b) := by rw [h]
theorem ret_bool {a b : Bool} (h : a = b) : Ending.returned (.bool a) = .returned (.bool b) := by rw [h]
theorem toList_empty_eq {s : ByteArray} (h : s.size = 0) : s = { data := #[] } := by
  cases s with
  | mk d => have h0 : d.size = 0 := h; have h1 : d = #[] := Array.eq_empty_of_size_eq_zero h0; rw [h1]
theorem size_cons_ne {s : ByteArray} (h : ¬ s.size = 0) : (s.toList == []) = false := by
  rw [ByteArray.toList_eq]
  cases hd : s.data.toList with
  | nil => exact absurd (by simpa using congrArg List.length hd) h
  | cons a l => rfl
theorem checkI_size {s : ByteArray} (h : checkI s = 0) : s.size ≤ 63 := by
  unfold checkI at h
  by_cases hl : 63 < s.size
  · rw [if_pos hl] at h; omega
  · omega
theorem size_join (a b : ByteArray) : (a ++ { data := #[45] } ++ b).size = a.size + 1 + b.size := by
  simp [ByteArray.size_append]
  rfl
end Go.Proofs.YtnjjlnhchfoigabDoor
