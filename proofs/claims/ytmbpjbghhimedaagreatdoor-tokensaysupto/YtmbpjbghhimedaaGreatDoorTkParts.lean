/- Plain facts: texts cut at a sign, and put together again; what strings.Split, SplitN and LastIndexByte answer, by them. -/
import Derived.Test.YtmbpjbghhimedaaGreatDoorSlBase
import Derived.Lib.SplitLaws
import Derived.Lib.Join
import Derived.Lib.LastIndexByte
namespace Go.Proofs.YtmbpjbghhimedaaGreatDoor
set_option linter.unusedVariables false
set_option linter.unusedSimpArgs false
theorem index_cons (b : UInt8) (l sub : Bs) (h : sub.isPrefixOf (b :: l) = false) : Lib.index (b :: l) sub = if Lib.index l sub == -1 then -1 else Lib.index l sub + 1 := by
  rw [Lib.index, h]
  simp
theorem index_pre (s sub : Bs) (h : sub.isPrefixOf s = true) (hs : s ≠ []) : Lib.index s sub = ((0 : Nat) : Int) := by
  cases s with
  | nil => exact absurd rfl hs
  | cons b l =>
    rw [Lib.index, h]
    simp
theorem index_nil (sub : Bs) (h : sub ≠ []) : Lib.index [] sub = -1 := by
  cases sub with
  | nil => exact absurd rfl h
  | cons c r => simp [Lib.index]
/-- a text cut at each sign c -/
def parts (c : UInt8) : Bs → List Bs
  | [] => [[]]
  | b :: l => if b = c then [] :: parts c l else match parts c l with
    | [] => [[b]]
    | x :: xs => (b :: x) :: xs
theorem parts_ne (c : UInt8) : ∀ s, parts c s ≠ []
  | [] => by simp [parts]
  | b :: l => by
    rw [parts]
    split
    · simp
    · split <;> simp
theorem parts_same (c : UInt8) (l : Bs) : parts c (c :: l) = [] :: parts c l := by rw [parts, if_pos rfl]
theorem parts_other (c b : UInt8) (l : Bs) (h : b ≠ c) : ∃ x xs, parts c l = x :: xs ∧ parts c (b :: l) = (b :: x) :: xs := by
  cases hp : parts c l with
  | nil => exact absurd hp (parts_ne c l)
  | cons x xs => exact ⟨x, xs, rfl, by rw [parts, if_neg h, hp]⟩
theorem parts_len (c : UInt8) : ∀ s : Bs, (parts c s).length = s.count c + 1
  | [] => rfl
  | b :: l => by
    have ih := parts_len c l
    by_cases h : b = c
    · subst h
      rw [parts_same, List.length_cons, ih, List.count_cons_self]
    · obtain ⟨x, xs, h1, h2⟩ := parts_other c b l h
      rw [h2, List.length_cons, List.count_cons_of_ne h, ← ih, h1, List.length_cons]
theorem parts_clean (c : UInt8) : ∀ (s x : Bs), x ∈ parts c s → c ∉ x
  | [], x, h => by
    simp [parts] at h
    subst h
    simp
  | b :: l, x, h => by
    have ih := parts_clean c l
    by_cases hb : b = c
    · subst hb
      rw [parts_same] at h
      rcases List.mem_cons.1 h with rfl | h
      · simp
      · exact ih x h
    · obtain ⟨y, ys, h1, h2⟩ := parts_other c b l hb
      rw [h2] at h
      rw [h1] at ih
      rcases List.mem_cons.1 h with rfl | h
      · intro hc
        rcases List.mem_cons.1 hc with h | h
        · exact hb h.symm
        · exact ih y (by simp) h
      · exact ih x (by simp [h])
theorem join_two (x y : Bs) (r : List Bs) (sep : Bs) : Lib.join (x :: y :: r) sep = x ++ sep ++ Lib.join (y :: r) sep := by
  simp [Lib.join, List.intercalate]
theorem join_parts (c : UInt8) : ∀ s : Bs, Lib.join (parts c s) [c] = s
  | [] => rfl
  | b :: l => by
    have ih := join_parts c l
    by_cases h : b = c
    · subst h
      rw [parts_same]
      cases hp : parts b l with
      | nil => exact absurd hp (parts_ne b l)
      | cons x xs =>
        rw [join_two, ← hp, ih]
        rfl
    · obtain ⟨x, xs, h1, h2⟩ := parts_other c b l h
      rw [h1] at ih
      rw [h2]
      cases xs with
      | nil =>
        rw [Lib.join_one] at ih ⊢
        rw [ih]
      | cons y ys =>
        rw [join_two] at ih ⊢
        rw [← ih]
        rfl
theorem parts_none (c : UInt8) : ∀ s : Bs, c ∉ s → parts c s = [s]
  | [], _ => rfl
  | b :: l, h => by
    have ih := parts_none c l (fun e => h (by simp [e]))
    rw [parts, if_neg (fun e => h (by simp [e])), ih]
theorem parts_cat (c : UInt8) : ∀ (a r : Bs), c ∉ a → parts c (a ++ [c] ++ r) = a :: parts c r
  | [], r, _ => parts_same c r
  | b :: l, r, h => by
    have ih := parts_cat c l r (fun e => h (by simp [e]))
    show parts c (b :: (l ++ [c] ++ r)) = _
    rw [parts, if_neg (fun e => h (by simp [e])), ih]
theorem parts_join (c : UInt8) : ∀ (l : List Bs), l ≠ [] → (∀ x ∈ l, c ∉ x) → parts c (Lib.join l [c]) = l
  | [], h, _ => absurd rfl h
  | [x], _, h => by
    rw [Lib.join_one]
    exact parts_none c x (h x (by simp))
  | x :: y :: r, _, h => by
    have ih := parts_join c (y :: r) (by simp) (fun z hz => h z (by simp [hz]))
    rw [join_two, parts_cat c x _ (h x (by simp)), ih]
theorem parts_last (c : UInt8) : ∀ (a b : Bs), c ∉ b → parts c (a ++ [c] ++ b) = parts c a ++ [b]
  | [], b, h => by
    show parts c (c :: b) = _
    rw [parts_same, parts_none c b h]
    rfl
  | x :: a, b, h => by
    have ih := parts_last c a b h
    show parts c (x :: (a ++ [c] ++ b)) = _
    by_cases hx : x = c
    · subst hx
      rw [parts_same, parts_same, ih]
      rfl
    · obtain ⟨y, ys, h1, h2⟩ := parts_other c x a hx
      rw [h2, parts, if_neg hx, ih, h1]
      rfl
theorem split_parts (c : UInt8) : ∀ s : Bs, Lib.splitK [c] 0 (Lib.count s [c]) s = parts c s
  | [] => by
    rw [Lib.count_miss (index_nil [c] (by simp))]
    rfl
  | b :: l => by
    have ih := split_parts c l
    by_cases h : b = c
    · subst h
      have hi := index_pre (b :: l) [b] (by simp) (by simp)
      rw [Lib.count_cons_eq, Nat.add_comm, parts, if_pos rfl, ← ih]
      have hm : ¬ (Lib.index (b :: l) [b] == -1) = true := fun e => by have := beq_iff_eq.1 e; omega
      rw [Lib.splitK, if_neg hm, hi]
      simp
    · have hp : ([c] : Bs).isPrefixOf (b :: l) = false := by simp [List.isPrefixOf, Ne.symm h]
      have hx := index_cons b l [c] hp
      rw [Lib.count_cons_ne b c l h, parts, if_neg h, ← ih]
      by_cases hm : Lib.index l [c] = -1
      · rw [Lib.count_miss hm]
        rfl
      · have hge := Lib.index_ge l [c]
        obtain ⟨j, hj⟩ : ∃ j : Nat, Lib.index l [c] = j := ⟨(Lib.index l [c]).toNat, by omega⟩
        have hx' : Lib.index (b :: l) [c] = ((j + 1 : Nat) : Int) := by rw [hx, if_neg (fun e => hm (beq_iff_eq.1 e)), hj]; omega
        rw [Lib.count_hit (by simp) hj, Nat.add_comm 1]
        have m1 : ¬ (Lib.index (b :: l) [c] == -1) = true := fun e => by have := beq_iff_eq.1 e; omega
        have m2 : ¬ (Lib.index l [c] == -1) = true := fun e => by have := beq_iff_eq.1 e; omega
        rw [Lib.splitK, Lib.splitK, if_neg m1, if_neg m2, hj, hx']
        simp
/-- cut at most k times: all parts if there are no more, else one more than k -/
theorem splitK_many (c : UInt8) : ∀ (k : Nat) (s : Bs), (Lib.count s [c] ≤ k → Lib.splitK [c] 0 k s = Lib.splitK [c] 0 (Lib.count s [c]) s) ∧ (k < Lib.count s [c] → (Lib.splitK [c] 0 k s).length = k + 1)
  | 0, s => ⟨fun h => by rw [Nat.le_zero.1 h], fun _ => rfl⟩
  | k + 1, s => by
    by_cases hm : Lib.index s [c] = -1
    · have h0 := Lib.count_miss hm
      refine ⟨fun _ => ?_, fun h => by omega⟩
      rw [h0]
      show Lib.splitK [c] 0 (k + 1) s = [s]
      rw [Lib.splitK, if_pos (beq_iff_eq.2 hm)]
    · have hge := Lib.index_ge s [c]
      obtain ⟨j, hj⟩ : ∃ j : Nat, Lib.index s [c] = j := ⟨(Lib.index s [c]).toNat, by omega⟩
      have hc := Lib.count_hit (sub := [c]) (by simp) hj
      have m1 : ¬ (Lib.index s [c] == -1) = true := fun e => hm (beq_iff_eq.1 e)
      have hd : (Lib.index s [c]).toNat + ([c] : Bs).length = j + 1 := by rw [hj]; rfl
      have ih := splitK_many c k (s.drop (j + 1))
      rw [show ([c] : Bs).length = 1 from rfl] at hc
      refine ⟨fun h => ?_, fun h => ?_⟩
      · rw [hc, Nat.add_comm 1, Lib.splitK, Lib.splitK, if_neg m1, if_neg m1, hd, ih.1 (by omega)]
      · rw [Lib.splitK, if_neg m1, hd, List.length_cons, ih.2 (by omega)]
theorem ba_self (a : ByteArray) : Ba a.data.toList = a := by simp [Ba]
theorem splitB_list (c : UInt8) (k : Nat) (s : Bs) : (Lib.splitB ⟨#[c]⟩ 0 k (Ba s)) = (Lib.splitK [c] 0 k s).map Ba := by
  have h := Lib.splitB_data ⟨#[c]⟩ 0 k (Ba s)
  rw [ba_data] at h
  have h2 : (Lib.splitB ⟨#[c]⟩ 0 k (Ba s)).map (fun a => Ba a.data.toList) = (Lib.splitK [c] 0 k s).map Ba := by
    rw [← show (⟨#[c]⟩ : ByteArray).data.toList = [c] from rfl, ← h, List.map_map]
    rfl
  rw [← h2]
  rw [List.map_congr_left (g := id) (fun a _ => ba_self a), List.map_id]
theorem countB_list (c : UInt8) (s : Bs) : Lib.countB (Ba s) ⟨#[c]⟩ = s.count c := by
  show Lib.count (Ba s).data.toList [c] = _
  rw [ba_data, Lib.count_one]
/-- what strings.Split answers -/
theorem split_all (c : UInt8) (s : Bs) : (Lib.splitB ⟨#[c]⟩ 0 (Lib.countB (Ba s) ⟨#[c]⟩) (Ba s)) = (parts c s).map Ba := by
  rw [splitB_list, ← split_parts, countB_list, Lib.count_one]
/-- what strings.SplitN answers: all parts, or more than six -/
theorem split_seven (c : UInt8) (s : Bs) : (s.count c ≤ 6 → Lib.splitB ⟨#[c]⟩ 0 (min 7 ((Ba s).size + 1) - 1) (Ba s) = (parts c s).map Ba) ∧ (6 < s.count c → (Lib.splitB ⟨#[c]⟩ 0 (min 7 ((Ba s).size + 1) - 1) (Ba s)).length = 7) := by
  have hle : s.count c ≤ s.length := List.count_le_length
  rw [splitB_list, ba_size]
  have h := splitK_many c (min 7 (s.length + 1) - 1) s
  rw [Lib.count_one] at h
  refine ⟨fun g => ?_, fun g => ?_⟩
  · rw [h.1 (by omega), ← split_parts, Lib.count_one]
  · rw [List.length_map, h.2 (by omega)]
    omega
/-- where strings.LastIndexByte cuts a text -/
theorem last_cut (s : Bs) (c : UInt8) : (Lib.lastIndexByte (Ba s) (c.toNat : Int) = -1 ∧ c ∉ s) ∨ ∃ i : Nat, i < s.length ∧ Lib.lastIndexByte (Ba s) (c.toNat : Int) = i ∧ s = s.take i ++ [c] ++ s.drop (i + 1) ∧ c ∉ s.drop (i + 1) := by
  have hb : ∀ j (h : j < s.length), (((Ba s).data[j]!).toNat : Int) = ((s[j]).toNat : Int) := fun j h => by
    rw [getElem!_pos (Ba s).data j (by simpa using h)]
    simp [Ba]
  rcases Lib.lastIndexByte_spec (Ba s) (c.toNat : Int) with ⟨h, g⟩ | ⟨i, hi, h, h0, g⟩
  · refine Or.inl ⟨h, fun hc => ?_⟩
    obtain ⟨j, hj, he⟩ := List.mem_iff_getElem.1 hc
    have := g j (by rw [ba_size]; exact hj)
    rw [hb j hj, he] at this
    exact this rfl
  · rw [ba_size] at hi
    refine Or.inr ⟨i, hi, h, ?_, fun hc => ?_⟩
    · rw [hb i hi] at h0
      have hce : s[i] = c := UInt8.toNat_inj.1 (by omega)
      rw [List.append_assoc, List.singleton_append, ← hce, ← List.drop_eq_getElem_cons hi, List.take_append_drop]
    · obtain ⟨j, hj, he⟩ := List.mem_iff_getElem.1 hc
      rw [List.getElem_drop] at he
      rw [List.length_drop] at hj
      have := g (i + 1 + j) (by omega) (by rw [ba_size]; omega)
      rw [hb _ (by omega), he] at this
      exact this rfl
end Go.Proofs.YtmbpjbghhimedaaGreatDoor
