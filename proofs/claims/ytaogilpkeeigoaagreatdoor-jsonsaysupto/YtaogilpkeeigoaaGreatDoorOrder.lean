/- Plain facts on the order of names, and on fields that rise by their names. -/
import Derived.Test.YtaogilpkeeigoaaGreatDoorDoc
namespace Go.Proofs.YtaogilpkeeigoaaGreatDoor
set_option linter.unusedVariables false
set_option linter.unusedSimpArgs false
theorem cmp_self : ∀ a : Bs, Lib.compareBytes a a = 0
  | [] => rfl
  | x :: a => by
    rw [Lib.compareBytes, if_neg (UInt8.lt_irrefl x), if_neg (UInt8.lt_irrefl x)]
    exact cmp_self a
theorem cmp_vals : ∀ a b : Bs, Lib.compareBytes a b = 0 ∨ Lib.compareBytes a b = 1 ∨ Lib.compareBytes a b = -1
  | [], [] => Or.inl rfl
  | [], _ :: _ => Or.inr (Or.inr rfl)
  | _ :: _, [] => Or.inr (Or.inl rfl)
  | x :: a, y :: b => by
    rw [Lib.compareBytes]
    split
    · exact Or.inr (Or.inr rfl)
    · split
      · exact Or.inr (Or.inl rfl)
      · exact cmp_vals a b
theorem cmp_eq : ∀ a b : Bs, Lib.compareBytes a b = 0 → a = b
  | [], [], _ => rfl
  | [], _ :: _, h => by rw [Lib.compareBytes] at h; omega
  | _ :: _, [], h => by rw [Lib.compareBytes] at h; omega
  | x :: a, y :: b, h => by
    rw [Lib.compareBytes] at h
    split at h
    · omega
    · split at h
      · omega
      · rename_i h1 h2
        have e : x = y := UInt8.toNat_inj.1 (by rw [UInt8.lt_iff_toNat_lt] at h1 h2; omega)
        rw [e, cmp_eq a b h]
theorem cmp_swap : ∀ a b : Bs, Lib.compareBytes b a = - Lib.compareBytes a b
  | [], [] => rfl
  | [], _ :: _ => rfl
  | _ :: _, [] => rfl
  | x :: a, y :: b => by
    rw [Lib.compareBytes, Lib.compareBytes]
    by_cases h1 : x < y
    · have h2 : ¬ y < x := by rw [UInt8.lt_iff_toNat_lt] at h1 ⊢; omega
      simp [h1, h2]
    · by_cases h2 : y < x
      · simp [h1, h2]
      · simp [h1, h2]
        exact cmp_swap a b
theorem cmp_trans : ∀ a b c : Bs, Lib.compareBytes a b < 0 → Lib.compareBytes b c < 0 → Lib.compareBytes a c < 0
  | [], [], _, h, _ => by rw [Lib.compareBytes] at h; omega
  | [], _ :: _, [], _, h => by rw [Lib.compareBytes] at h; omega
  | [], _ :: _, _ :: _, _, _ => by rw [Lib.compareBytes]; omega
  | _ :: _, [], _, h, _ => by rw [Lib.compareBytes] at h; omega
  | _ :: _, _ :: _, [], _, h => by rw [Lib.compareBytes] at h; omega
  | x :: a, y :: b, z :: c, h, g => by
    rw [Lib.compareBytes] at h g ⊢
    simp only [UInt8.lt_iff_toNat_lt] at h g ⊢
    by_cases h1 : x.toNat < y.toNat
    · by_cases g1 : y.toNat < z.toNat
      · rw [if_pos (by omega)]; omega
      · rw [if_neg g1] at g
        by_cases g2 : z.toNat < y.toNat
        · rw [if_pos g2] at g; omega
        · rw [if_pos (by omega)]; omega
    · rw [if_neg h1] at h
      by_cases h2 : y.toNat < x.toNat
      · rw [if_pos h2] at h; omega
      · rw [if_neg h2] at h
        by_cases g1 : y.toNat < z.toNat
        · rw [if_pos (by omega)]; omega
        · rw [if_neg g1] at g
          by_cases g2 : z.toNat < y.toNat
          · rw [if_pos g2] at g; omega
          · rw [if_neg g2] at g
            rw [if_neg (by omega), if_neg (by omega)]
            exact cmp_trans a b c h g
theorem less_iff (a b : Bs) : less a b = true ↔ Lib.compareBytes a b < 0 := by simp [less]
/-- the fields rise by their names -/
def Rising {α : Type} (fs : List (Bs × α)) : Prop := fs.Pairwise fun f g => less f.1 g.1 = true
/-- where the field of a name is, or would be -/
def placeOfName {α : Type} (fs : List (Bs × α)) (nm : Bs) : Nat := (fs.takeWhile fun f => less f.1 nm).length
theorem place_le {α : Type} (fs : List (Bs × α)) (nm : Bs) : placeOfName fs nm ≤ fs.length := (List.takeWhile_sublist _).length_le
theorem place_of {α : Type} : ∀ (fs : List (Bs × α)) (nm : Bs) (i : Nat), i ≤ fs.length → (∀ (x : Nat) (f : Bs × α), x < i → fs[x]? = some f → less f.1 nm = true) → (∀ (f : Bs × α), fs[i]? = some f → less f.1 nm = false) → placeOfName fs nm = i
  | [], nm, i, hi, _, _ => by simp at hi; subst hi; rfl
  | f :: fs, nm, 0, _, _, h2 => by
    have := h2 f rfl
    unfold placeOfName
    rw [List.takeWhile_cons, if_neg (by simp [this])]
    rfl
  | f :: fs, nm, i + 1, hi, h1, h2 => by
    have h0 := h1 0 f (by omega) rfl
    have ih := place_of fs nm i (by simpa using hi) (fun x g hx hg => h1 (x + 1) g (by omega) (by simpa using hg)) (fun g hg => h2 g (by simpa using hg))
    unfold placeOfName at ih ⊢
    rw [List.takeWhile_cons, if_pos h0, List.length_cons, ih]
theorem insert_eq {α : Type} (fs : List (Bs × α)) (nm : Bs) (v : α) : insertAt fs nm v = fs.take (placeOfName fs nm) ++ (nm, v) :: fs.drop (placeOfName fs nm) := by
  unfold insertAt placeOfName
  have h := List.takeWhile_append_dropWhile (p := fun f : Bs × α => less f.1 nm) (l := fs)
  have h1 : fs.take (fs.takeWhile fun f => less f.1 nm).length = fs.takeWhile fun f => less f.1 nm := (List.prefix_iff_eq_take.1 (List.takeWhile_prefix _)).symm
  have h2 : fs.drop (fs.takeWhile fun f => less f.1 nm).length = fs.dropWhile fun f => less f.1 nm := by
    have e : fs.drop (fs.takeWhile fun f => less f.1 nm).length = ((fs.takeWhile fun f => less f.1 nm) ++ fs.dropWhile fun f => less f.1 nm).drop (fs.takeWhile fun f => less f.1 nm).length := by rw [h]
    rw [e, List.drop_left]
  rw [h1, h2]
theorem rising_get {α : Type} {fs : List (Bs × α)} (h : Rising fs) {i j : Nat} {f g : Bs × α} (hij : i < j) (hf : fs[i]? = some f) (hg : fs[j]? = some g) : less f.1 g.1 = true := by
  obtain ⟨hi, rfl⟩ := List.getElem?_eq_some_iff.1 hf
  obtain ⟨hj, rfl⟩ := List.getElem?_eq_some_iff.1 hg
  exact List.pairwise_iff_getElem.1 h i j hi hj hij
theorem place_spec {α : Type} (fs : List (Bs × α)) (nm : Bs) : (∀ (x : Nat) (f : Bs × α), x < placeOfName fs nm → fs[x]? = some f → less f.1 nm = true) ∧ ∀ (f : Bs × α), fs[placeOfName fs nm]? = some f → less f.1 nm = false := by
  induction fs with
  | nil => exact ⟨fun x f _ h => by simp at h, fun f h => by simp at h⟩
  | cons f fs ih =>
    unfold placeOfName
    rw [List.takeWhile_cons]
    split
    · rename_i hl
      refine ⟨fun x g hx hg => ?_, fun g hg => ?_⟩
      · cases x with
        | zero => simp at hg; subst hg; exact hl
        | succ x => exact ih.1 x g (by simpa [placeOfName] using hx) (by simpa using hg)
      · exact ih.2 g (by simpa [placeOfName] using hg)
    · rename_i hl
      refine ⟨fun x g hx hg => by simp at hx, fun g hg => ?_⟩
      simp at hg
      subst hg
      simpa using hl
/-- there is a field of that name just if it is at that place -/
theorem any_place {α : Type} {fs : List (Bs × α)} (h : Rising fs) (nm : Bs) : (fs.any fun f => f.1 == nm) = (match fs[placeOfName fs nm]? with | none => false | some f => decide (Lib.compareBytes f.1 nm = 0)) := by
  have hs := place_spec fs nm
  rw [Bool.eq_iff_iff, List.any_eq_true]
  constructor
  · rintro ⟨f, hf, he⟩
    obtain ⟨x, hx, rfl⟩ := List.getElem_of_mem hf
    have he' : fs[x].1 = nm := by simpa using he
    have hx' : fs[x]? = some fs[x] := List.getElem?_eq_getElem hx
    have hge : placeOfName fs nm ≤ x := by
      rcases Nat.lt_or_ge x (placeOfName fs nm) with h' | h'
      · have := hs.1 x _ h' hx'
        rw [he', less_iff, cmp_self] at this
        omega
      · exact h'
    have hle : x ≤ placeOfName fs nm := by
      rcases Nat.lt_or_ge (placeOfName fs nm) x with h' | h'
      · have hp : placeOfName fs nm < fs.length := by omega
        have hp' : fs[placeOfName fs nm]? = some fs[placeOfName fs nm] := List.getElem?_eq_getElem hp
        have h1 := rising_get h h' hp' hx'
        rw [he'] at h1
        have h2 := hs.2 _ hp'
        rw [h1] at h2
        cases h2
      · exact h'
    have e : placeOfName fs nm = x := by omega
    rw [e, hx']
    simp [he', cmp_self]
  · intro hm
    cases hp : fs[placeOfName fs nm]? with
    | none => rw [hp] at hm; cases hm
    | some f =>
      rw [hp] at hm
      have := cmp_eq _ _ (of_decide_eq_true hm)
      exact ⟨f, List.mem_of_getElem? hp, by simp [this]⟩
theorem less_of_not {a b : Bs} (h : less a b = false) (hne : a ≠ b) : less b a = true := by
  rw [less_iff, cmp_swap a b]
  have h1 : ¬ Lib.compareBytes a b < 0 := by simpa [less] using h
  rcases cmp_vals a b with h2 | h2 | h2
  · exact absurd (cmp_eq _ _ h2) hne
  · omega
  · omega
theorem rising_insert {α : Type} {fs : List (Bs × α)} (h : Rising fs) (nm : Bs) (v : α) (hn : (fs.any fun f => f.1 == nm) = false) : Rising (insertAt fs nm v) := by
  have hs := place_spec fs nm
  rw [insert_eq]
  unfold Rising
  rw [List.pairwise_append]
  have hne : ∀ f ∈ fs, f.1 ≠ nm := by
    intro f hf e
    rw [List.any_eq_false] at hn
    exact hn f hf (by simp [e])
  refine ⟨List.Pairwise.sublist (List.take_sublist _ _) h, ?_, ?_⟩
  · rw [List.pairwise_cons]
    refine ⟨fun g hg => ?_, List.Pairwise.sublist (List.drop_sublist _ _) h⟩
    obtain ⟨x, hx, rfl⟩ := List.getElem_of_mem hg
    rw [List.getElem_drop]
    have hx' : placeOfName fs nm + x < fs.length := by simp at hx; omega
    have hget : fs[placeOfName fs nm + x]? = some fs[placeOfName fs nm + x] := List.getElem?_eq_getElem hx'
    have hp' : fs[placeOfName fs nm]? = some (fs[placeOfName fs nm]'(by omega)) := List.getElem?_eq_getElem (by omega)
    have h0 : less nm (fs[placeOfName fs nm]'(by omega)).1 = true := less_of_not (hs.2 _ hp') (hne _ (List.getElem_mem _))
    rcases Nat.eq_zero_or_pos x with rfl | hpos
    · exact h0
    · have h1 := rising_get h (show placeOfName fs nm < placeOfName fs nm + x by omega) hp' hget
      rw [less_iff] at h0 h1 ⊢
      exact cmp_trans _ _ _ h0 h1
  · intro f hf g hg
    obtain ⟨x, hx, rfl⟩ := List.getElem_of_mem hf
    have hxl : x < placeOfName fs nm := by simp at hx; omega
    have hxf : x < fs.length := by have := place_le fs nm; omega
    rw [List.getElem_take]
    have hget : fs[x]? = some fs[x] := List.getElem?_eq_getElem hxf
    have h1 := hs.1 x _ hxl hget
    rcases List.mem_cons.1 hg with rfl | hg
    · exact h1
    · obtain ⟨y, hy, rfl⟩ := List.getElem_of_mem hg
      rw [List.getElem_drop]
      have hy' : placeOfName fs nm + y < fs.length := by simp at hy; omega
      exact rising_get h (show x < placeOfName fs nm + y by omega) hget (List.getElem?_eq_getElem hy')
end Go.Proofs.YtaogilpkeeigoaaGreatDoor
