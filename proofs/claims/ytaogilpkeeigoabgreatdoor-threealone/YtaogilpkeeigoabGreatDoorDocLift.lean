/- Plain facts: a value with room for another depth; what is told of it, how large it is, stays. -/
import Derived.Test.YtaogilpkeeigoabGreatDoorDocGood
namespace Go.Proofs.YtaogilpkeeigoabGreatDoor
set_option linter.unusedVariables false
set_option linter.unusedSimpArgs false
/-- the same value, with room for depth m (what is deeper is lost) -/
def lift : (n m : Nat) → J n → J m
  | 0, m, l => leaf m l
  | _ + 1, m, Sum.inl l => leaf m l
  | _ + 1, 0, Sum.inr _ => leaf 0 none
  | n + 1, m + 1, Sum.inr (Sum.inl xs) => Sum.inr (Sum.inl (xs.map (lift n m)))
  | n + 1, m + 1, Sum.inr (Sum.inr fs) => Sum.inr (Sum.inr (fs.map fun f => (f.1, lift n m f.2)))
theorem lift_leaf (n m : Nat) (l : Leaf) : lift n m (leaf n l) = leaf m l := by
  cases n <;> rfl
theorem maxOf_mem : ∀ (l : List Nat) (y : Nat), y ∈ l → y ≤ maxOf l
  | [], y, h => by simp at h
  | x :: l, y, h => by
    rcases List.mem_cons.1 h with rfl | h
    · exact Nat.le_max_left _ _
    · exact Nat.le_trans (maxOf_mem l y h) (Nat.le_max_right _ _)
theorem deep_item {n : Nat} {xs : List (J n)} {m : Nat} (h : depth (n + 1) (Sum.inr (Sum.inl xs)) ≤ m + 1) (x : J n) (hx : x ∈ xs) : depth n x ≤ m := by
  have h1 : 1 + maxOf (xs.map (depth n)) ≤ m + 1 := h
  have h2 := maxOf_mem (xs.map (depth n)) (depth n x) (List.mem_map.2 ⟨x, hx, rfl⟩)
  omega
theorem deep_field {n : Nat} {fs : List (Bs × J n)} {m : Nat} (h : depth (n + 1) (Sum.inr (Sum.inr fs)) ≤ m + 1) (f : Bs × J n) (hf : f ∈ fs) : depth n f.2 ≤ m := by
  have h1 : 1 + maxOf (fs.map fun f => depth n f.2) ≤ m + 1 := h
  have h2 := maxOf_mem (fs.map fun f => depth n f.2) (depth n f.2) (List.mem_map.2 ⟨f, hf, rfl⟩)
  omega
theorem leaf_said (m : Nat) (l : Leaf) : tell m (leaf m l) = tellLeaf l ∧ nodes m (leaf m l) = 1 ∧ depth m (leaf m l) = 0 ∧ kindJ m (leaf m l) = kindLeaf l := by
  cases m <;> exact ⟨rfl, rfl, rfl, rfl⟩
/-- what a value says is the same at every depth that it has room in -/
theorem lift_said : ∀ (n m : Nat) (j : J n), depth n j ≤ m → tell m (lift n m j) = tell n j ∧ nodes m (lift n m j) = nodes n j ∧ depth m (lift n m j) = depth n j ∧ kindJ m (lift n m j) = kindJ n j
  | 0, m, l, _ => leaf_said m l
  | _ + 1, m, Sum.inl l, _ => leaf_said m l
  | n + 1, 0, Sum.inr (Sum.inl xs), h => by
    have h1 : 1 + maxOf (xs.map (depth n)) ≤ 0 := h
    omega
  | n + 1, 0, Sum.inr (Sum.inr fs), h => by
    have h1 : 1 + maxOf (fs.map fun f => depth n f.2) ≤ 0 := h
    omega
  | n + 1, m + 1, Sum.inr (Sum.inl xs), h => by
    have ih : ∀ x ∈ xs, tell m (lift n m x) = tell n x ∧ nodes m (lift n m x) = nodes n x ∧ depth m (lift n m x) = depth n x ∧ kindJ m (lift n m x) = kindJ n x := fun x hx => lift_said n m x (deep_item h x hx)
    have e1 : (xs.map (lift n m)).map (tell m) = xs.map (tell n) := by
      rw [List.map_map]
      exact List.map_congr_left fun x hx => (ih x hx).1
    have e2 : (xs.map (lift n m)).map (nodes m) = xs.map (nodes n) := by
      rw [List.map_map]
      exact List.map_congr_left fun x hx => (ih x hx).2.1
    have e3 : (xs.map (lift n m)).map (depth m) = xs.map (depth n) := by
      rw [List.map_map]
      exact List.map_congr_left fun x hx => (ih x hx).2.2.1
    refine ⟨?_, ?_, ?_, rfl⟩
    · show 91 :: (commas ((xs.map (lift n m)).map (tell m)) ++ [93]) = 91 :: (commas (xs.map (tell n)) ++ [93])
      rw [e1]
    · show 1 + ((xs.map (lift n m)).map (nodes m)).sum = 1 + (xs.map (nodes n)).sum
      rw [e2]
    · show 1 + maxOf ((xs.map (lift n m)).map (depth m)) = 1 + maxOf (xs.map (depth n))
      rw [e3]
  | n + 1, m + 1, Sum.inr (Sum.inr fs), h => by
    have ih : ∀ f ∈ fs, tell m (lift n m f.2) = tell n f.2 ∧ nodes m (lift n m f.2) = nodes n f.2 ∧ depth m (lift n m f.2) = depth n f.2 ∧ kindJ m (lift n m f.2) = kindJ n f.2 := fun f hf => lift_said n m f.2 (deep_field h f hf)
    have e1 : (fs.map fun f => (f.1, lift n m f.2)).map (fun f => quote f.1 ++ 58 :: tell m f.2) = fs.map (fun f => quote f.1 ++ 58 :: tell n f.2) := by
      rw [List.map_map]
      refine List.map_congr_left fun f hf => ?_
      show quote f.1 ++ 58 :: tell m (lift n m f.2) = _
      rw [(ih f hf).1]
    have e2 : (fs.map fun f => (f.1, lift n m f.2)).map (fun f => nodes m f.2) = fs.map (fun f => nodes n f.2) := by
      rw [List.map_map]
      exact List.map_congr_left fun f hf => (ih f hf).2.1
    have e3 : (fs.map fun f => (f.1, lift n m f.2)).map (fun f => depth m f.2) = fs.map (fun f => depth n f.2) := by
      rw [List.map_map]
      exact List.map_congr_left fun f hf => (ih f hf).2.2.1
    refine ⟨?_, ?_, ?_, rfl⟩
    · show 123 :: (commas ((fs.map fun f => (f.1, lift n m f.2)).map (fun f => quote f.1 ++ 58 :: tell m f.2)) ++ [125]) = 123 :: (commas (fs.map (fun f => quote f.1 ++ 58 :: tell n f.2)) ++ [125])
      rw [e1]
    · show 1 + ((fs.map fun f => (f.1, lift n m f.2)).map (fun f => nodes m f.2)).sum = 1 + (fs.map (fun f => nodes n f.2)).sum
      rw [e2]
    · show 1 + maxOf ((fs.map fun f => (f.1, lift n m f.2)).map (fun f => depth m f.2)) = 1 + maxOf (fs.map (fun f => depth n f.2))
      rw [e3]
theorem depth_bound : ∀ (n : Nat) (j : J n), depth n j ≤ n
  | 0, _ => Nat.le_refl _
  | _ + 1, Sum.inl _ => Nat.zero_le _
  | n + 1, Sum.inr (Sum.inl xs) => by
    have h : ∀ l : List Nat, (∀ y ∈ l, y ≤ n) → maxOf l ≤ n := by
      intro l
      induction l with
      | nil => intro _; exact Nat.zero_le _
      | cons x l ih =>
        intro hl
        exact Nat.max_le.2 ⟨hl x (by simp), ih (fun y hy => hl y (by simp [hy]))⟩
    have h1 := h (xs.map (depth n)) (fun y hy => by
      obtain ⟨x, _, rfl⟩ := List.mem_map.1 hy
      exact depth_bound n x)
    show 1 + maxOf (xs.map (depth n)) ≤ n + 1
    omega
  | n + 1, Sum.inr (Sum.inr fs) => by
    have h : ∀ l : List Nat, (∀ y ∈ l, y ≤ n) → maxOf l ≤ n := by
      intro l
      induction l with
      | nil => intro _; exact Nat.zero_le _
      | cons x l ih =>
        intro hl
        exact Nat.max_le.2 ⟨hl x (by simp), ih (fun y hy => hl y (by simp [hy]))⟩
    have h1 := h (fs.map fun f => depth n f.2) (fun y hy => by
      obtain ⟨x, _, rfl⟩ := List.mem_map.1 hy
      exact depth_bound n x.2)
    show 1 + maxOf (fs.map fun f => depth n f.2) ≤ n + 1
    omega
theorem lift_self : ∀ (n : Nat) (j : J n), lift n n j = j
  | 0, _ => rfl
  | _ + 1, Sum.inl _ => rfl
  | n + 1, Sum.inr (Sum.inl xs) => by
    show Sum.inr (Sum.inl (xs.map (lift n n))) = (Sum.inr (Sum.inl xs) : J (n + 1))
    rw [show xs.map (lift n n) = xs from by
      rw [List.map_congr_left (g := id) (fun x _ => lift_self n x)]
      exact List.map_id _]
  | n + 1, Sum.inr (Sum.inr fs) => by
    show Sum.inr (Sum.inr (fs.map fun f => (f.1, lift n n f.2))) = (Sum.inr (Sum.inr fs) : J (n + 1))
    rw [show (fs.map fun f => (f.1, lift n n f.2)) = fs from by
      rw [List.map_congr_left (g := id) (fun f _ => by show (f.1, lift n n f.2) = f; rw [lift_self n f.2])]
      exact List.map_id _]
/-- two steps of room are one, if nothing is lost on the way -/
theorem lift_lift : ∀ (n m k : Nat) (j : J n), depth n j ≤ m → lift m k (lift n m j) = lift n k j
  | 0, m, k, l, _ => lift_leaf m k l
  | _ + 1, m, k, Sum.inl l, _ => lift_leaf m k l
  | n + 1, 0, k, Sum.inr (Sum.inl xs), h => by
    have h1 : 1 + maxOf (xs.map (depth n)) ≤ 0 := h
    omega
  | n + 1, 0, k, Sum.inr (Sum.inr fs), h => by
    have h1 : 1 + maxOf (fs.map fun f => depth n f.2) ≤ 0 := h
    omega
  | n + 1, m + 1, 0, Sum.inr (Sum.inl xs), h => rfl
  | n + 1, m + 1, 0, Sum.inr (Sum.inr fs), h => rfl
  | n + 1, m + 1, k + 1, Sum.inr (Sum.inl xs), h => by
    show (Sum.inr (Sum.inl ((xs.map (lift n m)).map (lift m k))) : J (k + 1)) = Sum.inr (Sum.inl (xs.map (lift n k)))
    rw [List.map_map]
    exact congrArg (fun l => (Sum.inr (Sum.inl l) : J (k + 1))) (List.map_congr_left fun x hx => lift_lift n m k x (deep_item h x hx))
  | n + 1, m + 1, k + 1, Sum.inr (Sum.inr fs), h => by
    show (Sum.inr (Sum.inr ((fs.map fun f => (f.1, lift n m f.2)).map fun f => (f.1, lift m k f.2))) : J (k + 1)) = Sum.inr (Sum.inr (fs.map fun f => (f.1, lift n k f.2)))
    rw [List.map_map]
    refine congrArg (fun l => (Sum.inr (Sum.inr l) : J (k + 1))) (List.map_congr_left fun f hf => ?_)
    show (f.1, lift m k (lift n m f.2)) = _
    rw [lift_lift n m k f.2 (deep_field h f hf)]
theorem rising_map {α β : Type} {fs : List (Bs × α)} (g : α → β) (h : Rising fs) : Rising (fs.map fun f => (f.1, g f.2)) := by
  unfold Rising at h ⊢
  rw [List.pairwise_map]
  exact h
theorem good_lift : ∀ (n m : Nat) (j : J n), Good n j → Good m (lift n m j)
  | 0, m, l, h => good_leaf h
  | _ + 1, m, Sum.inl l, h => good_leaf h
  | n + 1, 0, Sum.inr (Sum.inl xs), h => trivial
  | n + 1, 0, Sum.inr (Sum.inr fs), h => trivial
  | n + 1, m + 1, Sum.inr (Sum.inl xs), h => by
    intro y hy
    obtain ⟨x, hx, rfl⟩ := List.mem_map.1 hy
    exact good_lift n m x (h x hx)
  | n + 1, m + 1, Sum.inr (Sum.inr fs), h => by
    refine ⟨rising_map _ h.1, fun g hg => ?_⟩
    obtain ⟨f, hf, rfl⟩ := List.mem_map.1 hg
    exact ⟨(h.2 f hf).1, good_lift n m f.2 (h.2 f hf).2⟩
end Go.Proofs.YtaogilpkeeigoabGreatDoor
