/- Plain facts: how great what steps lead to is; what is known of a value that was read. -/
import Derived.Test.YthdgfehfoidnbabGreatDoorPtrTell
import Derived.Test.YthdgfehfoidnbabGreatDoorDocToldL
namespace Go.Proofs.YthdgfehfoidnbabGreatDoor
set_option linter.unusedVariables false
set_option linter.unusedSimpArgs false
theorem commas_mem : ∀ (ts : List Bs) (t : Bs), t ∈ ts → t.length ≤ (commas ts).length
  | [], t, h => by simp at h
  | [x], t, h => by
    simp at h
    subst h
    exact Nat.le_refl _
  | x :: y :: r, t, h => by
    rcases List.mem_cons.1 h with rfl | h
    · simp [commas]
    · have := commas_mem (y :: r) t h
      simp only [commas, List.length_append, List.length_cons] at this ⊢
      omega
theorem len_child {n : Nat} {j : J (n + 1)} {s : Bs} {c : J n} (hr : Rise (n + 1) j) (h : childP j s = some c) : (tell n c).length ≤ (tell (n + 1) j).length ∧ depth n c + 1 ≤ depth (n + 1) j := by
  match j, hr, h with
  | Sum.inr (Sum.inl xs), hr, h =>
    obtain ⟨i, hi, hx⟩ := Option.bind_eq_some_iff.1 (show ((placeP s).bind fun i => xs[i]?) = some c from h)
    have hm := List.mem_of_getElem? hx
    have h1 := commas_mem (xs.map (tell n)) (tell n c) (List.mem_map.2 ⟨c, hm, rfl⟩)
    have h2 := maxOf_mem (xs.map (depth n)) (depth n c) (List.mem_map.2 ⟨c, hm, rfl⟩)
    refine ⟨?_, ?_⟩
    · show (tell n c).length ≤ (91 :: (commas (xs.map (tell n)) ++ [93])).length
      simp only [List.length_cons, List.length_append]
      omega
    · show depth n c + 1 ≤ 1 + maxOf (xs.map (depth n))
      omega
  | Sum.inr (Sum.inr fs), hr, h =>
    have hm := fieldAt_mem hr.1 h
    have h1 := commas_mem (fs.map fun f => quote f.1 ++ 58 :: tell n f.2) (quote s ++ 58 :: tell n c) (List.mem_map.2 ⟨(s, c), hm, rfl⟩)
    have h2 := maxOf_mem (fs.map fun f => depth n f.2) (depth n c) (List.mem_map.2 ⟨(s, c), hm, rfl⟩)
    refine ⟨?_, ?_⟩
    · show (tell n c).length ≤ (123 :: (commas (fs.map fun f => quote f.1 ++ 58 :: tell n f.2) ++ [125])).length
      simp only [List.length_cons, List.length_append] at h1 ⊢
      omega
    · show depth n c + 1 ≤ 1 + maxOf (fs.map fun f => depth n f.2)
      omega
/-- what steps lead to is no greater -/
theorem get_said : ∀ (l : List Bs) (n : Nat) (j c : J n), Good n j → getP n j l = some c → Good n c ∧ nodes n c ≤ nodes n j ∧ (tell n c).length ≤ (tell n j).length ∧ depth n c ≤ depth n j
  | [], n, j, c, hg, h => by
    have e : j = c := by cases n <;> exact Option.some.inj h
    subst e
    exact ⟨hg, Nat.le_refl _, Nat.le_refl _, Nat.le_refl _⟩
  | s :: r, 0, j, c, hg, h => by cases h
  | s :: r, n + 1, j, c, hg, h => by
    obtain ⟨c1, c2, h1, h2, rfl⟩ := getP_step h
    have hr := rise_of_good _ _ hg
    have ih := get_said r n c1 c2 (good_child hg h1) h2
    have hs := lift_said n (n + 1) c2 (Nat.le_trans (depth_bound n c2) (by omega))
    have hn := nodes_child hr h1
    have hl := len_child hr h1
    rw [hs.1, hs.2.1, hs.2.2.1]
    exact ⟨good_lift _ _ _ ih.1, by omega, by omega, by omega⟩
/-- within the limits of documents -/
structure Told20 (N : Nat) (D : J N) : Prop where
  good : Good N D
  nodes : nodes N D ≤ 200
  depth : depth N D ≤ 10
  len : (tell N D).length ≤ 2000
theorem rd20_told {N : Nat} (hN : 20 ≤ N) {s : Bs} {D : J N} (h : rd20 N s = .ok D) : Told20 N D := by
  unfold rd20 at h
  cases hr : read s with
  | error e => rw [hr] at h; cases h
  | ok j =>
    rw [hr] at h
    have e : lift 10 N j = D := by
      have h' : Except.ok (lift 10 N j) = (Except.ok D : Except Nat (J N)) := h
      exact Except.ok.inj h'
    subst e
    have hs := lift_said 10 N j (Nat.le_trans (depth_bound 10 j) (by omega))
    have h1 := read_size hr
    have h2 := read_short hr
    exact ⟨good_lift _ _ _ (read_good hr), by rw [hs.2.1]; omega, by rw [hs.2.2.1]; omega, by rw [hs.1]; omega⟩
theorem Told20.fine {N : Nat} {D : J N} (h : Told20 N D) : Fine N D := ⟨fit_of_good _ _ h.good, by have := h.nodes; omega, by have := h.depth; omega, by have := h.len; omega⟩
theorem Told20.told {N : Nat} {D : J N} (h : Told20 N D) : toldE N D = #[.string ⟨(tell N D).toArray⟩, .int .i64 0] := by
  unfold toldE
  rw [if_neg (by have := h.depth; omega), if_neg (by have := h.nodes; omega), if_neg (by have := h.len; omega)]
/-- what is told is read as it was -/
theorem Told20.again {N : Nat} {D : J N} (hN : 20 ≤ N) (h : Told20 N D) : rd20 N (tell N D) = .ok D := by
  rw [rd20_ok (read_told h.good h.nodes h.depth h.len), lift_lift _ _ _ _ h.depth, lift_self]
theorem Told20.get {N : Nat} {D c : J N} {l : List Bs} (h : Told20 N D) (hc : getP N D l = some c) : Told20 N c := by
  obtain ⟨h1, h2, h3, h4⟩ := get_said l N D c h.good hc
  have := h.nodes
  have := h.depth
  have := h.len
  exact ⟨h1, by omega, by omega, by omega⟩
theorem toldE_lift {m N : Nat} (c : J m) (h : m ≤ N) : toldE N (lift m N c) = toldE m c := by
  have hs := lift_said m N c (Nat.le_trans (depth_bound m c) h)
  unfold toldE
  rw [hs.1, hs.2.1, hs.2.2.1]
theorem fine_low {m N : Nat} (c : J m) (h : m ≤ N) (hF : Told20 N (lift m N c)) (hf : Fit m c) : Fine m c := by
  have hs := lift_said m N c (Nat.le_trans (depth_bound m c) h)
  have h1 := hF.nodes
  have h2 := hF.depth
  have h3 := hF.len
  rw [hs.2.1] at h1
  rw [hs.2.2.1] at h2
  rw [hs.1] at h3
  exact ⟨hf, by omega, by omega, by omega⟩
theorem fit_low : ∀ (m N : Nat) (c : J m), depth m c ≤ N → Fit N (lift m N c) → Fit m c
  | 0, N, l, _, h => by cases N <;> exact h
  | _ + 1, N, Sum.inl l, _, h => by cases N <;> exact h
  | m + 1, 0, Sum.inr (Sum.inl xs), hd, h => by
    have h1 : 1 + maxOf (xs.map (depth m)) ≤ 0 := hd
    omega
  | m + 1, 0, Sum.inr (Sum.inr fs), hd, h => by
    have h1 : 1 + maxOf (fs.map fun f => depth m f.2) ≤ 0 := hd
    omega
  | m + 1, N + 1, Sum.inr (Sum.inl xs), hd, h => fun x hx => fit_low m N x (deep_item hd x hx) (h _ (List.mem_map.2 ⟨x, hx, rfl⟩))
  | m + 1, N + 1, Sum.inr (Sum.inr fs), hd, h => fun f hf => fit_low m N f.2 (deep_field hd f hf) (h (f.1, lift m N f.2) (List.mem_map.2 ⟨f, hf, rfl⟩))
end Go.Proofs.YthdgfehfoidnbabGreatDoor
