/- Several texts in one: MrgSize, MrgLaws, MrgDPlain, MrgDLaws, MrgDiff, Laid, At, MrgDTop, MNothingWalk. -/
import Derived.Test.YtjcdklbimaclkaaGreatDoorMrgBoth
import Derived.Test.YtjcdklbimaclkaaGreatDoorMrgAll
import Derived.Test.YtjcdklbimaclkaaGreatDoorMrgTell
import Derived.Test.YtjcdklbimaclkaaGreatDoorTop
import Derived.Lib.LaidTab
import Derived.MakeChecks
import Derived.Test.YtjcdklbimaclkaaGreatDoorDocErr
import Derived.Test.YtjcdklbimaclkaaGreatDoorKindAny
/- Plain facts: how great what comes of a merge is; which errors there are. -/
namespace Go.Proofs.YtjcdklbimaclkaaGreatDoor
set_option linter.unusedVariables false
set_option linter.unusedSimpArgs false
/-- a measure that adds up, through objects -/
def wgt : (n : Nat) → J n → Nat
  | 0, l => (tellLeaf l).length + 5
  | _ + 1, Sum.inl l => (tellLeaf l).length + 5
  | n + 1, Sum.inr (Sum.inl xs) => (tell (n + 1) (Sum.inr (Sum.inl xs))).length + nodes (n + 1) (Sum.inr (Sum.inl xs)) + 5
  | n + 1, Sum.inr (Sum.inr fs) => 5 + sumW (wgt n) fs
theorem wgt_five : ∀ (n : Nat) (j : J n), 5 ≤ wgt n j
  | 0, _ => Nat.le_add_left _ _
  | _ + 1, Sum.inl _ => Nat.le_add_left _ _
  | _ + 1, Sum.inr (Sum.inl _) => Nat.le_add_left _ _
  | _ + 1, Sum.inr (Sum.inr _) => Nat.le_add_right _ _
theorem commas_two : ∀ ts : List Bs, (commas ts).length ≤ (ts.map fun t => t.length + 1).sum ∧ (ts.map fun t => t.length + 1).sum ≤ (commas ts).length + 1
  | [] => by simp [commas]
  | [t] => by simp [commas]
  | t :: u :: r => by
    have ih := commas_two (u :: r)
    simp only [commas, List.map_cons, List.sum_cons, List.length_append, List.length_cons] at ih ⊢
    omega
theorem sum_le_map {α : Type} (l : List α) (f g : α → Nat) (h : ∀ x ∈ l, f x ≤ g x) : (l.map f).sum ≤ (l.map g).sum := by
  induction l with
  | nil => simp
  | cons x r ih =>
    have h1 := h x (by simp)
    have h2 := ih fun y hy => h y (by simp [hy])
    simp only [List.map_cons, List.sum_cons]
    omega
theorem wgt_len : ∀ (n : Nat) (j : J n), (tell n j).length ≤ wgt n j ∧ nodes n j ≤ wgt n j
  | 0, l => ⟨Nat.le_add_right _ _, by show 1 ≤ _; exact Nat.le_trans (by omega) (wgt_five 0 l)⟩
  | n + 1, Sum.inl l => ⟨Nat.le_add_right _ _, by show 1 ≤ _; exact Nat.le_trans (by omega) (wgt_five (n + 1) (Sum.inl l))⟩
  | n + 1, Sum.inr (Sum.inl xs) => by
    show _ ≤ (tell (n + 1) (Sum.inr (Sum.inl xs))).length + nodes (n + 1) (Sum.inr (Sum.inl xs)) + 5 ∧ _ ≤ (tell (n + 1) (Sum.inr (Sum.inl xs))).length + nodes (n + 1) (Sum.inr (Sum.inl xs)) + 5
    omega
  | n + 1, Sum.inr (Sum.inr fs) => by
    have ih := fun f (hf : f ∈ fs) => wgt_len n f.2
    refine ⟨?_, ?_⟩
    · show (123 :: (commas (fs.map fun f => quote f.1 ++ 58 :: tell n f.2) ++ [125])).length ≤ 5 + sumW (wgt n) fs
      have h1 := (commas_two (fs.map fun f => quote f.1 ++ 58 :: tell n f.2)).1
      rw [List.map_map] at h1
      have h2 := sum_le_map fs ((fun t => t.length + 1) ∘ fun f => quote f.1 ++ 58 :: tell n f.2) (fun f => (quote f.1).length + 2 + wgt n f.2) (fun f hf => by
        have := (ih f hf).1
        simp only [Function.comp, List.length_append, List.length_cons]
        omega)
      simp only [List.length_cons, List.length_append, List.length_nil]
      unfold sumW
      omega
    · show 1 + (fs.map fun f => nodes n f.2).sum ≤ 5 + sumW (wgt n) fs
      have h2 := sum_le_map fs (fun f => nodes n f.2) (fun f => (quote f.1).length + 2 + wgt n f.2) (fun f hf => by
        have := (ih f hf).2
        omega)
      unfold sumW
      omega
theorem sum_add_map {α : Type} (l : List α) (f g : α → Nat) : (l.map fun x => f x + g x).sum = (l.map f).sum + (l.map g).sum := by
  induction l with
  | nil => simp
  | cons x r ih =>
    simp only [List.map_cons, List.sum_cons, ih]
    omega
theorem sum_mul_map {α : Type} (l : List α) (f : α → Nat) (k : Nat) : (l.map fun x => k * f x).sum = k * (l.map f).sum := by
  induction l with
  | nil => simp
  | cons x r ih => simp only [List.map_cons, List.sum_cons, ih, Nat.mul_add]
theorem wgt_most : ∀ (n : Nat) (j : J n), wgt n j ≤ (tell n j).length + 6 * nodes n j
  | 0, l => by
    show (tellLeaf l).length + 5 ≤ (tellLeaf l).length + 6 * 1
    omega
  | n + 1, Sum.inl l => by
    show (tellLeaf l).length + 5 ≤ (tellLeaf l).length + 6 * 1
    omega
  | n + 1, Sum.inr (Sum.inl xs) => by
    have := nodes_pos (n + 1) (Sum.inr (Sum.inl xs))
    show (tell (n + 1) (Sum.inr (Sum.inl xs))).length + nodes (n + 1) (Sum.inr (Sum.inl xs)) + 5 ≤ _
    omega
  | n + 1, Sum.inr (Sum.inr fs) => by
    have ih := fun f (hf : f ∈ fs) => wgt_most n f.2
    have h1 := (commas_two (fs.map fun f => quote f.1 ++ 58 :: tell n f.2)).2
    rw [List.map_map] at h1
    have h2 := sum_le_map fs (fun f => (quote f.1).length + 2 + wgt n f.2) (fun f => (((fun t => t.length + 1) ∘ fun f : Bs × J n => quote f.1 ++ 58 :: tell n f.2) f) + 6 * nodes n f.2) (fun f hf => by
      have := ih f hf
      simp only [Function.comp, List.length_append, List.length_cons]
      omega)
    have h4 := sum_add_map fs ((fun t => t.length + 1) ∘ fun f : Bs × J n => quote f.1 ++ 58 :: tell n f.2) (fun f => 6 * nodes n f.2)
    have h3 := sum_mul_map fs (fun f => nodes n f.2) 6
    show 5 + sumW (wgt n) fs ≤ (123 :: (commas (fs.map fun f => quote f.1 ++ 58 :: tell n f.2) ++ [125])).length + 6 * (1 + (fs.map fun f => nodes n f.2).sum)
    simp only [List.length_cons, List.length_append, List.length_nil]
    unfold sumW
    omega
theorem wgt_fields {n : Nat} (d : Option (J (n + 1))) : sumW (wgt n) (fieldsP d) ≤ wO (wgt (n + 1)) d := by
  match d with
  | none => exact Nat.le_refl _
  | some (Sum.inl _) => exact Nat.zero_le _
  | some (Sum.inr (Sum.inl _)) => exact Nat.zero_le _
  | some (Sum.inr (Sum.inr fs)) => exact Nat.le_add_left _ _
theorem merged_wgt : ∀ (n : Nat) (d : Option (J n)) (v : J n), wgt n (mergedP n d v) ≤ wO (wgt n) d + wgt n v
  | 0, _, _ => Nat.le_add_left _ _
  | _ + 1, _, Sum.inl _ => Nat.le_add_left _ _
  | _ + 1, _, Sum.inr (Sum.inl _) => Nat.le_add_left _ _
  | n + 1, d, Sum.inr (Sum.inr fs) => by
    obtain ⟨R, h1, h2⟩ := merged_obj d fs
    rw [h2]
    have h3 := meet_sum (wt := wgt n) (fun v u m hm => by
      match u, hm with
      | none, hm =>
        have e : v = some m := Except.ok.inj hm
        subst e
        exact Nat.le_add_right _ _
      | some s, hm =>
        simp only [ofM] at hm
        split at hm
        · cases hm
        · cases hm
          exact merged_wgt n v s) _ _ _ _ h1
    have h4 := wgt_fields d
    show 5 + sumW (wgt n) R ≤ wO (wgt (n + 1)) d + (5 + sumW (wgt n) fs)
    omega
theorem composed_wgt : ∀ (n : Nat) (p q c : J n), composedP n p q = .ok c → wgt n c ≤ wgt n p + wgt n q
  | 0, _, q, c, h => by cases h; exact Nat.le_add_left _ _
  | _ + 1, _, Sum.inl _, c, h => by
    have e := Except.ok.inj (show (Except.ok _ : Except Nat _) = .ok c from h)
    subst e
    exact Nat.le_add_left _ _
  | _ + 1, _, Sum.inr (Sum.inl _), c, h => by
    have e := Except.ok.inj (show (Except.ok _ : Except Nat _) = .ok c from h)
    subst e
    exact Nat.le_add_left _ _
  | n + 1, Sum.inl _, Sum.inr (Sum.inr _), c, h => by cases h
  | n + 1, Sum.inr (Sum.inl _), Sum.inr (Sum.inr _), c, h => by cases h
  | n + 1, Sum.inr (Sum.inr fp), Sum.inr (Sum.inr fq), c, h => by
    have h' : objE (meetP (ofC (composedP n)) fp fq) = .ok c := h
    cases hm : meetP (ofC (composedP n)) fp fq with
    | error e => rw [hm] at h'; cases h'
    | ok R =>
      rw [hm] at h'
      cases h'
      have h3 := meet_sum (wt := wgt n) (fun v u m ho => by
        match v, u, ho with
        | v, none, ho =>
          have e : v = some m := Except.ok.inj ho
          subst e
          exact Nat.le_add_right _ _
        | none, some t, ho =>
          have e : some t = some m := Except.ok.inj ho
          cases e
          exact Nat.le_add_left _ _
        | some f, some t, ho =>
          simp only [ofC] at ho
          cases hc : composedP n f t with
          | error e => rw [hc] at ho; cases ho
          | ok c =>
            rw [hc] at ho
            cases ho
            exact composed_wgt n f t _ hc) _ _ _ _ hm
      show 5 + sumW (wgt n) R ≤ (5 + sumW (wgt n) fp) + (5 + sumW (wgt n) fq)
      omega
theorem meet_err {α : Type} {of : Of α} : ∀ (k : Nat) (a b : List (Bs × α)) (e : Nat), meetF of k a b = .error e → ∃ v u, of v u = .error e
  | 0, _, _, _, h => by cases h
  | k + 1, a, b, e, h => by
    simp only [meetF] at h
    split at h
    · cases h
    · cases h1 : of (takeV a (lowName a b)) (takeV b (lowName a b)) with
      | error e' =>
        rw [h1] at h
        cases h
        exact ⟨_, _, h1⟩
      | ok m =>
        rw [h1] at h
        cases h2 : meetF of k (takeR a (lowName a b)) (takeR b (lowName a b)) with
        | error e' =>
          simp only [h2] at h
          cases h
          exact meet_err k _ _ _ h2
        | ok r => simp only [h2] at h; cases h
theorem composed_err : ∀ (n : Nat) (p q : J n) (e : Nat), composedP n p q = .error e → e = 9
  | 0, _, q, e, h => by cases h
  | _ + 1, _, Sum.inl _, e, h => by cases (show (Except.ok _ : Except Nat _) = .error e from h)
  | _ + 1, _, Sum.inr (Sum.inl _), e, h => by cases (show (Except.ok _ : Except Nat _) = .error e from h)
  | n + 1, Sum.inl _, Sum.inr (Sum.inr _), e, h => by cases h; rfl
  | n + 1, Sum.inr (Sum.inl _), Sum.inr (Sum.inr _), e, h => by cases h; rfl
  | n + 1, Sum.inr (Sum.inr fp), Sum.inr (Sum.inr fq), e, h => by
    have h' : objE (meetP (ofC (composedP n)) fp fq) = .error e := h
    cases hm : meetP (ofC (composedP n)) fp fq with
    | ok R => rw [hm] at h'; cases h'
    | error e' =>
      rw [hm] at h'
      cases h'
      obtain ⟨v, u, ho⟩ := meet_err _ _ _ _ hm
      match v, u, ho with
      | v, none, ho => cases ho
      | none, some t, ho => cases ho
      | some f, some t, ho =>
        simp only [ofC] at ho
        cases hc : composedP n f t with
        | ok c => rw [hc] at ho; cases ho
        | error e2 =>
          rw [hc] at ho
          cases ho
          exact composed_err n f t _ hc
/-- what is known of what makes one value of two -/
structure Makes (N : Nat) (r : J N → J N → Except Nat (J N)) : Prop where
  good : ∀ A B j, Good N A → Good N B → r A B = .ok j → Good N j
  wgt : ∀ A B j, r A B = .ok j → wgt N j ≤ 2 * wgt N A + 2 * wgt N B
  err : ∀ A B e, r A B = .error e → e = 9
theorem told_wgt {N : Nat} {A : J N} (h : Told20 N A) : wgt N A ≤ 3200 := by
  have h1 := wgt_most N A
  have h2 := h.len
  have h3 := h.nodes
  omega
theorem Makes.fine {N : Nat} (hN : N ≤ 1000) {r : J N → J N → Except Nat (J N)} (hr : Makes N r) {A B j : J N} (hA : Told20 N A) (hB : Told20 N B) (h : r A B = .ok j) : Fine N j := by
  have h1 := hr.wgt A B j h
  have h2 := told_wgt hA
  have h3 := told_wgt hB
  have h4 := wgt_len N j
  have h5 := depth_bound N j
  exact ⟨fit_of_good _ _ (hr.good A B j hA.good hB.good h), by omega, by omega, by omega⟩
theorem Told20.okv {N : Nat} {A : J N} (h : Told20 N A) : Okv N A := ⟨fit_of_good _ _ h.good, by have := h.nodes; omega, by have := h.len; omega⟩
def applyR (N : Nat) (A B : J N) : Except Nat (J N) := .ok (mergedP N (some A) B)
theorem apply_makes (N : Nat) : Makes N (applyR N) :=
  ⟨fun A B j hA hB h => by
    cases h
    exact merged_good N (some A) B (fun x hx => by cases hx; exact hA) hB, fun A B j h => by
    cases h
    have h1 := merged_wgt N (some A) B
    simp only [wO] at h1
    omega, fun A B e h => by cases h⟩
theorem compose_makes (N : Nat) : Makes N (composedP N) := ⟨fun A B j hA hB h => composed_good N A B j hA hB h, fun A B j h => by
    have h1 := composed_wgt N A B j h
    omega, fun A B e h => composed_err N A B e h⟩
/-- what is answered: an error, or what was made, as it is told -/
theorem bothA_cases {N : Nat} (hN : 20 ≤ N) {r : J N → J N → Except Nat (J N)} (hr : Makes N r) (a b : Bs) :
    (∃ er : Nat, er ≠ 0 ∧ er < 100 ∧ bothA N r a b = #[.string ByteArray.empty, .int .i64 er]) ∨
      ∃ A B j, rd20 N a = .ok A ∧ rd20 N b = .ok B ∧ r A B = .ok j ∧ Told20 N A ∧ Told20 N B ∧ Told20 N j ∧ bothA N r a b = #[.string ⟨(tell N j).toArray⟩, .int .i64 0] := by
  have he : ∀ (s : Bs) (e : Nat), rd20 N s = .error e → e ≠ 0 ∧ e < 100 := fun s e h => by
    unfold rd20 at h
    cases hx : read s with
    | ok j => rw [hx] at h; cases h
    | error e' =>
      rw [hx] at h
      have e2 : e' = e := by
        have h' : (Except.error e' : Except Nat (J N)) = .error e := h
        exact Except.error.inj h'
      subst e2
      rcases read_isErr hx with rfl | rfl | rfl | rfl <;> decide
  unfold bothA
  cases ha : rd20 N a with
  | error e => exact Or.inl ⟨e, (he _ _ ha).1, (he _ _ ha).2, rfl⟩
  | ok A =>
    cases hb : rd20 N b with
    | error e => exact Or.inl ⟨e, (he _ _ hb).1, (he _ _ hb).2, rfl⟩
    | ok B =>
      have hA := rd20_told hN ha
      have hB := rd20_told hN hb
      cases hj : r A B with
      | error e =>
        have := hr.err A B e hj
        subst this
        exact Or.inl ⟨9, by decide, by decide, by simp only [hj]⟩
      | ok j =>
        have hg := hr.good A B j hA.good hB.good hj
        simp only [hj]
        unfold toldE
        split
        · exact Or.inl ⟨4, by decide, by decide, rfl⟩
        · split
          · exact Or.inl ⟨2, by decide, by decide, rfl⟩
          · split
            · exact Or.inl ⟨2, by decide, by decide, rfl⟩
            · exact Or.inr ⟨A, B, j, rfl, rfl, hj, hA, hB, ⟨hg, by omega, by omega, by omega⟩, rfl⟩
end Go.Proofs.YtjcdklbimaclkaaGreatDoor
/- Plain facts: what was merged, merged again; two merges as one; three of them. -/
namespace Go.Proofs.YtjcdklbimaclkaaGreatDoor
set_option linter.unusedVariables false
set_option linter.unusedSimpArgs false
theorem null_obj : ∀ {n : Nat} {j : J n}, isObjJ n j = true → isNullJ n j = false
  | 0, _, h => by cases h
  | _ + 1, Sum.inl _, h => by cases h
  | _ + 1, Sum.inr (Sum.inl _), h => by cases h
  | _ + 1, Sum.inr (Sum.inr _), _ => rfl
theorem flat_null : ∀ {n : Nat} {j : J n}, isNullJ n j = true → isObjJ n j = false
  | 0, _, _ => rfl
  | _ + 1, Sum.inl _, _ => rfl
  | _ + 1, Sum.inr (Sum.inl _), h => by cases h
  | _ + 1, Sum.inr (Sum.inr _), h => by cases h
theorem composed_objs : ∀ {n : Nat} {p q c : J n}, isObjJ n q = true → composedP n p q = .ok c → isObjJ n p = true ∧ isObjJ n c = true
  | 0, _, _, _, h, _ => by cases h
  | _ + 1, _, Sum.inl _, _, h, _ => by cases h
  | _ + 1, _, Sum.inr (Sum.inl _), _, h, _ => by cases h
  | _ + 1, Sum.inl _, Sum.inr (Sum.inr _), _, _, h => by cases h
  | _ + 1, Sum.inr (Sum.inl _), Sum.inr (Sum.inr _), _, _, h => by cases h
  | n + 1, Sum.inr (Sum.inr fp), Sum.inr (Sum.inr fq), c, _, h => by
    refine ⟨rfl, ?_⟩
    have h' : objE (meetP (ofC (composedP n)) fp fq) = .ok c := h
    cases hm : meetP (ofC (composedP n)) fp fq with
    | error e => rw [hm] at h'; cases h'
    | ok R =>
      rw [hm] at h'
      cases h'
      rfl
theorem obj_of {n : Nat} {j : J (n + 1)} (h : isObjJ (n + 1) j = true) : ∃ fs, j = Sum.inr (Sum.inr fs) := by
  match j, h with
  | Sum.inr (Sum.inr fs), _ => exact ⟨fs, rfl⟩
theorem composed_obj {n : Nat} {fp fq : List (Bs × J n)} {c : J (n + 1)} (h : composedP (n + 1) (Sum.inr (Sum.inr fp)) (Sum.inr (Sum.inr fq)) = .ok c) : ∃ R, meetP (ofC (composedP n)) fp fq = .ok R ∧ c = Sum.inr (Sum.inr R) := by
  have h' : objE (meetP (ofC (composedP n)) fp fq) = .ok c := h
  cases hm : meetP (ofC (composedP n)) fp fq with
  | error e => rw [hm] at h'; cases h'
  | ok R =>
    rw [hm] at h'
    cases h'
    exact ⟨R, rfl, rfl⟩
theorem lookM {n : Nat} {of : Of (J n)} (h0 : of none none = .ok none) {a b R : List (Bs × J n)} (h : meetP of a b = .ok R) (ha : Rising a) (hb : Rising b) (s : Bs) : of (look a s) (look b s) = .ok (look R s) := meet_look h0 _ _ _ _ (Nat.le_refl _) h ha hb s
theorem risingM {n : Nat} {of : Of (J n)} {a b R : List (Bs × J n)} (h : meetP of a b = .ok R) (ha : Rising a) (hb : Rising b) : Rising R := meet_rising _ _ _ _ h ha hb
/-- rising throughout, and all that is in it -/
abbrev GoodF (n : Nat) (fs : List (Bs × J n)) : Prop := Rising fs ∧ ∀ f ∈ fs, (∀ c ∈ f.1, meant c = true) ∧ Good n f.2
theorem GoodF.at {n : Nat} {fs : List (Bs × J n)} (h : GoodF n fs) {s : Bs} : ∀ x, look fs s = some x → Good n x := fun x hx => (h.2 _ (look_mem hx)).2
theorem ofM_some {n : Nat} (g : Option (J n) → J n → J n) (v : Option (J n)) (s : J n) : ofM g v (some s) = if isNullJ n s then .ok none else .ok (some (g v s)) := rfl
theorem merged_again : ∀ (n : Nat) (d : Option (J n)) (v : J n), (∀ x, d = some x → Good n x) → Good n v → mergedP n (some (mergedP n d v)) v = mergedP n d v
  | 0, _, _, _, _ => rfl
  | _ + 1, _, Sum.inl _, _, _ => rfl
  | _ + 1, _, Sum.inr (Sum.inl _), _, _ => rfl
  | n + 1, d, Sum.inr (Sum.inr fs), hd', hv => by
    have hD : GoodF n (fieldsP d) := good_fields hd'
    have hF : GoodF n fs := hv
    obtain ⟨R, h1, h2⟩ := merged_obj d fs
    rw [h2]
    obtain ⟨S, h3, h4⟩ := merged_obj (some (Sum.inr (Sum.inr R))) fs
    rw [h4]
    have h3' : meetP (ofM (mergedP n)) R fs = .ok S := h3
    have rR := risingM h1 hD.1 hF.1
    have e : S = R := look_ext S R (risingM h3' rR hF.1) rR fun s => by
      have a1 := lookM (ofM_none _) h1 hD.1 hF.1 s
      have a2 := lookM (ofM_none _) h3' rR hF.1 s
      cases hs : look fs s with
      | none =>
        rw [hs] at a2
        exact (Except.ok.inj a2).symm
      | some t =>
        rw [hs, ofM_some] at a1 a2
        cases hn : isNullJ n t with
        | true =>
          rw [hn] at a1 a2
          exact (Except.ok.inj a2).symm.trans (Except.ok.inj a1)
        | false =>
          rw [hn] at a1 a2
          have b1 : some (mergedP n (look (fieldsP d) s) t) = look R s := Except.ok.inj a1
          have b2 : some (mergedP n (look R s) t) = look S s := Except.ok.inj a2
          rw [← b1, merged_again n _ t hD.at (hF.at t hs)] at b2
          rw [← b2, ← b1]
    rw [e]
theorem merged_both : ∀ (n : Nat) (d : Option (J n)) (p q c : J n), (∀ x, d = some x → Good n x) → Good n p → Good n q → composedP n p q = .ok c → mergedP n (some (mergedP n d p)) q = mergedP n d c
  | 0, _, _, _, _, _, _, _, h => by cases h; rfl
  | n + 1, d, p, q, c, hd', hp, hq, h => by
    cases hj : isObjJ (n + 1) q with
    | false =>
      rw [composed_flatP p hj] at h
      cases h
      rw [merged_flatP _ hj, merged_flatP _ hj]
    | true =>
      obtain ⟨fq, rfl⟩ := obj_of hj
      obtain ⟨fp, rfl⟩ := obj_of (composed_objs hj h).1
      obtain ⟨C, hC, rfl⟩ := composed_obj h
      have hD : GoodF n (fieldsP d) := good_fields hd'
      have hP : GoodF n fp := hp
      have hQ : GoodF n fq := hq
      obtain ⟨R1, h1, e1⟩ := merged_obj d fp
      obtain ⟨R2, h2, e2⟩ := merged_obj (some (Sum.inr (Sum.inr R1))) fq
      obtain ⟨R3, h3, e3⟩ := merged_obj d C
      rw [e1, e2, e3]
      have h2' : meetP (ofM (mergedP n)) R1 fq = .ok R2 := h2
      have r1 := risingM h1 hD.1 hP.1
      have rC := risingM hC hP.1 hQ.1
      have e : R2 = R3 := look_ext R2 R3 (risingM h2' r1 hQ.1) (risingM h3 hD.1 rC) fun s => by
        have a1 := lookM (ofM_none _) h1 hD.1 hP.1 s
        have a2 := lookM (ofM_none _) h2' r1 hQ.1 s
        have a3 := lookM (ofM_none _) h3 hD.1 rC s
        have aC := lookM (ofC_none _) hC hP.1 hQ.1 s
        cases hqs : look fq s with
        | none =>
          rw [hqs] at a2 aC
          have b2 : look R1 s = look R2 s := Except.ok.inj a2
          have bC : look fp s = look C s := Except.ok.inj aC
          rw [← bC, a1] at a3
          exact b2.symm.trans (Except.ok.inj a3)
        | some t =>
          cases hps : look fp s with
          | none =>
            rw [hps] at a1 aC
            rw [hqs] at a2 aC
            have b1 : look (fieldsP d) s = look R1 s := Except.ok.inj a1
            have bC : some t = look C s := Except.ok.inj aC
            rw [← bC] at a3
            rw [← b1, a3] at a2
            exact (Except.ok.inj a2).symm
          | some f =>
            rw [hps] at a1 aC
            rw [hqs] at a2 aC
            cases hc : composedP n f t with
            | error e => simp only [ofC, hc] at aC; cases aC
            | ok c' =>
              simp only [ofC, hc] at aC
              have bC : some c' = look C s := Except.ok.inj aC
              rw [← bC] at a3
              rw [ofM_some] at a1 a2 a3
              cases hto : isObjJ n t with
              | false =>
                rw [composed_flatP f hto] at hc
                cases hc
                cases hn : isNullJ n t with
                | true =>
                  rw [hn] at a2 a3
                  exact (Except.ok.inj a2).symm.trans (Except.ok.inj a3)
                | false =>
                  rw [hn] at a2 a3
                  have b2 : some (mergedP n (look R1 s) t) = look R2 s := Except.ok.inj a2
                  have b3 : some (mergedP n (look (fieldsP d) s) t) = look R3 s := Except.ok.inj a3
                  rw [← b2, ← b3, merged_flatP _ hto, merged_flatP _ hto]
              | true =>
                obtain ⟨hfo, hco⟩ := composed_objs hto hc
                rw [null_obj hfo] at a1
                rw [null_obj hto] at a2
                rw [null_obj hco] at a3
                have b1 : some (mergedP n (look (fieldsP d) s) f) = look R1 s := Except.ok.inj a1
                have b2 : some (mergedP n (look R1 s) t) = look R2 s := Except.ok.inj a2
                have b3 : some (mergedP n (look (fieldsP d) s) c') = look R3 s := Except.ok.inj a3
                rw [← b1, merged_both n _ f t c' hD.at (hP.at f hps) (hQ.at t hqs) hc] at b2
                rw [← b2, ← b3]
      rw [e]
theorem composed_three : ∀ (n : Nat) (p q r a b c d : J n), Good n p → Good n q → Good n r → composedP n p q = .ok a → composedP n q r = .ok b → composedP n a r = .ok c → composedP n p b = .ok d → c = d
  | 0, _, _, _, _, _, _, _, _, _, _, h1, h2, h3, h4 => by
    cases h1
    cases h2
    cases h3
    cases h4
    rfl
  | n + 1, p, q, r, a, b, c, d, hp, hq, hr, h1, h2, h3, h4 => by
    cases hj : isObjJ (n + 1) r with
    | false =>
      rw [composed_flatP _ hj] at h2 h3
      cases h2
      cases h3
      rw [composed_flatP _ hj] at h4
      exact Except.ok.inj h4
    | true =>
      obtain ⟨fr, rfl⟩ := obj_of hj
      have hqo := (composed_objs hj h2).1
      obtain ⟨fq, rfl⟩ := obj_of hqo
      obtain ⟨fp, rfl⟩ := obj_of (composed_objs hqo h1).1
      obtain ⟨A, hA, rfl⟩ := composed_obj h1
      obtain ⟨B, hB, rfl⟩ := composed_obj h2
      obtain ⟨C, hC, rfl⟩ := composed_obj h3
      obtain ⟨D, hD, rfl⟩ := composed_obj h4
      have gP : GoodF n fp := hp
      have gQ : GoodF n fq := hq
      have gR : GoodF n fr := hr
      have rA := risingM hA gP.1 gQ.1
      have rB := risingM hB gQ.1 gR.1
      have e : C = D := look_ext C D (risingM hC rA gR.1) (risingM hD gP.1 rB) fun s => by
        have aA := lookM (ofC_none _) hA gP.1 gQ.1 s
        have aB := lookM (ofC_none _) hB gQ.1 gR.1 s
        have aC := lookM (ofC_none _) hC rA gR.1 s
        have aD := lookM (ofC_none _) hD gP.1 rB s
        cases hrs : look fr s with
        | none =>
          rw [hrs] at aB aC
          have bB : look fq s = look B s := Except.ok.inj aB
          have bC : look A s = look C s := Except.ok.inj aC
          rw [← bB, aA] at aD
          exact bC.symm.trans (Except.ok.inj aD)
        | some t =>
          cases hqs : look fq s with
          | none =>
            rw [hqs] at aA aB
            rw [hrs] at aB aC
            have bA : look fp s = look A s := Except.ok.inj aA
            have bB : some t = look B s := Except.ok.inj aB
            rw [← bB, bA, aC] at aD
            exact Except.ok.inj aD
          | some u =>
            rw [hqs] at aA aB
            rw [hrs] at aB aC
            cases hut : composedP n u t with
            | error e => simp only [ofC, hut] at aB; cases aB
            | ok b' =>
              simp only [ofC, hut] at aB
              have bB : some b' = look B s := Except.ok.inj aB
              rw [← bB] at aD
              cases hps : look fp s with
              | none =>
                rw [hps] at aA aD
                have bA : some u = look A s := Except.ok.inj aA
                rw [← bA] at aC
                simp only [ofC, hut] at aC
                have bC : some b' = look C s := Except.ok.inj aC
                have bD : some b' = look D s := Except.ok.inj aD
                rw [← bC, ← bD]
              | some f =>
                rw [hps] at aA aD
                cases hfu : composedP n f u with
                | error e => simp only [ofC, hfu] at aA; cases aA
                | ok a' =>
                  simp only [ofC, hfu] at aA
                  have bA : some a' = look A s := Except.ok.inj aA
                  rw [← bA] at aC
                  cases hat : composedP n a' t with
                  | error e => simp only [ofC, hat] at aC; cases aC
                  | ok c' =>
                    cases hfb : composedP n f b' with
                    | error e => simp only [ofC, hfb] at aD; cases aD
                    | ok d' =>
                      simp only [ofC, hat] at aC
                      simp only [ofC, hfb] at aD
                      have bC : some c' = look C s := Except.ok.inj aC
                      have bD : some d' = look D s := Except.ok.inj aD
                      rw [← bC, ← bD, composed_three n f u t a' b' c' d' (gP.at f hps) (gQ.at u hqs) (gR.at t hrs) hfu hut hat hfb]
      rw [e]
end Go.Proofs.YtjcdklbimaclkaaGreatDoor
/- Plain functions and facts: the merge that makes one value of another. -/
namespace Go.Proofs.YtjcdklbimaclkaaGreatDoor
set_option linter.unusedVariables false
set_option linter.unusedSimpArgs false
def sameO {n : Nat} (was : Option (J n)) (t : J n) : Bool :=
  match was with
  | none => false
  | some w => decide (tell n w = tell n t)
/-- what is said of a field that was was and is to be next; z: what where there is neither -/
def ofDz {n : Nat} (z : Option (J n)) (between : Option (J n) → J n → Except Nat (J n)) : Of (J n) := fun was next =>
  match next with
  | none => match was with
    | none => .ok z
    | some _ => .ok (some (leaf n none))
  | some t => if sameO was t then .ok none else if isNullJ n t then .error 9 else match between was t with
    | .error e => .error e
    | .ok c => .ok (some c)
def betweenP : (n : Nat) → Option (J n) → J n → Except Nat (J n)
  | 0, _, b => .ok b
  | _ + 1, _, Sum.inl l => .ok (Sum.inl l)
  | _ + 1, _, Sum.inr (Sum.inl xs) => .ok (Sum.inr (Sum.inl xs))
  | n + 1, a, Sum.inr (Sum.inr fs) => objE (meetP (ofDz none (betweenP n)) (fieldsP a) fs)
theorem low_some {α : Type} (a b : List (Bs × α)) (h : a.length + b.length ≠ 0) : ¬ (takeV a (lowName a b) = none ∧ takeV b (lowName a b) = none) := by
  rintro ⟨h1, h2⟩
  have hl := low_less a b h
  have ha : takeR a (lowName a b) = a := by
    cases a with
    | nil => rfl
    | cons f r =>
      simp only [takeV, takeR] at h1 ⊢
      split at h1
      · cases h1
      · rename_i e
        rw [if_neg e]
  have hb : takeR b (lowName a b) = b := by
    cases b with
    | nil => rfl
    | cons f r =>
      simp only [takeV, takeR] at h2 ⊢
      split at h2
      · cases h2
      · rename_i e
        rw [if_neg e]
  rw [ha, hb] at hl
  omega
theorem meetF_congr {α : Type} {of of' : Of α} (h : ∀ v u, ¬ (v = none ∧ u = none) → of v u = of' v u) : ∀ (k : Nat) (a b : List (Bs × α)), meetF of k a b = meetF of' k a b
  | 0, _, _ => rfl
  | k + 1, a, b => by
    simp only [meetF]
    split
    · rfl
    · rename_i hne
      rw [h _ _ (low_some a b hne), meetF_congr h k]
theorem ofD_congr {n : Nat} (z : Option (J n)) (g : Option (J n) → J n → Except Nat (J n)) (a b : List (Bs × J n)) : meetP (ofDz z g) a b = meetP (ofDz none g) a b := by
  refine meetF_congr (fun v u hn => ?_) _ _ _
  match v, u, hn with
  | none, none, hn => exact absurd ⟨rfl, rfl⟩ hn
  | some _, none, _ => rfl
  | none, some _, _ => rfl
  | some _, some _, _ => rfl
theorem between_flatP : ∀ {n : Nat} (a : Option (J n)) {j : J n}, isObjJ n j = false → betweenP n a j = .ok j
  | 0, _, _, _ => rfl
  | _ + 1, _, Sum.inl _, _ => rfl
  | _ + 1, _, Sum.inr (Sum.inl _), _ => rfl
  | _ + 1, _, Sum.inr (Sum.inr _), h => by cases h
theorem between_obj {n : Nat} {a : Option (J (n + 1))} {fs : List (Bs × J n)} {c : J (n + 1)} (h : betweenP (n + 1) a (Sum.inr (Sum.inr fs)) = .ok c) : ∃ R, meetP (ofDz none (betweenP n)) (fieldsP a) fs = .ok R ∧ c = Sum.inr (Sum.inr R) := by
  have h' : objE (meetP (ofDz none (betweenP n)) (fieldsP a) fs) = .ok c := h
  cases hm : meetP (ofDz none (betweenP n)) (fieldsP a) fs with
  | error e => rw [hm] at h'; cases h'
  | ok R =>
    rw [hm] at h'
    cases h'
    exact ⟨R, rfl, rfl⟩
theorem between_notnull {n : Nat} {a : Option (J n)} {t c : J n} (ht : isNullJ n t = false) (h : betweenP n a t = .ok c) : isNullJ n c = false := by
  cases hj : isObjJ n t with
  | false =>
    rw [between_flatP a hj] at h
    cases h
    exact ht
  | true =>
    cases n with
    | zero => cases hj
    | succ n =>
      obtain ⟨fs, rfl⟩ := obj_of hj
      obtain ⟨R, _, rfl⟩ := between_obj h
      rfl
theorem null_good (n : Nat) : Good n (leaf n none) := by cases n <;> trivial
theorem null_is (n : Nat) : isNullJ n (leaf n none) = true := by cases n <;> rfl
theorem null_wgt (n : Nat) : wgt n (leaf n none) ≤ 9 := by cases n <;> exact Nat.le_refl 9
theorem between_good : ∀ (n : Nat) (a : Option (J n)) (b c : J n), (∀ x, a = some x → Good n x) → Good n b → betweenP n a b = .ok c → Good n c
  | 0, _, b, c, _, hb, h => by cases h; exact hb
  | n + 1, a, b, c, ha, hb, h => by
    cases hj : isObjJ (n + 1) b with
    | false =>
      rw [between_flatP a hj] at h
      cases h
      exact hb
    | true =>
      obtain ⟨fs, rfl⟩ := obj_of hj
      obtain ⟨R, hR, rfl⟩ := between_obj h
      refine good_meet hR (good_fields ha) hb fun v u m hv hu hm => ?_
      match v, u, hv, hu, hm with
      | none, none, _, _, hm => cases hm
      | some _, none, _, _, hm => cases hm; exact null_good n
      | v, some t, hv, hu, hm =>
        simp only [ofDz] at hm
        split at hm
        · cases hm
        · split at hm
          · cases hm
          · cases hc : betweenP n v t with
            | error e => rw [hc] at hm; cases hm
            | ok c =>
              rw [hc] at hm
              cases hm
              exact between_good n v t _ hv (hu t rfl) hc
theorem between_err : ∀ (n : Nat) (a : Option (J n)) (b : J n) (e : Nat), betweenP n a b = .error e → e = 9
  | 0, _, b, e, h => by cases h
  | n + 1, a, b, e, h => by
    cases hj : isObjJ (n + 1) b with
    | false =>
      rw [between_flatP a hj] at h
      cases h
    | true =>
      obtain ⟨fs, rfl⟩ := obj_of hj
      have h' : objE (meetP (ofDz none (betweenP n)) (fieldsP a) fs) = .error e := h
      cases hm : meetP (ofDz none (betweenP n)) (fieldsP a) fs with
      | ok R => rw [hm] at h'; cases h'
      | error e' =>
        rw [hm] at h'
        cases h'
        obtain ⟨v, u, ho⟩ := meet_err _ _ _ _ hm
        match v, u, ho with
        | none, none, ho => cases ho
        | some _, none, ho => cases ho
        | v, some t, ho =>
          simp only [ofDz] at ho
          split at ho
          · cases ho
          · split at ho
            · cases ho; rfl
            · cases hc : betweenP n v t with
              | ok c => rw [hc] at ho; cases ho
              | error e2 =>
                rw [hc] at ho
                cases ho
                exact between_err n v t _ hc
/-- a measure of what was: nulls may stand for it -/
def wD (n : Nat) (j : J n) : Nat := 2 * wgt n j
theorem sum_double {α : Type} (wt : α → Nat) (fs : List (Bs × α)) : sumW (fun j => 2 * wt j) fs ≤ 2 * sumW wt fs := by
  have h := sum_le_map fs (fun f => (quote f.1).length + 2 + 2 * wt f.2) (fun f => 2 * ((quote f.1).length + 2 + wt f.2)) (fun f _ => by omega)
  rw [sum_mul_map fs (fun f => (quote f.1).length + 2 + wt f.2) 2] at h
  exact h
theorem meet_sum2 {α : Type} {of : Of α} {wt wt' : α → Nat} (hw : ∀ v u m, of v u = .ok (some m) → wt m ≤ wO wt' v + wO wt' u) : ∀ (k : Nat) (a b R : List (Bs × α)), meetF of k a b = .ok R → sumW wt R ≤ sumW wt' a + sumW wt' b
  | 0, a, b, R, h => by
    cases h
    simp [sumW]
  | k + 1, a, b, R, h => by
    by_cases hne : a.length + b.length = 0
    · simp only [meetF] at h
      rw [if_pos hne] at h
      cases h
      simp [sumW]
    · obtain ⟨m, r, h1, h2, rfl⟩ := meetF_step h hne
      have ih := meet_sum2 hw k _ _ r h2
      have hm : sumW wt (withM (lowName a b) m r) ≤ wM wt (lowName a b) m + sumW wt r := by
        cases m with
        | none => simp [withM, wM]
        | some x => simp [withM, sumW, wM]
      have hx : ∀ x, m = some x → wt x ≤ wO wt' (takeV a (lowName a b)) + wO wt' (takeV b (lowName a b)) := fun x e => hw _ _ _ (e ▸ h1)
      clear h1 h2 h hw
      generalize hnm : lowName a b = nm at *
      rcases sum_take wt' a nm with ⟨v, hv, e1⟩ | ⟨hv, e1⟩ <;> rcases sum_take wt' b nm with ⟨u, hu, e2⟩ | ⟨hu, e2⟩
      · rw [hv, hu] at hx
        cases m with
        | none => simp only [wM] at hm; omega
        | some x => have := hx x rfl; simp only [wO] at this; simp only [wM] at hm; omega
      · rw [hv, hu] at hx
        rw [e2] at ih
        cases m with
        | none => simp only [wM] at hm; omega
        | some x => have := hx x rfl; simp only [wO] at this; simp only [wM] at hm; omega
      · rw [hv, hu] at hx
        rw [e1] at ih
        cases m with
        | none => simp only [wM] at hm; omega
        | some x => have := hx x rfl; simp only [wO] at this; simp only [wM] at hm; omega
      · exfalso
        have := low_less a b hne
        rw [hnm, e1, e2] at this
        omega
theorem between_wgt : ∀ (n : Nat) (a : Option (J n)) (b c : J n), betweenP n a b = .ok c → wgt n c ≤ 2 * wO (wgt n) a + 2 * wgt n b
  | 0, a, b, c, h => by cases h; omega
  | n + 1, a, b, c, h => by
    cases hj : isObjJ (n + 1) b with
    | false =>
      rw [between_flatP a hj] at h
      cases h
      omega
    | true =>
      obtain ⟨fs, rfl⟩ := obj_of hj
      obtain ⟨R, hR, rfl⟩ := between_obj h
      have h3 : sumW (wgt n) R ≤ sumW (fun j => 2 * wgt n j) (fieldsP a) + sumW (fun j => 2 * wgt n j) fs := by
        have hx := meet_sum2 (wt := wgt n) (wt' := fun j => 2 * wgt n j) (fun v u m hm => by
          match v, u, hm with
          | none, none, hm => cases hm
          | some x, none, hm =>
            cases hm
            have := null_wgt n
            have := wgt_five n x
            simp only [wO]
            omega
          | v, some t, hm =>
            simp only [ofDz] at hm
            split at hm
            · cases hm
            · split at hm
              · cases hm
              · cases hc : betweenP n v t with
                | error e => rw [hc] at hm; cases hm
                | ok c =>
                  rw [hc] at hm
                  cases hm
                  have := between_wgt n v t _ hc
                  cases v with
                  | none => simp only [wO] at this ⊢; omega
                  | some x => simp only [wO] at this ⊢; omega) _ _ _ _ hR
        exact hx
      have h4 := wgt_fields a
      have h5 := sum_double (wgt n) (fieldsP a)
      have h6 := sum_double (wgt n) fs
      show 5 + sumW (wgt n) R ≤ 2 * wO (wgt (n + 1)) a + 2 * (5 + sumW (wgt n) fs)
      omega
end Go.Proofs.YtjcdklbimaclkaaGreatDoor
/- Plain facts: what is other between two, merged into the one, makes the other; nothing merged; nothing other. -/
namespace Go.Proofs.YtjcdklbimaclkaaGreatDoor
set_option linter.unusedVariables false
set_option linter.unusedSimpArgs false
theorem told_field {n : Nat} {fs : List (Bs × J n)} (h : Told20 (n + 1) (Sum.inr (Sum.inr fs))) : ∀ f ∈ fs, Told20 n f.2 := by
  intro f hf
  have hn : 1 + (fs.map fun f => nodes n f.2).sum ≤ 200 := h.nodes
  refine ⟨(h.good.2 f hf).2, ?_, ?_, ?_⟩
  · have : nodes n f.2 ≤ (fs.map fun f => nodes n f.2).sum := mem_le_sum _ _ (List.mem_map.2 ⟨f, hf, rfl⟩)
    omega
  · have := deep_field (m := 9) h.depth f hf
    omega
  · have hl : (123 :: (commas (fs.map fun f => quote f.1 ++ 58 :: tell n f.2) ++ [125])).length ≤ 2000 := h.len
    have h2 := (commas_two (fs.map fun f => quote f.1 ++ 58 :: tell n f.2)).2
    have h3 := mem_le_sum ((fs.map fun f => quote f.1 ++ 58 :: tell n f.2).map fun t => t.length + 1) ((quote f.1 ++ 58 :: tell n f.2).length + 1) (List.mem_map.2 ⟨_, List.mem_map.2 ⟨f, hf, rfl⟩, rfl⟩)
    simp only [List.length_cons, List.length_append, List.length_nil] at hl h3
    omega
theorem told_fields {n : Nat} {d : Option (J (n + 1))} (h : ∀ x, d = some x → Told20 (n + 1) x) : ∀ f ∈ fieldsP d, Told20 n f.2 := by
  match d, h with
  | none, _ => intro f hf; cases hf
  | some (Sum.inl _), _ => intro f hf; cases hf
  | some (Sum.inr (Sum.inl _)), _ => intro f hf; cases hf
  | some (Sum.inr (Sum.inr fs)), h => exact told_field (h _ rfl)
/-- values that are told alike are one -/
theorem told_inj {n : Nat} {x y : J n} (hx : Told20 n x) (hy : Told20 n y) (h : tell n x = tell n y) : x = y := by
  have h1 := read_told hx.good hx.nodes hx.depth hx.len
  have h2 := read_told hy.good hy.nodes hy.depth hy.len
  rw [h, h2] at h1
  have h3 : lift n 10 y = lift n 10 x := Except.ok.inj h1
  have h4 := congrArg (lift 10 n) h3
  rw [lift_lift n 10 n y hy.depth, lift_lift n 10 n x hx.depth, lift_self, lift_self] at h4
  exact h4.symm
theorem ofD_zero {n : Nat} (g : Option (J n) → J n → Except Nat (J n)) : ofDz none g none none = .ok none := rfl
theorem makes_law : ∀ (n : Nat) (a : Option (J n)) (b p : J n), (∀ x, a = some x → Told20 n x) → Told20 n b → betweenP n a b = .ok p → mergedP n a p = b
  | 0, _, _, _, _, _, h => by cases h; rfl
  | n + 1, a, b, p, ha, hb, h => by
    cases hj : isObjJ (n + 1) b with
    | false =>
      rw [between_flatP a hj] at h
      cases h
      exact merged_flatP a hj
    | true =>
      obtain ⟨fs, rfl⟩ := obj_of hj
      obtain ⟨R, hR, rfl⟩ := between_obj h
      have hA : GoodF n (fieldsP a) := good_fields fun x hx => (ha x hx).good
      have hB : GoodF n fs := hb.good
      have tA := told_fields ha
      have tB := told_field hb
      obtain ⟨S, hS, e⟩ := merged_obj a R
      rw [e]
      have rR := risingM hR hA.1 hB.1
      have e2 : S = fs := look_ext S fs (risingM hS hA.1 rR) hB.1 fun s => by
        have a1 := lookM (ofD_zero _) hR hA.1 hB.1 s
        have a2 := lookM (ofM_none _) hS hA.1 rR s
        cases hbs : look fs s with
        | none =>
          rw [hbs] at a1
          cases has : look (fieldsP a) s with
          | none =>
            rw [has] at a1 a2
            have b1 : none = look R s := Except.ok.inj a1
            rw [← b1] at a2
            exact (Except.ok.inj a2).symm
          | some x =>
            rw [has] at a1 a2
            have b1 : some (leaf n none) = look R s := Except.ok.inj a1
            rw [← b1, ofM_some, null_is] at a2
            exact (Except.ok.inj a2).symm
        | some t =>
          rw [hbs] at a1
          simp only [ofDz] at a1
          split at a1
          · rename_i hsame
            have b1 : none = look R s := Except.ok.inj a1
            rw [← b1] at a2
            have b2 : look (fieldsP a) s = look S s := Except.ok.inj a2
            cases has : look (fieldsP a) s with
            | none => rw [has] at hsame; cases hsame
            | some x =>
              rw [has] at hsame b2
              have ht : tell n x = tell n t := of_decide_eq_true hsame
              rw [← b2]
              exact congrArg some (told_inj (tA _ (look_mem has)) (tB _ (look_mem hbs)) ht)
          · split at a1
            · cases a1
            · rename_i hnn
              cases hc : betweenP n (look (fieldsP a) s) t with
              | error e => rw [hc] at a1; cases a1
              | ok c =>
                rw [hc] at a1
                have b1 : some c = look R s := Except.ok.inj a1
                rw [← b1, ofM_some, between_notnull (by simpa using hnn) hc] at a2
                have b2 : some (mergedP n (look (fieldsP a) s) c) = look S s := Except.ok.inj a2
                rw [← b2, makes_law n _ t c (fun x hx => tA _ (look_mem hx)) (tB _ (look_mem hbs)) hc]
      rw [e2]
theorem nothing_merged {n : Nat} (d : Option (J (n + 1))) (hd' : ∀ x, d = some x → Good (n + 1) x) : mergedP (n + 1) d (Sum.inr (Sum.inr [])) = Sum.inr (Sum.inr (fieldsP d)) := by
  obtain ⟨R, hR, e⟩ := merged_obj d []
  rw [e]
  have hD : GoodF n (fieldsP d) := good_fields hd'
  have e2 : R = fieldsP d := look_ext _ _ (risingM hR hD.1 List.Pairwise.nil) hD.1 fun s => by
    have a1 := lookM (ofM_none _) hR hD.1 List.Pairwise.nil s
    exact (Except.ok.inj a1).symm
  rw [e2]
theorem meet_self {α : Type} {of : Of α} : ∀ (k : Nat) (fs : List (Bs × α)), (∀ f ∈ fs, of (some f.2) (some f.2) = .ok none) → meetF of k fs fs = .ok []
  | 0, _, _ => rfl
  | k + 1, [], _ => by simp [meetF]
  | k + 1, f :: r, h => by
    have e : lowName (f :: r) (f :: r) = f.1 := by simp [lowName]
    have e1 : takeV (f :: r) f.1 = some f.2 := by simp [takeV]
    have e2 : takeR (f :: r) f.1 = r := by simp [takeR]
    simp only [meetF]
    rw [if_neg (by simp), e, e1, e2, h f (by simp), meet_self k r fun g hg => h g (by simp [hg])]
    rfl
theorem nothing_other {n : Nat} (fs : List (Bs × J n)) : betweenP (n + 1) (some (Sum.inr (Sum.inr fs))) (Sum.inr (Sum.inr fs)) = .ok (Sum.inr (Sum.inr [])) := by
  have h : meetP (ofDz none (betweenP n)) fs fs = .ok [] := meet_self _ fs fun f hf => by simp [ofDz, sameO]
  show objE (meetP (ofDz none (betweenP n)) fs fs) = _
  rw [h]
  rfl
end Go.Proofs.YtjcdklbimaclkaaGreatDoor
/- Contracts over this translation of what tells two values apart, and of what makes the merge between two. -/
namespace Go.Proofs.YtjcdklbimaclkaaGreatDoor
open Go.RowKit
set_option linter.unusedVariables false
set_option linter.unusedSimpArgs false
set_option maxRecDepth 100000 in
set_option maxHeartbeats 1000000 in
theorem equal_any (av : Nat → Prop) (n : Nat) (i j : J n) (Ti : TypeId) (xi : Value) (T : TypeId) (x : Value) (w : World) (hi : St av w n i (.iface Ti xi)) (hj : St av w n j (.iface T x)) (oki : Okv n i) (okj : Okv n j) (hT : Tab w.heap.size w) :
    Calls Tryz.prog 38 #[.iface Ti xi, .iface T x] w fun e w' => e = .returned (.bool (decide (tell n i = tell n j))) ∧ Below w.heap.size w w' := by
  have H1 : Hid (Calls Tryz.prog 44 #[.iface Ti xi] w fun e w' => e = .returned (.string ⟨(tell n i).toArray⟩) ∧ Below w.heap.size w w') := text_any n av i _ w hi oki.fit hT (by have := oki.len; omega)
  have H2 : Hid (∀ w1, Below w.heap.size w w1 → Calls Tryz.prog 44 #[.iface T x] w1 fun e w' => e = .returned (.string ⟨(tell n j).toArray⟩) ∧ Below w1.heap.size w1 w') := fun w1 hb => text_any n av j _ w1 (hj.ona hb) okj.fit (hT.on hb) (by have := okj.len; omega)
  have hbe : ((⟨(tell n i).toArray⟩ : ByteArray).toList == (⟨(tell n j).toArray⟩ : ByteArray).toList) = decide (tell n i = tell n j) := bytes_eq _ _
  clear hi hj oki okj hT
  generalize decide (tell n i = tell n j) = r at *
  generalize (⟨(tell n i).toArray⟩ : ByteArray) = ti at *
  generalize (⟨(tell n j).toArray⟩ : ByteArray) = tj at *
  go_enter Tryz.func38, Tryz.ntmps38
  go_wp2_with fail
  refine Calls.mono H1.out ?_
  rintro e w1 ⟨rfl, b1⟩
  have HB1 : Hid (Below w.heap.size w w1) := b1
  clear b1
  go_wp2_with fail
  refine Calls.mono (H2.out w1 HB1.out) ?_
  rintro e w2 ⟨rfl, b2⟩
  have HB2 : Hid (Below w.heap.size w w2) := HB1.out.trans (b2.mono HB1.out.size)
  clear b2
  go_wp2_with fail
  go_ret
  exact ⟨by rw [← hbe]; rfl, HB2.out⟩
def BetweenOK (n : Nat) : Prop := ∀ (av : Nat → Prop) (w : World) (a : Option (J n)) (b : J n) (va : Value) (T : TypeId) (x : Value), (∀ c, av c → c < w.heap.size) → OptV av w n a va → St av w n b (.iface T x) → OkO n a → Okv n b → Tab w.heap.size w →
  Calls Tryz.prog 19 #[va, .iface T x] w (MadeV av n (betweenP n a b) w)
set_option maxRecDepth 100000 in
set_option maxHeartbeats 1000000 in
theorem between_flat (av : Nat → Prop) (n : Nat) (w : World) (a : Option (J n)) (b : J n) (va : Value) (T : TypeId) (x : Value) (hst : St av w n b (.iface T x)) (hj : isObjJ n b = false) :
    Calls Tryz.prog 19 #[va, .iface T x] w (MadeV av n (betweenP n a b) w) := by
  have ht := ta_flat (flat_type hst hj)
  rw [between_flatP a hj]
  have HS : Hid (St av w n b (.iface T x)) := hst
  clear hst hj
  go_enter Tryz.func19, Tryz.ntmps19
  go_wp2_with fail
  go_ret2
  exact ⟨Below.refl _ _, Or.inr ⟨_, _, _, rfl, rfl, HS.out⟩⟩
theorem enterD (args : Array Value) (w : World) : (callFunc 37 args).run Tryz.prog w = .ok (.enter 37 args) w := by
  have h1 : (Tryz.f37.name == "runtime.NumGoroutine") = false := by kernel_rfl
  obtain ⟨c, hb⟩ : ∃ c, Tryz.f37.body = some c := ⟨_, rfl⟩
  simp only [beq_eq_false_iff_ne, ne_eq] at h1
  simp [callFunc, Tryz.func37, h1, hb]
set_option maxRecDepth 100000 in
set_option maxHeartbeats 1000000 in
theorem closureD_nil (n : Nat) (av : Nat → Prop) (w : World) (v : Option (J n)) (vv : Value) (hv : OptV av w n v vv) (g : Option (J n) → J n → Except Nat (J n)) :
    Calls Tryz.prog 37 #[vv, .nilIface] w (MakePost av n (ofDz (some (leaf n none)) g v none) w) := by
  have HR : Hid (ofDz (some (leaf n none)) g v none = .ok (some (leaf n none))) := by
    show ofDz (some (leaf n none)) g v none = _
    cases v <;> rfl
  rw [HR.out]
  have HS : Hid (St av w n (leaf n none) (.iface 66 (.agg #[]))) := st_leaf av w n none
  clear hv
  go_enter Tryz.func37, Tryz.ntmps37
  go_wp2_with fail
  go_ret2
  exact ⟨Below.refl _ _, Or.inr ⟨_, _, rfl, rfl, Or.inr ⟨_, _, _, rfl, rfl, HS.out⟩⟩⟩
set_option maxRecDepth 100000 in
set_option maxHeartbeats 1000000 in
theorem closureD_new (n : Nat) (hM : BetweenOK n) (av : Nat → Prop) (w : World) (j : J n) (T : TypeId) (x : Value) (hav : ∀ c, av c → c < w.heap.size) (hst : St av w n j (.iface T x)) (okj : Okv n j) (hT : Tab w.heap.size w) (z : Option (J n)) :
    Calls Tryz.prog 37 #[.nilIface, .iface T x] w (MakePost av n (ofDz z (betweenP n) none (some j)) w) := by
  have HN : Hid (Calls Tryz.prog 31 #[.iface T x] w fun e w' => e = .returned (.bool (isNullJ n j)) ∧ w' = w) := isNull_any av n j T x w hst
  have HC : Hid (Calls Tryz.prog 19 #[.nilIface, .iface T x] w (MadeV av n (betweenP n none j) w)) := hM av w none j .nilIface T x hav (Or.inl ⟨rfl, rfl⟩) hst (fun x hx => by cases hx) okj hT
  have HO : Hid (ofDz z (betweenP n) none (some j) = if isNullJ n j then .error 9 else match betweenP n none j with
    | .error e => .error e
    | .ok c => .ok (some c)) := rfl
  clear hM hst okj hT hav
  generalize ofDz z (betweenP n) none (some j) = res at *
  cases hb : isNullJ n j with
  | true =>
    rw [hb] at HN HO
    have HR : Hid (res = .error 9) := by show res = _; rw [HO.out]; rfl
    go_enter Tryz.func37, Tryz.ntmps37
    go_wp2_with fail
    refine Calls.mono HN.out ?_
    rintro e w1 ⟨rfl, rfl⟩
    go_wp2_with fail
    go_ret2
    exact ⟨Below.refl _ _, Or.inl ⟨9, HR.out, by decide, by decide, rfl⟩⟩
  | false =>
    rw [hb] at HN HO
    go_enter Tryz.func37, Tryz.ntmps37
    go_wp2_with fail
    refine Calls.mono HN.out ?_
    rintro e w1 ⟨rfl, rfl⟩
    go_wp2_with fail
    refine Calls.mono HC.out ?_
    rintro e w2 ⟨b2, h2⟩
    have HB : Hid (Below w1.heap.size w1 w2) := b2
    clear b2
    rcases h2 with ⟨er, h3, h4, h5, rfl⟩ | ⟨k, T', x', h3, rfl, h4⟩
    · have HR : Hid (res = .error er) := by show res = _; rw [HO.out, h3]; rfl
      clear h3
      go_wp2_with fail
      go_ret2
      exact ⟨HB.out, Or.inl ⟨er, HR.out, h4, h5, rfl⟩⟩
    · have HR : Hid (res = .ok (some k)) := by show res = _; rw [HO.out, h3]; rfl
      have HS : Hid (St av w2 n k (.iface T' x')) := h4
      clear h3 h4
      go_wp2_with fail
      go_ret2
      exact ⟨HB.out, Or.inr ⟨_, _, HR.out, rfl, Or.inr ⟨_, _, _, rfl, rfl, HS.out⟩⟩⟩
set_option maxRecDepth 100000 in
set_option maxHeartbeats 1000000 in
theorem closureD_two (n : Nat) (hM : BetweenOK n) (av : Nat → Prop) (w : World) (i j : J n) (Ti : TypeId) (xi : Value) (T : TypeId) (x : Value) (hav : ∀ c, av c → c < w.heap.size) (hsi : St av w n i (.iface Ti xi)) (hst : St av w n j (.iface T x)) (oki : Okv n i) (okj : Okv n j) (hT : Tab w.heap.size w) (z : Option (J n)) :
    Calls Tryz.prog 37 #[.iface Ti xi, .iface T x] w (MakePost av n (ofDz z (betweenP n) (some i) (some j)) w) := by
  have HQ : Hid (Calls Tryz.prog 38 #[.iface Ti xi, .iface T x] w fun e w' => e = .returned (.bool (decide (tell n i = tell n j))) ∧ Below w.heap.size w w') := equal_any av n i j Ti xi T x w hsi hst oki okj hT
  have HN : Hid (∀ w1, Below w.heap.size w w1 → Calls Tryz.prog 31 #[.iface T x] w1 fun e w' => e = .returned (.bool (isNullJ n j)) ∧ w' = w1) := fun w1 hb => isNull_any av n j T x w1 (hst.ona hb)
  have HC : Hid (∀ w1, Below w.heap.size w w1 → Calls Tryz.prog 19 #[.iface Ti xi, .iface T x] w1 (MadeV av n (betweenP n (some i) j) w1)) := fun w1 hb =>
    hM av w1 (some i) j _ T x (fun c hc => by have := hav c hc; have := hb.size; omega) (Or.inr ⟨i, Ti, xi, rfl, rfl, hsi.ona hb⟩) (hst.ona hb) (fun x hx => by cases hx; exact oki) okj (hT.on hb)
  have HO : Hid (ofDz z (betweenP n) (some i) (some j) = if decide (tell n i = tell n j) then .ok none else if isNullJ n j then .error 9 else match betweenP n (some i) j with
    | .error e => .error e
    | .ok c => .ok (some c)) := rfl
  clear hM hst hsi oki okj hT hav
  generalize ofDz z (betweenP n) (some i) (some j) = res at *
  generalize decide (tell n i = tell n j) = q at *
  cases q with
  | true =>
    have HR : Hid (res = .ok none) := by show res = _; rw [HO.out]; rfl
    go_enter Tryz.func37, Tryz.ntmps37
    go_wp2_with fail
    refine Calls.mono HQ.out ?_
    rintro e w1 ⟨rfl, b1⟩
    have HB : Hid (Below w.heap.size w w1) := b1
    clear b1
    go_wp2_with fail
    go_ret2
    exact ⟨HB.out, Or.inr ⟨_, _, HR.out, rfl, Or.inl ⟨rfl, rfl⟩⟩⟩
  | false =>
    have HO2 : Hid (res = if isNullJ n j then .error 9 else match betweenP n (some i) j with
      | .error e => .error e
      | .ok c => .ok (some c)) := by show res = _; rw [HO.out]; rfl
    clear HO
    go_enter Tryz.func37, Tryz.ntmps37
    go_wp2_with fail
    refine Calls.mono HQ.out ?_
    rintro e w1 ⟨rfl, b1⟩
    have HB1 : Hid (Below w.heap.size w w1) := b1
    clear b1
    go_wp2_with fail
    refine Calls.mono (HN.out w1 HB1.out) ?_
    rintro e w2 ⟨rfl, rfl⟩
    cases hb : isNullJ n j with
    | true =>
      have HR : Hid (res = .error 9) := by show res = _; rw [HO2.out, hb]; rfl
      go_wp2_with fail
      go_ret2
      exact ⟨HB1.out, Or.inl ⟨9, HR.out, by decide, by decide, rfl⟩⟩
    | false =>
      have HO3 : Hid (res = match betweenP n (some i) j with
        | .error e => .error e
        | .ok c => .ok (some c)) := by show res = _; rw [HO2.out, hb]; rfl
      go_wp2_with fail
      refine Calls.mono (HC.out w2 HB1.out) ?_
      rintro e w3 ⟨b3, h3⟩
      have HB3 : Hid (Below w.heap.size w w3) := HB1.out.trans (b3.mono HB1.out.size)
      clear b3
      rcases h3 with ⟨er, h3, h4, h5, rfl⟩ | ⟨k, T', x', h3, rfl, h4⟩
      · have HR : Hid (res = .error er) := by show res = _; rw [HO3.out, h3]
        clear h3
        go_wp2_with fail
        go_ret2
        exact ⟨HB3.out, Or.inl ⟨er, HR.out, h4, h5, rfl⟩⟩
      · have HR : Hid (res = .ok (some k)) := by show res = _; rw [HO3.out, h3]
        have HS : Hid (St av w3 n k (.iface T' x')) := h4
        clear h3 h4
        go_wp2_with fail
        go_ret2
        exact ⟨HB3.out, Or.inr ⟨_, _, HR.out, rfl, Or.inr ⟨_, _, _, rfl, rfl, HS.out⟩⟩⟩
theorem closureD (n : Nat) (hM : BetweenOK n) : OfOK 37 n (ofDz (some (leaf n none)) (betweenP n)) := by
  intro av w v u vv vu hav hv hu okv oku hT
  rcases hu with ⟨rfl, rfl⟩ | ⟨j, T, x, rfl, rfl, hst⟩
  · exact closureD_nil n av w v vv hv _
  · rcases hv with ⟨rfl, rfl⟩ | ⟨i, Ti, xi, rfl, rfl, hsi⟩
    · exact closureD_new n hM av w j T x hav hst (oku j rfl) hT _
    · exact closureD_two n hM av w i j Ti xi T x hav hsi hst (okv i rfl) (oku j rfl) hT _
set_option maxRecDepth 100000 in
set_option maxHeartbeats 1000000 in
theorem between_object (n : Nat) (hM : BetweenOK n) (av : Nat → Prop) (w : World) (d : Option (J (n + 1))) (fs : List (Bs × J n)) (vd : Value) (T : TypeId) (x : Value) (hav : ∀ c, av c → c < w.heap.size) (hd' : OptV av w (n + 1) d vd) (hst : St av w (n + 1) (Sum.inr (Sum.inr fs)) (.iface T x)) (okd : OkO (n + 1) d) (okv : Okv (n + 1) (Sum.inr (Sum.inr fs))) (hT : Tab w.heap.size w) :
    Calls Tryz.prog 19 #[vd, .iface T x] w (MadeV av (n + 1) (betweenP (n + 1) d (Sum.inr (Sum.inr fs))) w) := by
  obtain ⟨p, cap, e, hf⟩ := flds_of_st hst
  cases e
  obtain ⟨a1, a2, a3, a4, a5, a6⟩ := tas_Object
  have HFo' : Hid (Calls Tryz.prog 29 #[vd] w fun e w' => ∃ v', e = .returned v' ∧ w' = w ∧ Flds av w n (fieldsP d) v') := fieldsOf_any av n d vd w hd'
  have okf := okv_fields okd
  have okg := okv_field okv
  have HMt : Hid (∀ v', Flds av w n (fieldsP d) v' → Calls Tryz.prog 28 #[v', .slice p fs.length cap, .func (.func 37) #[] #[]] w (MadeV av (n + 1) (betweenP (n + 1) d (Sum.inr (Sum.inr fs))) w)) := fun v' hv' => by
    have h := meet_any 37 n enterD (ofDz (some (leaf n none)) (betweenP n)) (closureD n hM) av (fieldsP d) fs v' (.slice p fs.length cap) w hav hv' hf okf.1 okg.1 okf.2 okg.2 hT
    rw [ofD_congr] at h
    exact h
  clear hst hf hd' okd okv hT hM okf okg hav
  generalize betweenP (n + 1) d (Sum.inr (Sum.inr fs)) = res at *
  go_enter Tryz.func19, Tryz.ntmps19
  go_wp2_with fail
  refine Calls.mono HFo'.out ?_
  rintro e w1 ⟨v', rfl, rfl, hv'⟩
  have HMv : Hid _ := HMt.out v' hv'
  clear hv'
  go_wp2_with fail
  refine Calls.mono HMv.out ?_
  rintro e w2 ⟨b2, h2⟩
  have HB : Hid (Below w1.heap.size w1 w2) := b2
  clear b2
  rcases h2 with ⟨er, h3, h4, h5, rfl⟩ | ⟨k, T', x', h3, rfl, h4⟩
  · have HR : Hid (res = .error er) := h3
    clear h3
    go_wp2_with fail
    go_ret2
    exact ⟨HB.out, Or.inl ⟨er, HR.out, h4, h5, rfl⟩⟩
  · have HR : Hid (res = .ok k) := h3
    have HS : Hid (St av w2 (n + 1) k (.iface T' x')) := h4
    clear h3 h4
    go_wp2_with fail
    go_ret2
    exact ⟨HB.out, Or.inr ⟨_, _, _, HR.out, rfl, HS.out⟩⟩
theorem between_ok : ∀ n, BetweenOK n
  | 0 => fun av w d v vd T x hav hd' hst okd okv hT => between_flat av 0 w d v vd T x hst rfl
  | n + 1 => fun av w d v vd T x hav hd' hst okd okv hT => by
    match v, hst, okv with
    | Sum.inl l, hst, _ => exact between_flat av _ w d _ vd T x hst rfl
    | Sum.inr (Sum.inl xs), hst, _ => exact between_flat av _ w d _ vd T x hst rfl
    | Sum.inr (Sum.inr fs), hst, okv => exact between_object n (between_ok n) av w d fs vd T x hav hd' hst okd okv hT
end Go.Proofs.YtjcdklbimaclkaaGreatDoor
/- The table of powers of ten out of what is laid; the laws' own canon at every text. -/
namespace Go.Proofs.YtjcdklbimaclkaaGreatDoor
open Go.RowKit
set_option linter.unusedVariables false
set_option linter.unusedSimpArgs false
/-- the table stands third on the list -/
theorem tabIs_of_third {P : Program} {W : World} {name : String} {k : IntKind} {zs : List Int} {x y : String × DataW Unit} {rest : List (String × DataW Unit)} {g : Nat} {t e : TypeId} {n : Nat}
    (hg : P.globalNamed name = some g) (hty : (P.globals[g]?).map (·.type) = some t) (ht : P.underlying t = some (.array n e)) (he : P.underlying e = some (.int k)) (hce : P.cellsOf e = 1) (hct : P.cellsOf t = n)
    (h : laidMet P (x :: y :: (name, Lib.tabData k zs) :: rest) W) : Lib.TabIs P W name k zs := by
  obtain ⟨ps, ⟨_, _, _, _, _, _, _, _, _, _, ⟨_, _, _, _, _, _, _, _, _, _, ⟨g', t', cs, fuel, p, q, hg', ht', hvar, hd, _, _⟩, _⟩, _⟩, _⟩ := h
  obtain rfl := Option.some.inj (hg.symm.trans hg')
  obtain rfl := Option.some.inj (hty.symm.trans ht')
  unfold Lib.TabIs
  rw [hvar, ← Lib.cells_of_tab ht he hce hct hd]
theorem tab_of_laid {x y : String × DataW Unit} {rest : List (String × DataW Unit)} {W : World} (hn : ((x :: y :: ("internal/strconv.uint64pow10", Lib.tabData .u64 Lib.pow10Tab) :: rest).all fun x => x.2.handleName?.isNone) = true)
    (h : laidMetH Tryz.prog (x :: y :: ("internal/strconv.uint64pow10", Lib.tabData .u64 Lib.pow10Tab) :: rest) W) : Tab W.heap.size W := by
  rw [Go.MakeChecks.laidMetH_plain _ _ _ hn] at h
  exact Lib.tabBelow_of_tabIs (tabIs_of_third (P := Tryz.prog) (g := 5) (t := 176) (e := 108) (n := 20) (by kernel_rfl) (by kernel_rfl) Tryz.underlying176 Tryz.underlying108 (by kernel_rfl) (by kernel_rfl) h)
theorem keepCanon_any (t : ByteArray) (w : World) (hs : t.size ≤ maxLen) (hT : Tab w.heap.size w) :
    Calls Tryz.prog 12 #[.string t] w fun e w' => (match read t.data.toList with
      | .error _ => e = .returned (.tuple #[.string ByteArray.empty, .bool false])
      | .ok j => e = .returned (.tuple #[.string ⟨(tell 10 j).toArray⟩, .bool true])) ∧ Below w.heap.size w w' := by
  have hC := canon_any t w hs hT
  cases hr : read t.data.toList with
  | error er =>
    have HC : Hid (Calls Tryz.prog 24 #[.string t] w fun e w' => e = .returned (.tuple #[.string ByteArray.empty, .int .i64 er]) ∧ Below w.heap.size w w') := by
      refine hC.mono ?_
      rintro e w1 ⟨rfl, b1⟩
      exact ⟨by rw [canonE, hr], b1⟩
    have her : er ≠ 0 := read_err hr
    have hbe : ((er : Int) == 0) = false := by rw [beq_eq_false_iff_ne]; omega
    clear hC hr hT
    go_enter Tryz.func12, Tryz.ntmps12
    go_wp2_with fail
    refine Calls.mono HC.out ?_
    rintro e w1 ⟨rfl, b1⟩
    have HB1 : Hid (Below w.heap.size w w1) := b1
    clear b1
    go_wp2_with fail
    go_ret2
    exact ⟨rfl, HB1.out⟩
  | ok j =>
    have HC : Hid (Calls Tryz.prog 24 #[.string t] w fun e w' => e = .returned (.tuple #[.string ⟨(tell 10 j).toArray⟩, .int .i64 0]) ∧ Below w.heap.size w w') := by
      refine hC.mono ?_
      rintro e w1 ⟨rfl, b1⟩
      exact ⟨by rw [canonE, hr], b1⟩
    clear hC hr hT
    simp only []
    generalize (⟨(tell 10 j).toArray⟩ : ByteArray) = tx at *
    go_enter Tryz.func12, Tryz.ntmps12
    go_wp2_with fail
    refine Calls.mono HC.out ?_
    rintro e w1 ⟨rfl, b1⟩
    have HB1 : Hid (Below w.heap.size w w1) := b1
    clear b1
    go_wp2_with fail
    go_ret2
    exact ⟨rfl, HB1.out⟩
end Go.Proofs.YtjcdklbimaclkaaGreatDoor
/- Contracts over this translation of the calls of package json, at texts of which it is known what they are read as. -/
namespace Go.Proofs.YtjcdklbimaclkaaGreatDoor
open Go.RowKit
set_option linter.unusedVariables false
set_option linter.unusedSimpArgs false
theorem ba_of {a : ByteArray} {x : Bs} (h : a.data.toList = x) : (⟨x.toArray⟩ : ByteArray) = a := by
  subst h
  cases a
  simp
/-- one call, from whatever was made since, answers this -/
def Says (w : World) (f : Nat) (args : Array Value) (v : Value) : Prop := ∀ w1, Below w.heap.size w w1 → Calls Tryz.prog f args w1 fun e w' => e = .returned v ∧ Below w1.heap.size w1 w'
theorem Says.mono {w : World} {f : Nat} {args : Array Value} {v u : Value} (h : Says w f args v) (e : v = u) : Says w f args u := e ▸ h
theorem canon_ok {t u : ByteArray} {x : Bs} {j : J 10} {w : World} (hT : Tab w.heap.size w) (hs : t.size ≤ maxLen) (hx : t.data.toList = x) (hr : read x = .ok j) (hu : u.data.toList = tell 10 j) :
    Says w 24 #[.string t] (.tuple #[.string u, .int .i64 0]) := by
  intro w1 hb
  have h := canon_any t w1 hs ((hT.below hb).mono hb.size)
  rw [hx] at h
  refine h.mono ?_
  rintro e w2 ⟨rfl, b2⟩
  refine ⟨?_, b2⟩
  rw [canonE, hr]
  simp only []
  rw [ba_of hu]
theorem canon_err {t : ByteArray} {x : Bs} {er : Nat} {w : World} (hT : Tab w.heap.size w) (hs : t.size ≤ maxLen) (hx : t.data.toList = x) (hr : read x = .error er) :
    Says w 24 #[.string t] (.tuple #[.string ByteArray.empty, .int .i64 er]) := by
  intro w1 hb
  have h := canon_any t w1 hs ((hT.below hb).mono hb.size)
  rw [hx] at h
  refine h.mono ?_
  rintro e w2 ⟨rfl, b2⟩
  refine ⟨?_, b2⟩
  rw [canonE, hr]
theorem keep_ok {t u : ByteArray} {x : Bs} {j : J 10} {w : World} (hT : Tab w.heap.size w) (hs : t.size ≤ maxLen) (hx : t.data.toList = x) (hr : read x = .ok j) (hu : u.data.toList = tell 10 j) :
    Says w 12 #[.string t] (.tuple #[.string u, .bool true]) := by
  intro w1 hb
  have h := keepCanon_any t w1 hs ((hT.below hb).mono hb.size)
  rw [hx, hr] at h
  simp only [] at h
  rw [ba_of hu] at h
  exact h
theorem keep_err {t : ByteArray} {x : Bs} {er : Nat} {w : World} (hT : Tab w.heap.size w) (hs : t.size ≤ maxLen) (hx : t.data.toList = x) (hr : read x = .error er) :
    Says w 12 #[.string t] (.tuple #[.string ByteArray.empty, .bool false]) := by
  intro w1 hb
  have h := keepCanon_any t w1 hs ((hT.below hb).mono hb.size)
  rw [hx, hr] at h
  exact h
end Go.Proofs.YtjcdklbimaclkaaGreatDoor
/- Contracts over this translation of Apply and Diff, of canon and Kind, as a law's walk takes them. -/
namespace Go.Proofs.YtjcdklbimaclkaaGreatDoor
open Go.RowKit
set_option linter.unusedVariables false
set_option linter.unusedSimpArgs false
/-- from whatever was made since, this call answers this -/
def SaysM (w : World) (f : Nat) (args : Array Value) (v : Value) : Prop := ∀ w1, Below w.heap.size w w1 → Calls Tryz.prog f args w1 fun e w' => e = .returned v ∧ Below w1.heap.size w1 w'
theorem SaysM.mono {w : World} {f : Nat} {args : Array Value} {v u : Value} (h : SaysM w f args v) (e : v = u) : SaysM w f args u := e ▸ h
theorem enterMerged (args : Array Value) (w : World) : (callFunc 15 args).run Tryz.prog w = .ok (.enter 15 args) w := by
  have h1 : (Tryz.f15.name == "runtime.NumGoroutine") = false := by kernel_rfl
  obtain ⟨c, hb⟩ : ∃ c, Tryz.f15.body = some c := ⟨_, rfl⟩
  simp only [beq_eq_false_iff_ne, ne_eq] at h1
  simp [callFunc, Tryz.func15, h1, hb]
theorem enterBetween (args : Array Value) (w : World) : (callFunc 19 args).run Tryz.prog w = .ok (.enter 19 args) w := by
  have h1 : (Tryz.f19.name == "runtime.NumGoroutine") = false := by kernel_rfl
  obtain ⟨c, hb⟩ : ∃ c, Tryz.f19.body = some c := ⟨_, rfl⟩
  simp only [beq_eq_false_iff_ne, ne_eq] at h1
  simp [callFunc, Tryz.func19, h1, hb]
theorem apply_both {N : Nat} (hN : N ≤ 1000) : BothOK 15 N (applyR N) :=
  ⟨fun w A B Ta xa Tb xb hA hB tA tB hT => merged_ok N (fun _ => False) w (some A) B _ Tb xb (fun c h => h.elim) (Or.inr ⟨A, Ta, xa, rfl, rfl, hA⟩) hB (fun x hx => by cases hx; exact tA.okv) tB.okv hT, fun A B j tA tB h => (apply_makes N).fine hN tA tB h⟩
def diffR (N : Nat) (A B : J N) : Except Nat (J N) := betweenP N (some A) B
theorem diff_makes (N : Nat) : Makes N (diffR N) :=
  ⟨fun A B j hA hB h => between_good N (some A) B j (fun x hx => by cases hx; exact hA) hB h, fun A B j h => by
    have h1 := between_wgt N (some A) B j h
    simp only [wO] at h1
    omega, fun A B e h => between_err N (some A) B e h⟩
theorem diff_both {N : Nat} (hN : N ≤ 1000) : BothOK 19 N (diffR N) :=
  ⟨fun w A B Ta xa Tb xb hA hB tA tB hT => between_ok N (fun _ => False) w (some A) B _ Tb xb (fun c h => h.elim) (Or.inr ⟨A, Ta, xa, rfl, rfl, hA⟩) hB (fun x hx => by cases hx; exact tA.okv) tB.okv hT, fun A B j tA tB h => (diff_makes N).fine hN tA tB h⟩
set_option maxRecDepth 100000 in
set_option maxHeartbeats 2000000 in
theorem apply_says {N : Nat} (hN : 20 ≤ N) (hN2 : N ≤ 1000) {a b : ByteArray} {x y : Bs} {w : World} {r : Array Value} (hT : Tab w.heap.size w) (ha : a.size ≤ maxLen) (hb : b.size ≤ maxLen) (hx : a.data.toList = x) (hy : b.data.toList = y) (hr : bothA N (applyR N) x y = r) (hform : ∃ (s : ByteArray) (er : Nat), r = #[.string s, .int .i64 er]) :
    SaysM w 6 #[.string a, .string b] (.tuple r) := by
  intro w1 hb1
  obtain ⟨s, er, rfl⟩ := hform
  have HC : Hid (Calls Tryz.prog 14 #[.string a, .string b, .func (.func 15) #[] #[]] w1 fun e w' => e = .returned (.tuple #[.string s, .int .i64 er]) ∧ Below w1.heap.size w1 w') := by
    have h := ofBoth_any 15 N hN enterMerged (applyR N) (apply_both hN2) a b w1 ha hb (hT.on hb1)
    rw [hx, hy, hr] at h
    exact h
  clear hr hT hb1
  go_enter Tryz.func6, Tryz.ntmps6
  go_wp2_with fail
  refine Calls.mono HC.out ?_
  rintro e w2 ⟨rfl, b2⟩
  have HB : Hid (Below w1.heap.size w1 w2) := b2
  clear b2
  go_wp2_with fail
  go_ret2
  exact ⟨rfl, HB.out⟩
set_option maxRecDepth 100000 in
set_option maxHeartbeats 2000000 in
theorem diff_says {N : Nat} (hN : 20 ≤ N) (hN2 : N ≤ 1000) {a b : ByteArray} {x y : Bs} {w : World} {r : Array Value} (hT : Tab w.heap.size w) (ha : a.size ≤ maxLen) (hb : b.size ≤ maxLen) (hx : a.data.toList = x) (hy : b.data.toList = y) (hr : bothA N (diffR N) x y = r) (hform : ∃ (s : ByteArray) (er : Nat), r = #[.string s, .int .i64 er]) :
    SaysM w 8 #[.string a, .string b] (.tuple r) := by
  intro w1 hb1
  obtain ⟨s, er, rfl⟩ := hform
  have HC : Hid (Calls Tryz.prog 14 #[.string a, .string b, .func (.func 19) #[] #[]] w1 fun e w' => e = .returned (.tuple #[.string s, .int .i64 er]) ∧ Below w1.heap.size w1 w') := by
    have h := ofBoth_any 19 N hN enterBetween (diffR N) (diff_both hN2) a b w1 ha hb (hT.on hb1)
    rw [hx, hy, hr] at h
    exact h
  clear hr hT hb1
  go_enter Tryz.func8, Tryz.ntmps8
  go_wp2_with fail
  refine Calls.mono HC.out ?_
  rintro e w2 ⟨rfl, b2⟩
  have HB : Hid (Below w1.heap.size w1 w2) := b2
  clear b2
  go_wp2_with fail
  go_ret2
  exact ⟨rfl, HB.out⟩
theorem told_small {N : Nat} {j : J N} (h : Told20 N j) : (⟨(tell N j).toArray⟩ : ByteArray).size ≤ maxLen := by
  rw [size_of]
  have := h.len
  unfold maxLen
  omega
theorem few (l : Bs) (h : l.length ≤ 100) : (⟨l.toArray⟩ : ByteArray).size ≤ maxLen := by
  rw [size_of]
  unfold maxLen
  omega
theorem read_o : read [123, 125] = .ok (Sum.inr (Sum.inr [])) := by rfl
theorem kind_ok {t : ByteArray} {x : Bs} {j : J 10} {w : World} (hs : t.size ≤ maxLen) (hx : t.data.toList = x) (hr : read x = .ok j) :
    Says w 13 #[.string t] (.tuple #[.int .i64 (kindJ 10 j), .int .i64 0]) := by
  intro w1 hb
  have h := kind_any t w1 hs
  rw [hx] at h
  refine h.mono ?_
  rintro e w2 ⟨rfl, b2⟩
  refine ⟨?_, b2⟩
  rw [kindE, hr]
theorem kind_err {t : ByteArray} {x : Bs} {er : Nat} {w : World} (hs : t.size ≤ maxLen) (hx : t.data.toList = x) (hr : read x = .error er) :
    Says w 13 #[.string t] (.tuple #[.int .i64 0, .int .i64 er]) := by
  intro w1 hb
  have h := kind_any t w1 hs
  rw [hx] at h
  refine h.mono ?_
  rintro e w2 ⟨rfl, b2⟩
  refine ⟨?_, b2⟩
  rw [kindE, hr]
end Go.Proofs.YtjcdklbimaclkaaGreatDoor
/- The law MergeNothing over this translation: it answers true at every text, and leaves old memory alone. -/
namespace Go.Proofs.YtjcdklbimaclkaaGreatDoor
open Go.RowKit
set_option linter.unusedVariables false
set_option linter.unusedSimpArgs false
theorem rd20_read {N : Nat} (hN : 20 ≤ N) {s : Bs} {D : J N} (h : rd20 N s = .ok D) : ∃ j, read s = .ok j ∧ tell 10 j = tell N D ∧ kindJ 10 j = kindJ N D := by
  unfold rd20 at h
  cases hr : read s with
  | error e => rw [hr] at h; cases h
  | ok j =>
    rw [hr] at h
    have e : lift 10 N j = D := Except.ok.inj (show Except.ok (lift 10 N j) = (Except.ok D : Except Nat (J N)) from h)
    subst e
    have hs := lift_said 10 N j (Nat.le_trans (depth_bound 10 j) (by omega))
    exact ⟨j, rfl, hs.1.symm, hs.2.2.2.symm⟩
theorem rd20_wrong {N : Nat} {s : Bs} {e : Nat} (h : rd20 N s = .error e) : read s = .error e := by
  unfold rd20 at h
  cases hr : read s with
  | error e' =>
    rw [hr] at h
    exact congrArg _ (Except.error.inj (show (Except.error e' : Except Nat (J N)) = .error e from h))
  | ok j => rw [hr] at h; cases h
theorem told_o {n : Nat} : toldE (n + 1) (Sum.inr (Sum.inr [])) = #[.string ⟨#[123, 125]⟩, .int .i64 0] := by rfl
theorem kind_obj : ∀ (n : Nat) (j : J n), isObjJ n j = false → kindJ n j ≠ 6 ∧ kindJ n j < 100
  | 0, none, _ => (by decide : (1 : Nat) ≠ 6 ∧ 1 < 100)
  | 0, some (Sum.inl b), _ => (by decide : (2 : Nat) ≠ 6 ∧ 2 < 100)
  | 0, some (Sum.inr (Sum.inl i)), _ => (by decide : (3 : Nat) ≠ 6 ∧ 3 < 100)
  | 0, some (Sum.inr (Sum.inr s)), _ => (by decide : (4 : Nat) ≠ 6 ∧ 4 < 100)
  | _ + 1, Sum.inl none, _ => (by decide : (1 : Nat) ≠ 6 ∧ 1 < 100)
  | _ + 1, Sum.inl (some (Sum.inl b)), _ => (by decide : (2 : Nat) ≠ 6 ∧ 2 < 100)
  | _ + 1, Sum.inl (some (Sum.inr (Sum.inl i))), _ => (by decide : (3 : Nat) ≠ 6 ∧ 3 < 100)
  | _ + 1, Sum.inl (some (Sum.inr (Sum.inr s))), _ => (by decide : (4 : Nat) ≠ 6 ∧ 4 < 100)
  | _ + 1, Sum.inr (Sum.inl xs), _ => (by decide : (5 : Nat) ≠ 6 ∧ 5 < 100)
  | _ + 1, Sum.inr (Sum.inr fs), h => by cases h
set_option maxRecDepth 100000 in
set_option maxHeartbeats 4000000 in
theorem nothing_walk (N : Nat) (hN : 20 ≤ N) (hN2 : N ≤ 1000) (a : ByteArray) (w : World) (ha : a.size ≤ maxLen) (hT : Tab w.heap.size w) :
    Calls Tryz.prog 4 #[.string a] w fun e w' => e = .returned (.bool true) ∧ Below w.heap.size w w' := by
  cases hr : rd20 N a.data.toList with
  | error er =>
    have hre := rd20_wrong hr
    have HC : Hid (Says w 12 #[.string a] (.tuple #[.string ByteArray.empty, .bool false])) := keep_err hT ha rfl hre
    have HK : Hid (Says w 13 #[.string a] (.tuple #[.int .i64 0, .int .i64 er])) := kind_err ha rfl hre
    have e1 : bothA N (applyR N) a.data.toList [123, 125] = #[.string ByteArray.empty, .int .i64 er] := by unfold bothA; rw [hr]
    have e2 : bothA N (diffR N) a.data.toList a.data.toList = #[.string ByteArray.empty, .int .i64 er] := by unfold bothA; rw [hr]
    have HA : Hid (SaysM w 6 #[.string a, .string ⟨#[123, 125]⟩] (.tuple #[.string ByteArray.empty, .int .i64 er])) := apply_says hN hN2 hT ha (few [123, 125] (by decide)) rfl rfl e1 ⟨_, _, rfl⟩
    have HD : Hid (SaysM w 8 #[.string a, .string a] (.tuple #[.string ByteArray.empty, .int .i64 er])) := diff_says hN hN2 hT ha ha rfl rfl e2 ⟨_, _, rfl⟩
    clear hT hr hre e1 e2
    go_enter Tryz.func4, Tryz.ntmps4
    go_wp2_with fail
    refine Calls.mono (HC.out w (Below.refl _ _)) ?_
    rintro e w1 ⟨rfl, b1⟩
    have HB1 : Hid (Below w.heap.size w w1) := b1
    clear b1
    go_wp2_with fail
    refine Calls.mono (HK.out w1 HB1.out) ?_
    rintro e w2 ⟨rfl, b2⟩
    have HB2 : Hid (Below w.heap.size w w2) := HB1.out.trans (b2.mono HB1.out.size)
    clear b2
    go_wp2_with fail
    refine Calls.mono (HA.out w2 HB2.out) ?_
    rintro e w3 ⟨rfl, b3⟩
    have HB3 : Hid (Below w.heap.size w w3) := HB2.out.trans (b3.mono HB2.out.size)
    clear b3
    go_wp2_with fail
    refine Calls.mono (HD.out w3 HB3.out) ?_
    rintro e w4 ⟨rfl, b4⟩
    have HB4 : Hid (Below w.heap.size w w4) := HB3.out.trans (b4.mono HB3.out.size)
    clear b4
    go_wp2_with fail
    go_ret
    exact ⟨rfl, HB4.out⟩
  | ok A =>
    obtain ⟨n, rfl⟩ : ∃ n, N = n + 1 := ⟨N - 1, by omega⟩
    have tA := rd20_told hN hr
    obtain ⟨i, hi, htl, hk⟩ := rd20_read hN hr
    have HC : Hid (Says w 12 #[.string a] (.tuple #[.string ⟨(tell (n + 1) A).toArray⟩, .bool true])) := keep_ok hT ha rfl hi htl.symm
    have HK : Hid (Says w 13 #[.string a] (.tuple #[.int .i64 (kindJ (n + 1) A), .int .i64 0])) := by
      have := kind_ok (w := w) ha rfl hi
      rw [hk] at this
      exact this
    have ro : rd20 (n + 1) [123, 125] = .ok (Sum.inr (Sum.inr [])) := rd20_ok read_o
    have hm := nothing_merged (some A) (fun x hx => by cases hx; exact tA.good)
    cases hj : isObjJ (n + 1) A with
    | false =>
      have e1 : bothA (n + 1) (applyR (n + 1)) a.data.toList [123, 125] = #[.string ⟨#[123, 125]⟩, .int .i64 0] := by
        unfold bothA
        rw [hr, ro]
        show toldE (n + 1) (mergedP (n + 1) (some A) (Sum.inr (Sum.inr []))) = _
        rw [hm, fields_flat hj]
        exact told_o
      have e2 : bothA (n + 1) (diffR (n + 1)) a.data.toList a.data.toList = #[.string ⟨(tell (n + 1) A).toArray⟩, .int .i64 0] := by
        have hd : diffR (n + 1) A A = .ok A := between_flatP (some A) hj
        unfold bothA
        rw [hr]
        simp only [hd]
        exact tA.told
      have HA : Hid (SaysM w 6 #[.string a, .string ⟨#[123, 125]⟩] (.tuple #[.string ⟨#[123, 125]⟩, .int .i64 0])) := apply_says hN hN2 hT ha (few [123, 125] (by decide)) rfl rfl e1 ⟨_, _, rfl⟩
      have HD : Hid (SaysM w 8 #[.string a, .string a] (.tuple #[.string ⟨(tell (n + 1) A).toArray⟩, .int .i64 0])) := diff_says hN hN2 hT ha ha rfl rfl e2 ⟨_, _, rfl⟩
      have hk2 := kind_obj (n + 1) A hj
      clear hT hr tA hi htl hk ro hm e1 e2 hj
      generalize (⟨(tell (n + 1) A).toArray⟩ : ByteArray) = t at *
      generalize kindJ (n + 1) A = k at *
      have hk3 : ((k : Int) != 6) = true := by rw [bne_iff_ne]; omega
      clear hk2
      go_enter Tryz.func4, Tryz.ntmps4
      go_wp2_with fail
      refine Calls.mono (HC.out w (Below.refl _ _)) ?_
      rintro e w1 ⟨rfl, b1⟩
      have HB1 : Hid (Below w.heap.size w w1) := b1
      clear b1
      go_wp2_with fail
      refine Calls.mono (HK.out w1 HB1.out) ?_
      rintro e w2 ⟨rfl, b2⟩
      have HB2 : Hid (Below w.heap.size w w2) := HB1.out.trans (b2.mono HB1.out.size)
      clear b2
      go_wp2_with fail
      refine Calls.mono (HA.out w2 HB2.out) ?_
      rintro e w3 ⟨rfl, b3⟩
      have HB3 : Hid (Below w.heap.size w w3) := HB2.out.trans (b3.mono HB2.out.size)
      clear b3
      go_wp2_with fail
      refine Calls.mono (HD.out w3 HB3.out) ?_
      rintro e w4 ⟨rfl, b4⟩
      have HB4 : Hid (Below w.heap.size w w4) := HB3.out.trans (b4.mono HB3.out.size)
      clear b4
      go_wp2_with fail
      go_ret
      exact ⟨rfl, HB4.out⟩
    | true =>
      obtain ⟨fs, rfl⟩ := obj_of hj
      have e1 : bothA (n + 1) (applyR (n + 1)) a.data.toList [123, 125] = #[.string ⟨(tell (n + 1) (Sum.inr (Sum.inr fs))).toArray⟩, .int .i64 0] := by
        unfold bothA
        rw [hr, ro]
        show toldE (n + 1) (mergedP (n + 1) (some (Sum.inr (Sum.inr fs))) (Sum.inr (Sum.inr []))) = _
        rw [hm]
        exact tA.told
      have e2 : bothA (n + 1) (diffR (n + 1)) a.data.toList a.data.toList = #[.string ⟨#[123, 125]⟩, .int .i64 0] := by
        have hd : diffR (n + 1) (Sum.inr (Sum.inr fs)) (Sum.inr (Sum.inr fs)) = .ok (Sum.inr (Sum.inr [])) := nothing_other fs
        unfold bothA
        rw [hr]
        simp only [hd]
        exact told_o
      have HA : Hid (SaysM w 6 #[.string a, .string ⟨#[123, 125]⟩] (.tuple #[.string ⟨(tell (n + 1) (Sum.inr (Sum.inr fs))).toArray⟩, .int .i64 0])) := apply_says hN hN2 hT ha (few [123, 125] (by decide)) rfl rfl e1 ⟨_, _, rfl⟩
      have HD : Hid (SaysM w 8 #[.string a, .string a] (.tuple #[.string ⟨#[123, 125]⟩, .int .i64 0])) := diff_says hN hN2 hT ha ha rfl rfl e2 ⟨_, _, rfl⟩
      have HK' : Hid (Says w 13 #[.string a] (.tuple #[.int .i64 6, .int .i64 0])) := HK.out
      clear hT hr tA hi htl hk ro hm e1 e2 hj HK
      generalize (⟨(tell (n + 1) (Sum.inr (Sum.inr fs))).toArray⟩ : ByteArray) = t at *
      go_enter Tryz.func4, Tryz.ntmps4
      go_wp2_with fail
      refine Calls.mono (HC.out w (Below.refl _ _)) ?_
      rintro e w1 ⟨rfl, b1⟩
      have HB1 : Hid (Below w.heap.size w w1) := b1
      clear b1
      go_wp2_with fail
      refine Calls.mono (HK'.out w1 HB1.out) ?_
      rintro e w2 ⟨rfl, b2⟩
      have HB2 : Hid (Below w.heap.size w w2) := HB1.out.trans (b2.mono HB1.out.size)
      clear b2
      go_wp2_with fail
      refine Calls.mono (HA.out w2 HB2.out) ?_
      rintro e w3 ⟨rfl, b3⟩
      have HB3 : Hid (Below w.heap.size w w3) := HB2.out.trans (b3.mono HB2.out.size)
      clear b3
      go_wp2_with fail
      refine Calls.mono (HD.out w3 HB3.out) ?_
      rintro e w4 ⟨rfl, b4⟩
      have HB4 : Hid (Below w.heap.size w w4) := HB3.out.trans (b4.mono HB3.out.size)
      clear b4
      go_wp2_with fail
      go_ret
      exact ⟨rfl, HB4.out⟩
end Go.Proofs.YtjcdklbimaclkaaGreatDoor
