/- Several texts in one: MrgSize, MrgTop, MrgLaws, Laid, MThreeWalk. -/
import Derived.Test.YtjcdklbimaclkaaDoorMrgBoth
import Derived.Test.YtjcdklbimaclkaaDoorMrgComp
import Derived.Test.YtjcdklbimaclkaaDoorMrgAll
import Derived.Test.YtjcdklbimaclkaaDoorTop
import Derived.Lib.LaidTab
import Derived.MakeChecks
import Derived.Test.YtjcdklbimaclkaaDoorDocErr
/- Plain facts: how great what comes of a merge is; which errors there are. -/
namespace Go.Proofs.YtjcdklbimaclkaaDoor
set_option linter.unusedVariables false
set_option linter.unusedSimpArgs false
/-- a measure that adds up, through objects -/
def wgt : (n : Nat) → J n → Nat
  | 0, l => (tellLeaf l).length + 5
  | _ + 1, Sum.inl l => (tellLeaf l).length + 5
  | n + 1, Sum.inr (Sum.inl xs) => (tell (n + 1) (Sum.inr (Sum.inl xs))).length + nodes (n + 1) (Sum.inr (Sum.inl xs)) + 5
  | n + 1, Sum.inr (Sum.inr fs) => 5 + sumW (wgt n) fs
theorem wgt_five : ∀ (n : Nat) (j : J n), 5 ≤ wgt n j
  | 0, _ => Nat.le_add_left _ _
  | _ + 1, Sum.inl _ => Nat.le_add_left _ _
  | _ + 1, Sum.inr (Sum.inl _) => Nat.le_add_left _ _
  | _ + 1, Sum.inr (Sum.inr _) => Nat.le_add_right _ _
theorem commas_two : ∀ ts : List Bs, (commas ts).length ≤ (ts.map fun t => t.length + 1).sum ∧ (ts.map fun t => t.length + 1).sum ≤ (commas ts).length + 1
  | [] => by simp [commas]
  | [t] => by simp [commas]
  | t :: u :: r => by
    have ih := commas_two (u :: r)
    simp only [commas, List.map_cons, List.sum_cons, List.length_append, List.length_cons] at ih ⊢
    omega
theorem sum_le_map {α : Type} (l : List α) (f g : α → Nat) (h : ∀ x ∈ l, f x ≤ g x) : (l.map f).sum ≤ (l.map g).sum := by
  induction l with
  | nil => simp
  | cons x r ih =>
    have h1 := h x (by simp)
    have h2 := ih fun y hy => h y (by simp [hy])
    simp only [List.map_cons, List.sum_cons]
    omega
theorem wgt_len : ∀ (n : Nat) (j : J n), (tell n j).length ≤ wgt n j ∧ nodes n j ≤ wgt n j
  | 0, l => ⟨Nat.le_add_right _ _, by show 1 ≤ _; exact Nat.le_trans (by omega) (wgt_five 0 l)⟩
  | n + 1, Sum.inl l => ⟨Nat.le_add_right _ _, by show 1 ≤ _; exact Nat.le_trans (by omega) (wgt_five (n + 1) (Sum.inl l))⟩
  | n + 1, Sum.inr (Sum.inl xs) => by
    show _ ≤ (tell (n + 1) (Sum.inr (Sum.inl xs))).length + nodes (n + 1) (Sum.inr (Sum.inl xs)) + 5 ∧ _ ≤ (tell (n + 1) (Sum.inr (Sum.inl xs))).length + nodes (n + 1) (Sum.inr (Sum.inl xs)) + 5
    omega
  | n + 1, Sum.inr (Sum.inr fs) => by
    have ih := fun f (hf : f ∈ fs) => wgt_len n f.2
    refine ⟨?_, ?_⟩
    · show (123 :: (commas (fs.map fun f => quote f.1 ++ 58 :: tell n f.2) ++ [125])).length ≤ 5 + sumW (wgt n) fs
      have h1 := (commas_two (fs.map fun f => quote f.1 ++ 58 :: tell n f.2)).1
      rw [List.map_map] at h1
      have h2 := sum_le_map fs ((fun t => t.length + 1) ∘ fun f => quote f.1 ++ 58 :: tell n f.2) (fun f => (quote f.1).length + 2 + wgt n f.2) (fun f hf => by
        have := (ih f hf).1
        simp only [Function.comp, List.length_append, List.length_cons]
        omega)
      simp only [List.length_cons, List.length_append, List.length_nil]
      unfold sumW
      omega
    · show 1 + (fs.map fun f => nodes n f.2).sum ≤ 5 + sumW (wgt n) fs
      have h2 := sum_le_map fs (fun f => nodes n f.2) (fun f => (quote f.1).length + 2 + wgt n f.2) (fun f hf => by
        have := (ih f hf).2
        omega)
      unfold sumW
      omega
theorem sum_add_map {α : Type} (l : List α) (f g : α → Nat) : (l.map fun x => f x + g x).sum = (l.map f).sum + (l.map g).sum := by
  induction l with
  | nil => simp
  | cons x r ih =>
    simp only [List.map_cons, List.sum_cons, ih]
    omega
theorem sum_mul_map {α : Type} (l : List α) (f : α → Nat) (k : Nat) : (l.map fun x => k * f x).sum = k * (l.map f).sum := by
  induction l with
  | nil => simp
  | cons x r ih => simp only [List.map_cons, List.sum_cons, ih, Nat.mul_add]
theorem wgt_most : ∀ (n : Nat) (j : J n), wgt n j ≤ (tell n j).length + 6 * nodes n j
  | 0, l => by
    show (tellLeaf l).length + 5 ≤ (tellLeaf l).length + 6 * 1
    omega
  | n + 1, Sum.inl l => by
    show (tellLeaf l).length + 5 ≤ (tellLeaf l).length + 6 * 1
    omega
  | n + 1, Sum.inr (Sum.inl xs) => by
    have := nodes_pos (n + 1) (Sum.inr (Sum.inl xs))
    show (tell (n + 1) (Sum.inr (Sum.inl xs))).length + nodes (n + 1) (Sum.inr (Sum.inl xs)) + 5 ≤ _
    omega
  | n + 1, Sum.inr (Sum.inr fs) => by
    have ih := fun f (hf : f ∈ fs) => wgt_most n f.2
    have h1 := (commas_two (fs.map fun f => quote f.1 ++ 58 :: tell n f.2)).2
    rw [List.map_map] at h1
    have h2 := sum_le_map fs (fun f => (quote f.1).length + 2 + wgt n f.2) (fun f => (((fun t => t.length + 1) ∘ fun f : Bs × J n => quote f.1 ++ 58 :: tell n f.2) f) + 6 * nodes n f.2) (fun f hf => by
      have := ih f hf
      simp only [Function.comp, List.length_append, List.length_cons]
      omega)
    have h4 := sum_add_map fs ((fun t => t.length + 1) ∘ fun f : Bs × J n => quote f.1 ++ 58 :: tell n f.2) (fun f => 6 * nodes n f.2)
    have h3 := sum_mul_map fs (fun f => nodes n f.2) 6
    show 5 + sumW (wgt n) fs ≤ (123 :: (commas (fs.map fun f => quote f.1 ++ 58 :: tell n f.2) ++ [125])).length + 6 * (1 + (fs.map fun f => nodes n f.2).sum)
    simp only [List.length_cons, List.length_append, List.length_nil]
    unfold sumW
    omega
theorem wgt_fields {n : Nat} (d : Option (J (n + 1))) : sumW (wgt n) (fieldsP d) ≤ wO (wgt (n + 1)) d := by
  match d with
  | none => exact Nat.le_refl _
  | some (Sum.inl _) => exact Nat.zero_le _
  | some (Sum.inr (Sum.inl _)) => exact Nat.zero_le _
  | some (Sum.inr (Sum.inr fs)) => exact Nat.le_add_left _ _
theorem merged_wgt : ∀ (n : Nat) (d : Option (J n)) (v : J n), wgt n (mergedP n d v) ≤ wO (wgt n) d + wgt n v
  | 0, _, _ => Nat.le_add_left _ _
  | _ + 1, _, Sum.inl _ => Nat.le_add_left _ _
  | _ + 1, _, Sum.inr (Sum.inl _) => Nat.le_add_left _ _
  | n + 1, d, Sum.inr (Sum.inr fs) => by
    obtain ⟨R, h1, h2⟩ := merged_obj d fs
    rw [h2]
    have h3 := meet_sum (wt := wgt n) (fun v u m hm => by
      match u, hm with
      | none, hm =>
        have e : v = some m := Except.ok.inj hm
        subst e
        exact Nat.le_add_right _ _
      | some s, hm =>
        simp only [ofM] at hm
        split at hm
        · cases hm
        · cases hm
          exact merged_wgt n v s) _ _ _ _ h1
    have h4 := wgt_fields d
    show 5 + sumW (wgt n) R ≤ wO (wgt (n + 1)) d + (5 + sumW (wgt n) fs)
    omega
theorem composed_wgt : ∀ (n : Nat) (p q c : J n), composedP n p q = .ok c → wgt n c ≤ wgt n p + wgt n q
  | 0, _, q, c, h => by cases h; exact Nat.le_add_left _ _
  | _ + 1, _, Sum.inl _, c, h => by
    have e := Except.ok.inj (show (Except.ok _ : Except Nat _) = .ok c from h)
    subst e
    exact Nat.le_add_left _ _
  | _ + 1, _, Sum.inr (Sum.inl _), c, h => by
    have e := Except.ok.inj (show (Except.ok _ : Except Nat _) = .ok c from h)
    subst e
    exact Nat.le_add_left _ _
  | n + 1, Sum.inl _, Sum.inr (Sum.inr _), c, h => by cases h
  | n + 1, Sum.inr (Sum.inl _), Sum.inr (Sum.inr _), c, h => by cases h
  | n + 1, Sum.inr (Sum.inr fp), Sum.inr (Sum.inr fq), c, h => by
    have h' : objE (meetP (ofC (composedP n)) fp fq) = .ok c := h
    cases hm : meetP (ofC (composedP n)) fp fq with
    | error e => rw [hm] at h'; cases h'
    | ok R =>
      rw [hm] at h'
      cases h'
      have h3 := meet_sum (wt := wgt n) (fun v u m ho => by
        match v, u, ho with
        | v, none, ho =>
          have e : v = some m := Except.ok.inj ho
          subst e
          exact Nat.le_add_right _ _
        | none, some t, ho =>
          have e : some t = some m := Except.ok.inj ho
          cases e
          exact Nat.le_add_left _ _
        | some f, some t, ho =>
          simp only [ofC] at ho
          cases hc : composedP n f t with
          | error e => rw [hc] at ho; cases ho
          | ok c =>
            rw [hc] at ho
            cases ho
            exact composed_wgt n f t _ hc) _ _ _ _ hm
      show 5 + sumW (wgt n) R ≤ (5 + sumW (wgt n) fp) + (5 + sumW (wgt n) fq)
      omega
theorem meet_err {α : Type} {of : Of α} : ∀ (k : Nat) (a b : List (Bs × α)) (e : Nat), meetF of k a b = .error e → ∃ v u, of v u = .error e
  | 0, _, _, _, h => by cases h
  | k + 1, a, b, e, h => by
    simp only [meetF] at h
    split at h
    · cases h
    · cases h1 : of (takeV a (lowName a b)) (takeV b (lowName a b)) with
      | error e' =>
        rw [h1] at h
        cases h
        exact ⟨_, _, h1⟩
      | ok m =>
        rw [h1] at h
        cases h2 : meetF of k (takeR a (lowName a b)) (takeR b (lowName a b)) with
        | error e' =>
          simp only [h2] at h
          cases h
          exact meet_err k _ _ _ h2
        | ok r => simp only [h2] at h; cases h
theorem composed_err : ∀ (n : Nat) (p q : J n) (e : Nat), composedP n p q = .error e → e = 9
  | 0, _, q, e, h => by cases h
  | _ + 1, _, Sum.inl _, e, h => by cases (show (Except.ok _ : Except Nat _) = .error e from h)
  | _ + 1, _, Sum.inr (Sum.inl _), e, h => by cases (show (Except.ok _ : Except Nat _) = .error e from h)
  | n + 1, Sum.inl _, Sum.inr (Sum.inr _), e, h => by cases h; rfl
  | n + 1, Sum.inr (Sum.inl _), Sum.inr (Sum.inr _), e, h => by cases h; rfl
  | n + 1, Sum.inr (Sum.inr fp), Sum.inr (Sum.inr fq), e, h => by
    have h' : objE (meetP (ofC (composedP n)) fp fq) = .error e := h
    cases hm : meetP (ofC (composedP n)) fp fq with
    | ok R => rw [hm] at h'; cases h'
    | error e' =>
      rw [hm] at h'
      cases h'
      obtain ⟨v, u, ho⟩ := meet_err _ _ _ _ hm
      match v, u, ho with
      | v, none, ho => cases ho
      | none, some t, ho => cases ho
      | some f, some t, ho =>
        simp only [ofC] at ho
        cases hc : composedP n f t with
        | ok c => rw [hc] at ho; cases ho
        | error e2 =>
          rw [hc] at ho
          cases ho
          exact composed_err n f t _ hc
/-- what is known of what makes one value of two -/
structure Makes (N : Nat) (r : J N → J N → Except Nat (J N)) : Prop where
  good : ∀ A B j, Good N A → Good N B → r A B = .ok j → Good N j
  wgt : ∀ A B j, r A B = .ok j → wgt N j ≤ 2 * wgt N A + 2 * wgt N B
  err : ∀ A B e, r A B = .error e → e = 9
theorem told_wgt {N : Nat} {A : J N} (h : Told20 N A) : wgt N A ≤ 3200 := by
  have h1 := wgt_most N A
  have h2 := h.len
  have h3 := h.nodes
  omega
theorem Makes.fine {N : Nat} (hN : N ≤ 1000) {r : J N → J N → Except Nat (J N)} (hr : Makes N r) {A B j : J N} (hA : Told20 N A) (hB : Told20 N B) (h : r A B = .ok j) : Fine N j := by
  have h1 := hr.wgt A B j h
  have h2 := told_wgt hA
  have h3 := told_wgt hB
  have h4 := wgt_len N j
  have h5 := depth_bound N j
  exact ⟨fit_of_good _ _ (hr.good A B j hA.good hB.good h), by omega, by omega, by omega⟩
theorem Told20.okv {N : Nat} {A : J N} (h : Told20 N A) : Okv N A := ⟨fit_of_good _ _ h.good, by have := h.nodes; omega, by have := h.len; omega⟩
def applyR (N : Nat) (A B : J N) : Except Nat (J N) := .ok (mergedP N (some A) B)
theorem apply_makes (N : Nat) : Makes N (applyR N) :=
  ⟨fun A B j hA hB h => by
    cases h
    exact merged_good N (some A) B (fun x hx => by cases hx; exact hA) hB, fun A B j h => by
    cases h
    have h1 := merged_wgt N (some A) B
    simp only [wO] at h1
    omega, fun A B e h => by cases h⟩
theorem compose_makes (N : Nat) : Makes N (composedP N) := ⟨fun A B j hA hB h => composed_good N A B j hA hB h, fun A B j h => by
    have h1 := composed_wgt N A B j h
    omega, fun A B e h => composed_err N A B e h⟩
/-- what is answered: an error, or what was made, as it is told -/
theorem bothA_cases {N : Nat} (hN : 20 ≤ N) {r : J N → J N → Except Nat (J N)} (hr : Makes N r) (a b : Bs) :
    (∃ er : Nat, er ≠ 0 ∧ er < 100 ∧ bothA N r a b = #[.string ByteArray.empty, .int .i64 er]) ∨
      ∃ A B j, rd20 N a = .ok A ∧ rd20 N b = .ok B ∧ r A B = .ok j ∧ Told20 N A ∧ Told20 N B ∧ Told20 N j ∧ bothA N r a b = #[.string ⟨(tell N j).toArray⟩, .int .i64 0] := by
  have he : ∀ (s : Bs) (e : Nat), rd20 N s = .error e → e ≠ 0 ∧ e < 100 := fun s e h => by
    unfold rd20 at h
    cases hx : read s with
    | ok j => rw [hx] at h; cases h
    | error e' =>
      rw [hx] at h
      have e2 : e' = e := by
        have h' : (Except.error e' : Except Nat (J N)) = .error e := h
        exact Except.error.inj h'
      subst e2
      rcases read_isErr hx with rfl | rfl | rfl | rfl <;> decide
  unfold bothA
  cases ha : rd20 N a with
  | error e => exact Or.inl ⟨e, (he _ _ ha).1, (he _ _ ha).2, rfl⟩
  | ok A =>
    cases hb : rd20 N b with
    | error e => exact Or.inl ⟨e, (he _ _ hb).1, (he _ _ hb).2, rfl⟩
    | ok B =>
      have hA := rd20_told hN ha
      have hB := rd20_told hN hb
      cases hj : r A B with
      | error e =>
        have := hr.err A B e hj
        subst this
        exact Or.inl ⟨9, by decide, by decide, by simp only [hj]⟩
      | ok j =>
        have hg := hr.good A B j hA.good hB.good hj
        simp only [hj]
        unfold toldE
        split
        · exact Or.inl ⟨4, by decide, by decide, rfl⟩
        · split
          · exact Or.inl ⟨2, by decide, by decide, rfl⟩
          · split
            · exact Or.inl ⟨2, by decide, by decide, rfl⟩
            · exact Or.inr ⟨A, B, j, rfl, rfl, hj, hA, hB, ⟨hg, by omega, by omega, by omega⟩, rfl⟩
end Go.Proofs.YtjcdklbimaclkaaDoor
/- Contracts over this translation of Apply and Compose, as a law's walk takes them. -/
namespace Go.Proofs.YtjcdklbimaclkaaDoor
open Go.RowKit
set_option linter.unusedVariables false
set_option linter.unusedSimpArgs false
/-- from whatever was made since, this call answers this -/
def SaysM (w : World) (f : Nat) (args : Array Value) (v : Value) : Prop := ∀ w1, Below w.heap.size w w1 → Calls Tryd.prog f args w1 fun e w' => e = .returned v ∧ Below w1.heap.size w1 w'
theorem SaysM.mono {w : World} {f : Nat} {args : Array Value} {v u : Value} (h : SaysM w f args v) (e : v = u) : SaysM w f args u := e ▸ h
theorem enterMerged (args : Array Value) (w : World) : (callFunc 9 args).run Tryd.prog w = .ok (.enter 9 args) w := by
  have h1 : (Tryd.f9.name == "runtime.NumGoroutine") = false := by kernel_rfl
  obtain ⟨c, hb⟩ : ∃ c, Tryd.f9.body = some c := ⟨_, rfl⟩
  simp only [beq_eq_false_iff_ne, ne_eq] at h1
  simp [callFunc, Tryd.func9, h1, hb]
theorem enterComposed (args : Array Value) (w : World) : (callFunc 10 args).run Tryd.prog w = .ok (.enter 10 args) w := by
  have h1 : (Tryd.f10.name == "runtime.NumGoroutine") = false := by kernel_rfl
  obtain ⟨c, hb⟩ : ∃ c, Tryd.f10.body = some c := ⟨_, rfl⟩
  simp only [beq_eq_false_iff_ne, ne_eq] at h1
  simp [callFunc, Tryd.func10, h1, hb]
theorem apply_both {N : Nat} (hN : N ≤ 1000) : BothOK 9 N (applyR N) :=
  ⟨fun w A B Ta xa Tb xb hA hB tA tB hT => merged_ok N (fun _ => False) w (some A) B _ Tb xb (fun c h => h.elim) (Or.inr ⟨A, Ta, xa, rfl, rfl, hA⟩) hB (fun x hx => by cases hx; exact tA.okv) tB.okv hT, fun A B j tA tB h => (apply_makes N).fine hN tA tB h⟩
theorem compose_both {N : Nat} (hN : N ≤ 1000) : BothOK 10 N (composedP N) :=
  ⟨fun w A B Ta xa Tb xb hA hB tA tB hT => composed_ok N (fun _ => False) w A B Ta xa Tb xb (fun c h => h.elim) hA hB tA.okv tB.okv hT, fun A B j tA tB h => (compose_makes N).fine hN tA tB h⟩
set_option maxRecDepth 100000 in
set_option maxHeartbeats 2000000 in
theorem apply_says {N : Nat} (hN : 20 ≤ N) (hN2 : N ≤ 1000) {a b : ByteArray} {x y : Bs} {w : World} {r : Array Value} (hT : Tab w.heap.size w) (ha : a.size ≤ maxLen) (hb : b.size ≤ maxLen) (hx : a.data.toList = x) (hy : b.data.toList = y) (hr : bothA N (applyR N) x y = r) (hform : ∃ (s : ByteArray) (er : Nat), r = #[.string s, .int .i64 er]) :
    SaysM w 6 #[.string a, .string b] (.tuple r) := by
  intro w1 hb1
  obtain ⟨s, er, rfl⟩ := hform
  have HC : Hid (Calls Tryd.prog 8 #[.string a, .string b, .func (.func 9) #[] #[]] w1 fun e w' => e = .returned (.tuple #[.string s, .int .i64 er]) ∧ Below w1.heap.size w1 w') := by
    have h := ofBoth_any 9 N hN enterMerged (applyR N) (apply_both hN2) a b w1 ha hb (hT.on hb1)
    rw [hx, hy, hr] at h
    exact h
  clear hr hT hb1
  go_enter Tryd.func6, Tryd.ntmps6
  go_wp2_with fail
  refine Calls.mono HC.out ?_
  rintro e w2 ⟨rfl, b2⟩
  have HB : Hid (Below w1.heap.size w1 w2) := b2
  clear b2
  go_wp2_with fail
  go_ret2
  exact ⟨rfl, HB.out⟩
set_option maxRecDepth 100000 in
set_option maxHeartbeats 2000000 in
theorem compose_says {N : Nat} (hN : 20 ≤ N) (hN2 : N ≤ 1000) {a b : ByteArray} {x y : Bs} {w : World} {r : Array Value} (hT : Tab w.heap.size w) (ha : a.size ≤ maxLen) (hb : b.size ≤ maxLen) (hx : a.data.toList = x) (hy : b.data.toList = y) (hr : bothA N (composedP N) x y = r) (hform : ∃ (s : ByteArray) (er : Nat), r = #[.string s, .int .i64 er]) :
    SaysM w 7 #[.string a, .string b] (.tuple r) := by
  intro w1 hb1
  obtain ⟨s, er, rfl⟩ := hform
  have HC : Hid (Calls Tryd.prog 8 #[.string a, .string b, .func (.func 10) #[] #[]] w1 fun e w' => e = .returned (.tuple #[.string s, .int .i64 er]) ∧ Below w1.heap.size w1 w') := by
    have h := ofBoth_any 10 N hN enterComposed (composedP N) (compose_both hN2) a b w1 ha hb (hT.on hb1)
    rw [hx, hy, hr] at h
    exact h
  clear hr hT hb1
  go_enter Tryd.func7, Tryd.ntmps7
  go_wp2_with fail
  refine Calls.mono HC.out ?_
  rintro e w2 ⟨rfl, b2⟩
  have HB : Hid (Below w1.heap.size w1 w2) := b2
  clear b2
  go_wp2_with fail
  go_ret2
  exact ⟨rfl, HB.out⟩
theorem told_small {N : Nat} {j : J N} (h : Told20 N j) : (⟨(tell N j).toArray⟩ : ByteArray).size ≤ maxLen := by
  rw [size_of]
  have := h.len
  unfold maxLen
  omega
theorem few (l : Bs) (h : l.length ≤ 100) : (⟨l.toArray⟩ : ByteArray).size ≤ maxLen := by
  rw [size_of]
  unfold maxLen
  omega
theorem read_1 : read [49] = .ok (Sum.inl (some (Sum.inr (Sum.inl 1)))) := by rfl
theorem read_2 : read [50] = .ok (Sum.inl (some (Sum.inr (Sum.inl 2)))) := by rfl
theorem read_o : read [123, 125] = .ok (Sum.inr (Sum.inr [])) := by rfl
theorem apply_12 {N : Nat} (hN : 20 ≤ N) : bothA N (applyR N) [49] [50] = #[.string ⟨#[50]⟩, .int .i64 0] := by
  obtain ⟨n, rfl⟩ : ∃ n, N = n + 1 := ⟨N - 1, by omega⟩
  unfold bothA
  rw [rd20_ok read_1, rd20_ok read_2]
  show toldE (n + 1) (Sum.inl (some (Sum.inr (Sum.inl 2)))) = _
  have h : tell (n + 1) (Sum.inl (some (Sum.inr (Sum.inl 2)))) = [50] := by
    show Lib.itoa 2 = [50]
    decide +kernel
  have h1 : depth (n + 1) (Sum.inl (some (Sum.inr (Sum.inl 2)))) = 0 := rfl
  have h2 : nodes (n + 1) (Sum.inl (some (Sum.inr (Sum.inl 2)))) = 1 := rfl
  unfold toldE
  rw [h, h1, h2]
  rfl
theorem compose_1o {N : Nat} (hN : 20 ≤ N) : bothA N (composedP N) [49] [123, 125] = #[.string ByteArray.empty, .int .i64 9] := by
  obtain ⟨n, rfl⟩ : ∃ n, N = n + 1 := ⟨N - 1, by omega⟩
  unfold bothA
  rw [rd20_ok read_1, rd20_ok read_o]
  rfl
end Go.Proofs.YtjcdklbimaclkaaDoor
/- Plain facts: what was merged, merged again; two merges as one; three of them. -/
namespace Go.Proofs.YtjcdklbimaclkaaDoor
set_option linter.unusedVariables false
set_option linter.unusedSimpArgs false
theorem null_obj : ∀ {n : Nat} {j : J n}, isObjJ n j = true → isNullJ n j = false
  | 0, _, h => by cases h
  | _ + 1, Sum.inl _, h => by cases h
  | _ + 1, Sum.inr (Sum.inl _), h => by cases h
  | _ + 1, Sum.inr (Sum.inr _), _ => rfl
theorem flat_null : ∀ {n : Nat} {j : J n}, isNullJ n j = true → isObjJ n j = false
  | 0, _, _ => rfl
  | _ + 1, Sum.inl _, _ => rfl
  | _ + 1, Sum.inr (Sum.inl _), h => by cases h
  | _ + 1, Sum.inr (Sum.inr _), h => by cases h
theorem composed_objs : ∀ {n : Nat} {p q c : J n}, isObjJ n q = true → composedP n p q = .ok c → isObjJ n p = true ∧ isObjJ n c = true
  | 0, _, _, _, h, _ => by cases h
  | _ + 1, _, Sum.inl _, _, h, _ => by cases h
  | _ + 1, _, Sum.inr (Sum.inl _), _, h, _ => by cases h
  | _ + 1, Sum.inl _, Sum.inr (Sum.inr _), _, _, h => by cases h
  | _ + 1, Sum.inr (Sum.inl _), Sum.inr (Sum.inr _), _, _, h => by cases h
  | n + 1, Sum.inr (Sum.inr fp), Sum.inr (Sum.inr fq), c, _, h => by
    refine ⟨rfl, ?_⟩
    have h' : objE (meetP (ofC (composedP n)) fp fq) = .ok c := h
    cases hm : meetP (ofC (composedP n)) fp fq with
    | error e => rw [hm] at h'; cases h'
    | ok R =>
      rw [hm] at h'
      cases h'
      rfl
theorem obj_of {n : Nat} {j : J (n + 1)} (h : isObjJ (n + 1) j = true) : ∃ fs, j = Sum.inr (Sum.inr fs) := by
  match j, h with
  | Sum.inr (Sum.inr fs), _ => exact ⟨fs, rfl⟩
theorem composed_obj {n : Nat} {fp fq : List (Bs × J n)} {c : J (n + 1)} (h : composedP (n + 1) (Sum.inr (Sum.inr fp)) (Sum.inr (Sum.inr fq)) = .ok c) : ∃ R, meetP (ofC (composedP n)) fp fq = .ok R ∧ c = Sum.inr (Sum.inr R) := by
  have h' : objE (meetP (ofC (composedP n)) fp fq) = .ok c := h
  cases hm : meetP (ofC (composedP n)) fp fq with
  | error e => rw [hm] at h'; cases h'
  | ok R =>
    rw [hm] at h'
    cases h'
    exact ⟨R, rfl, rfl⟩
theorem lookM {n : Nat} {of : Of (J n)} (h0 : of none none = .ok none) {a b R : List (Bs × J n)} (h : meetP of a b = .ok R) (ha : Rising a) (hb : Rising b) (s : Bs) : of (look a s) (look b s) = .ok (look R s) := meet_look h0 _ _ _ _ (Nat.le_refl _) h ha hb s
theorem risingM {n : Nat} {of : Of (J n)} {a b R : List (Bs × J n)} (h : meetP of a b = .ok R) (ha : Rising a) (hb : Rising b) : Rising R := meet_rising _ _ _ _ h ha hb
/-- rising throughout, and all that is in it -/
abbrev GoodF (n : Nat) (fs : List (Bs × J n)) : Prop := Rising fs ∧ ∀ f ∈ fs, (∀ c ∈ f.1, meant c = true) ∧ Good n f.2
theorem GoodF.at {n : Nat} {fs : List (Bs × J n)} (h : GoodF n fs) {s : Bs} : ∀ x, look fs s = some x → Good n x := fun x hx => (h.2 _ (look_mem hx)).2
theorem ofM_some {n : Nat} (g : Option (J n) → J n → J n) (v : Option (J n)) (s : J n) : ofM g v (some s) = if isNullJ n s then .ok none else .ok (some (g v s)) := rfl
theorem merged_again : ∀ (n : Nat) (d : Option (J n)) (v : J n), (∀ x, d = some x → Good n x) → Good n v → mergedP n (some (mergedP n d v)) v = mergedP n d v
  | 0, _, _, _, _ => rfl
  | _ + 1, _, Sum.inl _, _, _ => rfl
  | _ + 1, _, Sum.inr (Sum.inl _), _, _ => rfl
  | n + 1, d, Sum.inr (Sum.inr fs), hd', hv => by
    have hD : GoodF n (fieldsP d) := good_fields hd'
    have hF : GoodF n fs := hv
    obtain ⟨R, h1, h2⟩ := merged_obj d fs
    rw [h2]
    obtain ⟨S, h3, h4⟩ := merged_obj (some (Sum.inr (Sum.inr R))) fs
    rw [h4]
    have h3' : meetP (ofM (mergedP n)) R fs = .ok S := h3
    have rR := risingM h1 hD.1 hF.1
    have e : S = R := look_ext S R (risingM h3' rR hF.1) rR fun s => by
      have a1 := lookM (ofM_none _) h1 hD.1 hF.1 s
      have a2 := lookM (ofM_none _) h3' rR hF.1 s
      cases hs : look fs s with
      | none =>
        rw [hs] at a2
        exact (Except.ok.inj a2).symm
      | some t =>
        rw [hs, ofM_some] at a1 a2
        cases hn : isNullJ n t with
        | true =>
          rw [hn] at a1 a2
          exact (Except.ok.inj a2).symm.trans (Except.ok.inj a1)
        | false =>
          rw [hn] at a1 a2
          have b1 : some (mergedP n (look (fieldsP d) s) t) = look R s := Except.ok.inj a1
          have b2 : some (mergedP n (look R s) t) = look S s := Except.ok.inj a2
          rw [← b1, merged_again n _ t hD.at (hF.at t hs)] at b2
          rw [← b2, ← b1]
    rw [e]
theorem merged_both : ∀ (n : Nat) (d : Option (J n)) (p q c : J n), (∀ x, d = some x → Good n x) → Good n p → Good n q → composedP n p q = .ok c → mergedP n (some (mergedP n d p)) q = mergedP n d c
  | 0, _, _, _, _, _, _, _, h => by cases h; rfl
  | n + 1, d, p, q, c, hd', hp, hq, h => by
    cases hj : isObjJ (n + 1) q with
    | false =>
      rw [composed_flatP p hj] at h
      cases h
      rw [merged_flatP _ hj, merged_flatP _ hj]
    | true =>
      obtain ⟨fq, rfl⟩ := obj_of hj
      obtain ⟨fp, rfl⟩ := obj_of (composed_objs hj h).1
      obtain ⟨C, hC, rfl⟩ := composed_obj h
      have hD : GoodF n (fieldsP d) := good_fields hd'
      have hP : GoodF n fp := hp
      have hQ : GoodF n fq := hq
      obtain ⟨R1, h1, e1⟩ := merged_obj d fp
      obtain ⟨R2, h2, e2⟩ := merged_obj (some (Sum.inr (Sum.inr R1))) fq
      obtain ⟨R3, h3, e3⟩ := merged_obj d C
      rw [e1, e2, e3]
      have h2' : meetP (ofM (mergedP n)) R1 fq = .ok R2 := h2
      have r1 := risingM h1 hD.1 hP.1
      have rC := risingM hC hP.1 hQ.1
      have e : R2 = R3 := look_ext R2 R3 (risingM h2' r1 hQ.1) (risingM h3 hD.1 rC) fun s => by
        have a1 := lookM (ofM_none _) h1 hD.1 hP.1 s
        have a2 := lookM (ofM_none _) h2' r1 hQ.1 s
        have a3 := lookM (ofM_none _) h3 hD.1 rC s
        have aC := lookM (ofC_none _) hC hP.1 hQ.1 s
        cases hqs : look fq s with
        | none =>
          rw [hqs] at a2 aC
          have b2 : look R1 s = look R2 s := Except.ok.inj a2
          have bC : look fp s = look C s := Except.ok.inj aC
          rw [← bC, a1] at a3
          exact b2.symm.trans (Except.ok.inj a3)
        | some t =>
          cases hps : look fp s with
          | none =>
            rw [hps] at a1 aC
            rw [hqs] at a2 aC
            have b1 : look (fieldsP d) s = look R1 s := Except.ok.inj a1
            have bC : some t = look C s := Except.ok.inj aC
            rw [← bC] at a3
            rw [← b1, a3] at a2
            exact (Except.ok.inj a2).symm
          | some f =>
            rw [hps] at a1 aC
            rw [hqs] at a2 aC
            cases hc : composedP n f t with
            | error e => simp only [ofC, hc] at aC; cases aC
            | ok c' =>
              simp only [ofC, hc] at aC
              have bC : some c' = look C s := Except.ok.inj aC
              rw [← bC] at a3
              rw [ofM_some] at a1 a2 a3
              cases hto : isObjJ n t with
              | false =>
                rw [composed_flatP f hto] at hc
                cases hc
                cases hn : isNullJ n t with
                | true =>
                  rw [hn] at a2 a3
                  exact (Except.ok.inj a2).symm.trans (Except.ok.inj a3)
                | false =>
                  rw [hn] at a2 a3
                  have b2 : some (mergedP n (look R1 s) t) = look R2 s := Except.ok.inj a2
                  have b3 : some (mergedP n (look (fieldsP d) s) t) = look R3 s := Except.ok.inj a3
                  rw [← b2, ← b3, merged_flatP _ hto, merged_flatP _ hto]
              | true =>
                obtain ⟨hfo, hco⟩ := composed_objs hto hc
                rw [null_obj hfo] at a1
                rw [null_obj hto] at a2
                rw [null_obj hco] at a3
                have b1 : some (mergedP n (look (fieldsP d) s) f) = look R1 s := Except.ok.inj a1
                have b2 : some (mergedP n (look R1 s) t) = look R2 s := Except.ok.inj a2
                have b3 : some (mergedP n (look (fieldsP d) s) c') = look R3 s := Except.ok.inj a3
                rw [← b1, merged_both n _ f t c' hD.at (hP.at f hps) (hQ.at t hqs) hc] at b2
                rw [← b2, ← b3]
      rw [e]
theorem composed_three : ∀ (n : Nat) (p q r a b c d : J n), Good n p → Good n q → Good n r → composedP n p q = .ok a → composedP n q r = .ok b → composedP n a r = .ok c → composedP n p b = .ok d → c = d
  | 0, _, _, _, _, _, _, _, _, _, _, h1, h2, h3, h4 => by
    cases h1
    cases h2
    cases h3
    cases h4
    rfl
  | n + 1, p, q, r, a, b, c, d, hp, hq, hr, h1, h2, h3, h4 => by
    cases hj : isObjJ (n + 1) r with
    | false =>
      rw [composed_flatP _ hj] at h2 h3
      cases h2
      cases h3
      rw [composed_flatP _ hj] at h4
      exact Except.ok.inj h4
    | true =>
      obtain ⟨fr, rfl⟩ := obj_of hj
      have hqo := (composed_objs hj h2).1
      obtain ⟨fq, rfl⟩ := obj_of hqo
      obtain ⟨fp, rfl⟩ := obj_of (composed_objs hqo h1).1
      obtain ⟨A, hA, rfl⟩ := composed_obj h1
      obtain ⟨B, hB, rfl⟩ := composed_obj h2
      obtain ⟨C, hC, rfl⟩ := composed_obj h3
      obtain ⟨D, hD, rfl⟩ := composed_obj h4
      have gP : GoodF n fp := hp
      have gQ : GoodF n fq := hq
      have gR : GoodF n fr := hr
      have rA := risingM hA gP.1 gQ.1
      have rB := risingM hB gQ.1 gR.1
      have e : C = D := look_ext C D (risingM hC rA gR.1) (risingM hD gP.1 rB) fun s => by
        have aA := lookM (ofC_none _) hA gP.1 gQ.1 s
        have aB := lookM (ofC_none _) hB gQ.1 gR.1 s
        have aC := lookM (ofC_none _) hC rA gR.1 s
        have aD := lookM (ofC_none _) hD gP.1 rB s
        cases hrs : look fr s with
        | none =>
          rw [hrs] at aB aC
          have bB : look fq s = look B s := Except.ok.inj aB
          have bC : look A s = look C s := Except.ok.inj aC
          rw [← bB, aA] at aD
          exact bC.symm.trans (Except.ok.inj aD)
        | some t =>
          cases hqs : look fq s with
          | none =>
            rw [hqs] at aA aB
            rw [hrs] at aB aC
            have bA : look fp s = look A s := Except.ok.inj aA
            have bB : some t = look B s := Except.ok.inj aB
            rw [← bB, bA, aC] at aD
            exact Except.ok.inj aD
          | some u =>
            rw [hqs] at aA aB
            rw [hrs] at aB aC
            cases hut : composedP n u t with
            | error e => simp only [ofC, hut] at aB; cases aB
            | ok b' =>
              simp only [ofC, hut] at aB
              have bB : some b' = look B s := Except.ok.inj aB
              rw [← bB] at aD
              cases hps : look fp s with
              | none =>
                rw [hps] at aA aD
                have bA : some u = look A s := Except.ok.inj aA
                rw [← bA] at aC
                simp only [ofC, hut] at aC
                have bC : some b' = look C s := Except.ok.inj aC
                have bD : some b' = look D s := Except.ok.inj aD
                rw [← bC, ← bD]
              | some f =>
                rw [hps] at aA aD
                cases hfu : composedP n f u with
                | error e => simp only [ofC, hfu] at aA; cases aA
                | ok a' =>
                  simp only [ofC, hfu] at aA
                  have bA : some a' = look A s := Except.ok.inj aA
                  rw [← bA] at aC
                  cases hat : composedP n a' t with
                  | error e => simp only [ofC, hat] at aC; cases aC
                  | ok c' =>
                    cases hfb : composedP n f b' with
                    | error e => simp only [ofC, hfb] at aD; cases aD
                    | ok d' =>
                      simp only [ofC, hat] at aC
                      simp only [ofC, hfb] at aD
                      have bC : some c' = look C s := Except.ok.inj aC
                      have bD : some d' = look D s := Except.ok.inj aD
                      rw [← bC, ← bD, composed_three n f u t a' b' c' d' (gP.at f hps) (gQ.at u hqs) (gR.at t hrs) hfu hut hat hfb]
      rw [e]
end Go.Proofs.YtjcdklbimaclkaaDoor
/- The table of powers of ten out of what is laid; the laws' own canon at every text. -/
namespace Go.Proofs.YtjcdklbimaclkaaDoor
open Go.RowKit
set_option linter.unusedVariables false
set_option linter.unusedSimpArgs false
/-- the table stands third on the list -/
theorem tabIs_of_third {P : Program} {W : World} {name : String} {k : IntKind} {zs : List Int} {x y : String × DataW Unit} {rest : List (String × DataW Unit)} {g : Nat} {t e : TypeId} {n : Nat}
    (hg : P.globalNamed name = some g) (hty : (P.globals[g]?).map (·.type) = some t) (ht : P.underlying t = some (.array n e)) (he : P.underlying e = some (.int k)) (hce : P.cellsOf e = 1) (hct : P.cellsOf t = n)
    (h : laidMet P (x :: y :: (name, Lib.tabData k zs) :: rest) W) : Lib.TabIs P W name k zs := by
  obtain ⟨ps, ⟨_, _, _, _, _, _, _, _, _, _, ⟨_, _, _, _, _, _, _, _, _, _, ⟨g', t', cs, fuel, p, q, hg', ht', hvar, hd, _, _⟩, _⟩, _⟩, _⟩ := h
  obtain rfl := Option.some.inj (hg.symm.trans hg')
  obtain rfl := Option.some.inj (hty.symm.trans ht')
  unfold Lib.TabIs
  rw [hvar, ← Lib.cells_of_tab ht he hce hct hd]
theorem tab_of_laid {x y : String × DataW Unit} {rest : List (String × DataW Unit)} {W : World} (hn : ((x :: y :: ("internal/strconv.uint64pow10", Lib.tabData .u64 Lib.pow10Tab) :: rest).all fun x => x.2.handleName?.isNone) = true)
    (h : laidMetH Tryd.prog (x :: y :: ("internal/strconv.uint64pow10", Lib.tabData .u64 Lib.pow10Tab) :: rest) W) : Tab W.heap.size W := by
  rw [Go.MakeChecks.laidMetH_plain _ _ _ hn] at h
  exact Lib.tabBelow_of_tabIs (tabIs_of_third (P := Tryd.prog) (g := 3) (t := 124) (e := 98) (n := 20) (by kernel_rfl) (by kernel_rfl) Tryd.underlying124 Tryd.underlying98 (by kernel_rfl) (by kernel_rfl) h)
end Go.Proofs.YtjcdklbimaclkaaDoor
/- The law MergeThree over this translation: it answers true at every three texts, and leaves old memory alone. -/
namespace Go.Proofs.YtjcdklbimaclkaaDoor
open Go.RowKit
set_option linter.unusedVariables false
set_option linter.unusedSimpArgs false
set_option maxRecDepth 100000 in
set_option maxHeartbeats 4000000 in
theorem three_walk (N : Nat) (hN : 20 ≤ N) (hN2 : N ≤ 1000) (p q r : ByteArray) (w : World) (hp : p.size ≤ maxLen) (hq : q.size ≤ maxLen) (hr : r.size ≤ maxLen) (hT : Tab w.heap.size w) :
    Calls Tryd.prog 5 #[.string p, .string q, .string r] w fun e w' => e = .returned (.bool true) ∧ Below w.heap.size w w' := by
  have H1 : Hid (SaysM w 7 #[.string ⟨#[49]⟩, .string ⟨#[123, 125]⟩] (.tuple #[.string ByteArray.empty, .int .i64 9])) := compose_says hN hN2 hT (few [49] (by decide)) (few [123, 125] (by decide)) rfl rfl (compose_1o hN) ⟨_, _, rfl⟩
  rcases bothA_cases hN (compose_makes N) p.data.toList q.data.toList with ⟨er, her, hlt, h⟩ | ⟨P, Q, a, rP, rQ, ha, tP, tQ, ta, h⟩
  · have HA : Hid (SaysM w 7 #[.string p, .string q] (.tuple #[.string ByteArray.empty, .int .i64 er])) := compose_says hN hN2 hT hp hq rfl rfl h ⟨_, _, rfl⟩
    have hbe : ((er : Int) != 0) = true := by rw [bne_iff_ne]; omega
    have hform : ∃ (s : ByteArray) (ef : Nat), bothA N (composedP N) q.data.toList r.data.toList = #[.string s, .int .i64 ef] := by
      rcases bothA_cases hN (compose_makes N) q.data.toList r.data.toList with ⟨er, _, _, h⟩ | ⟨_, _, _, _, _, _, _, _, _, h⟩
      · exact ⟨_, _, h⟩
      · exact ⟨_, 0, h⟩
    obtain ⟨s, ef, hf⟩ := hform
    have HB : Hid (SaysM w 7 #[.string q, .string r] (.tuple #[.string s, .int .i64 ef])) := compose_says hN hN2 hT hq hr rfl rfl hf ⟨_, _, rfl⟩
    clear hT h hf
    go_enter Tryd.func5, Tryd.ntmps5
    go_wp2_with fail
    refine Calls.mono (H1.out w (Below.refl _ _)) ?_
    rintro e w1 ⟨rfl, b1⟩
    have HB1 : Hid (Below w.heap.size w w1) := b1
    clear b1
    go_wp2_with fail
    refine Calls.mono (HA.out w1 HB1.out) ?_
    rintro e w2 ⟨rfl, b2⟩
    have HB2 : Hid (Below w.heap.size w w2) := HB1.out.trans (b2.mono HB1.out.size)
    clear b2
    go_wp2_with fail
    refine Calls.mono (HB.out w2 HB2.out) ?_
    rintro e w3 ⟨rfl, b3⟩
    have HB3 : Hid (Below w.heap.size w w3) := HB2.out.trans (b3.mono HB2.out.size)
    clear b3
    go_wp2_with fail
    go_ret
    exact ⟨rfl, HB3.out⟩
  · have HA : Hid (SaysM w 7 #[.string p, .string q] (.tuple #[.string ⟨(tell N a).toArray⟩, .int .i64 0])) := compose_says hN hN2 hT hp hq rfl rfl h ⟨_, _, rfl⟩
    rcases bothA_cases hN (compose_makes N) q.data.toList r.data.toList with ⟨er, her, hlt, h2⟩ | ⟨Q', R, b, rQ', rR, hb, tQ', tR, tb, h2⟩
    · have HB : Hid (SaysM w 7 #[.string q, .string r] (.tuple #[.string ByteArray.empty, .int .i64 er])) := compose_says hN hN2 hT hq hr rfl rfl h2 ⟨_, _, rfl⟩
      have hbe : ((er : Int) != 0) = true := by rw [bne_iff_ne]; omega
      clear hT h h2 rP rQ ha tP tQ ta
      generalize (⟨(tell N a).toArray⟩ : ByteArray) = tx at *
      go_enter Tryd.func5, Tryd.ntmps5
      go_wp2_with fail
      refine Calls.mono (H1.out w (Below.refl _ _)) ?_
      rintro e w1 ⟨rfl, b1⟩
      have HB1 : Hid (Below w.heap.size w w1) := b1
      clear b1
      go_wp2_with fail
      refine Calls.mono (HA.out w1 HB1.out) ?_
      rintro e w2 ⟨rfl, b2⟩
      have HB2 : Hid (Below w.heap.size w w2) := HB1.out.trans (b2.mono HB1.out.size)
      clear b2
      go_wp2_with fail
      refine Calls.mono (HB.out w2 HB2.out) ?_
      rintro e w3 ⟨rfl, b3⟩
      have HB3 : Hid (Below w.heap.size w w3) := HB2.out.trans (b3.mono HB2.out.size)
      clear b3
      go_wp2_with fail
      go_ret
      exact ⟨rfl, HB3.out⟩
    · have HB : Hid (SaysM w 7 #[.string q, .string r] (.tuple #[.string ⟨(tell N b).toArray⟩, .int .i64 0])) := compose_says hN hN2 hT hq hr rfl rfl h2 ⟨_, _, rfl⟩
      have eQ : Q' = Q := by rw [rQ] at rQ'; exact (Except.ok.inj rQ').symm
      subst eQ
      rcases bothA_cases hN (compose_makes N) (tell N a) r.data.toList with ⟨er, her, hlt, h3⟩ | ⟨A', R', c, rA', rR', hc, tA', tR', tc, h3⟩
      · have HC : Hid (SaysM w 7 #[.string ⟨(tell N a).toArray⟩, .string r] (.tuple #[.string ByteArray.empty, .int .i64 er])) := compose_says hN hN2 hT (told_small ta) hr rfl rfl h3 ⟨_, _, rfl⟩
        have hbe : ((er : Int) != 0) = true := by rw [bne_iff_ne]; omega
        have hform : ∃ (s : ByteArray) (ef : Nat), bothA N (composedP N) p.data.toList (tell N b) = #[.string s, .int .i64 ef] := by
          rcases bothA_cases hN (compose_makes N) p.data.toList (tell N b) with ⟨er, _, _, h⟩ | ⟨_, _, _, _, _, _, _, _, _, h⟩
          · exact ⟨_, _, h⟩
          · exact ⟨_, 0, h⟩
        obtain ⟨s, ef, hf⟩ := hform
        have HD : Hid (SaysM w 7 #[.string p, .string ⟨(tell N b).toArray⟩] (.tuple #[.string s, .int .i64 ef])) := compose_says hN hN2 hT hp (told_small tb) rfl rfl hf ⟨_, _, rfl⟩
        clear hT h h2 h3 hf rP rQ ha tP tQ ta rQ' rR hb tQ' tR tb
        generalize (⟨(tell N a).toArray⟩ : ByteArray) = tx at *
        generalize (⟨(tell N b).toArray⟩ : ByteArray) = ty at *
        go_enter Tryd.func5, Tryd.ntmps5
        go_wp2_with fail
        refine Calls.mono (H1.out w (Below.refl _ _)) ?_
        rintro e w1 ⟨rfl, b1⟩
        have HB1 : Hid (Below w.heap.size w w1) := b1
        clear b1
        go_wp2_with fail
        refine Calls.mono (HA.out w1 HB1.out) ?_
        rintro e w2 ⟨rfl, b2⟩
        have HB2 : Hid (Below w.heap.size w w2) := HB1.out.trans (b2.mono HB1.out.size)
        clear b2
        go_wp2_with fail
        refine Calls.mono (HB.out w2 HB2.out) ?_
        rintro e w3 ⟨rfl, b3⟩
        have HB3 : Hid (Below w.heap.size w w3) := HB2.out.trans (b3.mono HB2.out.size)
        clear b3
        go_wp2_with fail
        refine Calls.mono (HC.out w3 HB3.out) ?_
        rintro e w4 ⟨rfl, b4⟩
        have HB4 : Hid (Below w.heap.size w w4) := HB3.out.trans (b4.mono HB3.out.size)
        clear b4
        go_wp2_with fail
        refine Calls.mono (HD.out w4 HB4.out) ?_
        rintro e w5 ⟨rfl, b5⟩
        have HB5 : Hid (Below w.heap.size w w5) := HB4.out.trans (b5.mono HB4.out.size)
        clear b5
        go_wp2_with fail
        go_ret
        exact ⟨rfl, HB5.out⟩
      · have HC : Hid (SaysM w 7 #[.string ⟨(tell N a).toArray⟩, .string r] (.tuple #[.string ⟨(tell N c).toArray⟩, .int .i64 0])) := compose_says hN hN2 hT (told_small ta) hr rfl rfl h3 ⟨_, _, rfl⟩
        have eA : A' = a := by rw [ta.again hN] at rA'; exact (Except.ok.inj rA').symm
        have eR : R' = R := by rw [rR] at rR'; exact (Except.ok.inj rR').symm
        subst eA eR
        rcases bothA_cases hN (compose_makes N) p.data.toList (tell N b) with ⟨er, her, hlt, h4⟩ | ⟨P', B', d, rP', rB', hd, tP', tB', td, h4⟩
        · have HD : Hid (SaysM w 7 #[.string p, .string ⟨(tell N b).toArray⟩] (.tuple #[.string ByteArray.empty, .int .i64 er])) := compose_says hN hN2 hT hp (told_small tb) rfl rfl h4 ⟨_, _, rfl⟩
          have hbe : ((er : Int) != 0) = true := by rw [bne_iff_ne]; omega
          clear hT h h2 h3 h4 rP rQ ha tP tQ ta rQ' rR hb tQ' tR tb rA' rR' hc tA' tR' tc
          generalize (⟨(tell N A').toArray⟩ : ByteArray) = tx at *
          generalize (⟨(tell N b).toArray⟩ : ByteArray) = ty at *
          generalize (⟨(tell N c).toArray⟩ : ByteArray) = tz at *
          go_enter Tryd.func5, Tryd.ntmps5
          go_wp2_with fail
          refine Calls.mono (H1.out w (Below.refl _ _)) ?_
          rintro e w1 ⟨rfl, b1⟩
          have HB1 : Hid (Below w.heap.size w w1) := b1
          clear b1
          go_wp2_with fail
          refine Calls.mono (HA.out w1 HB1.out) ?_
          rintro e w2 ⟨rfl, b2⟩
          have HB2 : Hid (Below w.heap.size w w2) := HB1.out.trans (b2.mono HB1.out.size)
          clear b2
          go_wp2_with fail
          refine Calls.mono (HB.out w2 HB2.out) ?_
          rintro e w3 ⟨rfl, b3⟩
          have HB3 : Hid (Below w.heap.size w w3) := HB2.out.trans (b3.mono HB2.out.size)
          clear b3
          go_wp2_with fail
          refine Calls.mono (HC.out w3 HB3.out) ?_
          rintro e w4 ⟨rfl, b4⟩
          have HB4 : Hid (Below w.heap.size w w4) := HB3.out.trans (b4.mono HB3.out.size)
          clear b4
          go_wp2_with fail
          refine Calls.mono (HD.out w4 HB4.out) ?_
          rintro e w5 ⟨rfl, b5⟩
          have HB5 : Hid (Below w.heap.size w w5) := HB4.out.trans (b5.mono HB4.out.size)
          clear b5
          go_wp2_with fail
          go_ret
          exact ⟨rfl, HB5.out⟩
        · have eP : P' = P := by rw [rP] at rP'; exact (Except.ok.inj rP').symm
          have eB : B' = b := by rw [tb.again hN] at rB'; exact (Except.ok.inj rB').symm
          subst eP eB
          have ecd : c = d := composed_three N P' Q' R' A' B' c d tP.good tQ.good tR.good ha hb hc hd
          subst ecd
          have HD : Hid (SaysM w 7 #[.string p, .string ⟨(tell N B').toArray⟩] (.tuple #[.string ⟨(tell N c).toArray⟩, .int .i64 0])) := compose_says hN hN2 hT hp (told_small tb) rfl rfl h4 ⟨_, _, rfl⟩
          clear hT h h2 h3 h4 rP rQ ha tP tQ ta rQ' rR hb tQ' tR tb rA' rR' hc tA' tR' tc rP' rB' hd tP' tB' td
          generalize (⟨(tell N A').toArray⟩ : ByteArray) = tx at *
          generalize (⟨(tell N B').toArray⟩ : ByteArray) = ty at *
          generalize (⟨(tell N c).toArray⟩ : ByteArray) = tz at *
          go_enter Tryd.func5, Tryd.ntmps5
          go_wp2_with fail
          refine Calls.mono (H1.out w (Below.refl _ _)) ?_
          rintro e w1 ⟨rfl, b1⟩
          have HB1 : Hid (Below w.heap.size w w1) := b1
          clear b1
          go_wp2_with fail
          refine Calls.mono (HA.out w1 HB1.out) ?_
          rintro e w2 ⟨rfl, b2⟩
          have HB2 : Hid (Below w.heap.size w w2) := HB1.out.trans (b2.mono HB1.out.size)
          clear b2
          go_wp2_with fail
          refine Calls.mono (HB.out w2 HB2.out) ?_
          rintro e w3 ⟨rfl, b3⟩
          have HB3 : Hid (Below w.heap.size w w3) := HB2.out.trans (b3.mono HB2.out.size)
          clear b3
          go_wp2_with fail
          refine Calls.mono (HC.out w3 HB3.out) ?_
          rintro e w4 ⟨rfl, b4⟩
          have HB4 : Hid (Below w.heap.size w w4) := HB3.out.trans (b4.mono HB3.out.size)
          clear b4
          go_wp2_with fail
          refine Calls.mono (HD.out w4 HB4.out) ?_
          rintro e w5 ⟨rfl, b5⟩
          have HB5 : Hid (Below w.heap.size w w5) := HB4.out.trans (b5.mono HB4.out.size)
          clear b5
          go_wp2_with fail
          go_ret
          exact ⟨rfl, HB5.out⟩
end Go.Proofs.YtjcdklbimaclkaaDoor
