import Derived.Test.YtjcdklbimaclkaaGreatDoorGAc
import Derived.Test.YtjcdklbimaclkaaGreatDoorGAm
import Derived.Test.YtjcdklbimaclkaaGreatDoorGAl
import Derived.Test.YtjcdklbimaclkaaGreatDoorGAe
namespace Go.Proofs.YtjcdklbimaclkaaGreatDoor
set_option linter.unusedVariables false
set_option linter.unusedSimpArgs false
def noDigit (r : Bs) : Prop := isDigit (hd r) = false
theorem digit_of (m : Nat) (h : m < 10) : isDigit (UInt8.ofNat (48 + m)) = true /\ (UInt8.ofNat (48 + m)).toNat = 48 + m := by
 have e : (UInt8.ofNat (48 + m)).toNat = 48 + m := by simp; omega
 exact ⟨(digit_iff _).2 (by omega), e⟩
theorem dec_digits : ∀ (k u : Nat), u < 10 ^ k -> ∀ c ∈ Lib.decDigits u, isDigit c = true
 | 0, u, hu, c, hc => by
  have : u = 0 := by simpa using hu
  subst this
  rw [Lib.decDigits] at hc
  simp at hc
  subst hc
  decide
 | k + 1, u, hu, c, hc => by
  rw [Lib.decDigits] at hc
  split at hc
  ·have hc := List.mem_singleton.1 hc
   subst hc
   exact (digit_of u (by assumption)).1
  ·rcases List.mem_append.1 hc with hc | hc
   ·exact dec_digits k (u / 10) (by rw [Nat.pow_succ] at hu; omega) c hc
   ·have hc := List.mem_singleton.1 hc
    subst hc
    exact (digit_of (u % 10) (by omega)).1
theorem decV_snoc (ds : Bs) (c : UInt8) : decV (ds ++ [c]) = 10 * decV ds + (c.toNat - 48) := by
 unfold decV
 rw [List.foldl_append]
 rfl
theorem dec_val : ∀ (k u : Nat), u < 10 ^ k -> decV (Lib.decDigits u) = u
 | 0, u, hu => by
  have : u = 0 := by simpa using hu
  subst this
  rw [Lib.decDigits]
  rfl
 | k + 1, u, hu => by
  rw [Lib.decDigits]
  split
  ·rename_i h
   have := (digit_of u h).2
   show 10 * 0 + ((UInt8.ofNat (48 + u)).toNat - 48) = u
   omega
  ·rw [decV_snoc, dec_val k (u / 10) (by rw [Nat.pow_succ] at hu; omega), (digit_of (u % 10) (by omega)).2]
   omega
theorem dec_first : ∀ (k u : Nat), u < 10 ^ k -> 1 <= u -> hd (Lib.decDigits u) ≠ 48
 | 0, u, hu, h1 => by simp at hu; omega
 | k + 1, u, hu, h1 => by
  rw [Lib.decDigits]
  split
  ·rename_i h
   intro e
   have h2 := (digit_of u h).2
   have e' : UInt8.ofNat (48 + u) = 48 := e
   rw [e'] at h2
   have : (48 : UInt8).toNat = 48 := rfl
   omega
  ·have ih := dec_first k (u / 10) (by rw [Nat.pow_succ] at hu; omega) (by omega)
   have hne := dec_ne (u / 10)
   cases hd' : Lib.decDigits (u / 10) with
   | nil => exact absurd hd' hne
   | cons c r =>
    rw [hd'] at ih
    exact ih
theorem dec_len' : ∀ (k u : Nat), 1 <= k -> u < 10 ^ k -> (Lib.decDigits u).length <= k
 | 0, u, h, _ => by omega
 | k + 1, u, _, hu => by
  rw [Lib.decDigits]
  split
  ·simp
  ·rename_i h10
   cases k with
   | zero => simp at hu; omega
   | succ k =>
    have := dec_len' (k + 1) (u / 10) (by omega) (by rw [Nat.pow_succ] at hu; omega)
    simp only [List.length_append, List.length_cons, List.length_nil]
    omega
theorem take_digits {ds r : Bs} (h : ∀ c ∈ ds, isDigit c = true) (hr : noDigit r) : (ds ++ r).takeWhile isDigit = ds /\ (ds ++ r).dropWhile isDigit = r := by
 induction ds with
 | nil =>
  cases r with
  | nil => exact ⟨rfl, rfl⟩
  | cons c r =>
   have hc : isDigit c = false := hr
   simp [List.takeWhile_cons, List.dropWhile_cons, hc]
 | cons d ds ih =>
  have h1 := h d (by simp)
  have h2 := ih (fun c hc => h c (by simp [hc]))
  simp [List.takeWhile_cons, List.dropWhile_cons, h1, h2]
theorem number_dec (below : Bool) (u : Nat) (r : Bs) (hu : u < 10 ^ 18) (hb : below = true -> 1 <= u) (hr : noDigit r) :
  number ((if below then [45] else []) ++ (Lib.decDigits u ++ r)) = .ok (some (Sum.inr (Sum.inl (if below then -(u : Int) else (u : Int)))), r) := by
 have hdg := dec_digits 18 u hu
 have hv := dec_val 18 u hu
 have hl := dec_len' 18 u (by decide) hu
 have hne := dec_ne u
 have htd := take_digits hdg hr
 have hfirst : hd (Lib.decDigits u) ≠ 45 /\ (hd (Lib.decDigits u ++ r) = hd (Lib.decDigits u)) := by
  cases hd' : Lib.decDigits u with
  | nil => exact absurd hd' hne
  | cons c t =>
   have hc := (digit_iff c).1 (hdg c (by rw [hd']; simp))
   refine ⟨?_, rfl⟩
   intro e
   have e' : c = 45 := e
   rw [e'] at hc
   have : (45 : UInt8).toNat = 45 := rfl
   omega
 cases below with
 | true =>
  have h1 := hb rfl
  have hf := dec_first 18 u hu h1
  show number (45 :: (Lib.decDigits u ++ r)) = _
  unfold number
  have e1 : (hd (45 :: (Lib.decDigits u ++ r)) == 45) = true := rfl
  simp only [e1, if_true, List.tail_cons, htd.1, htd.2]
  rw [if_neg hne, if_neg (fun e => hf e.1), if_neg (by omega)]
  simp only [numVal, if_true, hv]
 | false =>
  show number (Lib.decDigits u ++ r) = _
  unfold number
  have e1 : (hd (Lib.decDigits u ++ r) == 45) = false := by
   rw [hfirst.2]
   exact beq_eq_false_iff_ne.2 hfirst.1
  simp only [e1, Bool.false_eq_true, if_false, htd.1, htd.2]
  rw [if_neg hne, if_neg, if_neg (by omega)]
  ·simp only [numVal, Bool.false_eq_true, if_false, hv]
  ·rintro ⟨h1, h2⟩
   rcases h2 with h2 | h2
   ·cases h2
   ·by_cases h0 : u = 0
    ·subst h0
     rw [Lib.decDigits] at h2
     simp at h2
    ·exact dec_first 18 u hu (by omega) h1
theorem leafE_tell (l : Leaf) (h : GoodLeaf l) (r : Bs) (hr : noDigit r) : leafE (tellLeaf l ++ r) = .ok (l, r) /\ hd (tellLeaf l ++ r) ∈ opens /\ blank (hd (tellLeaf l ++ r)) = false /\ hd (tellLeaf l ++ r) ≠ 91 /\ hd (tellLeaf l ++ r) ≠ 123 := by
 match l, h with
 | none, _ =>
  refine ⟨?_, by show (110 : UInt8) ∈ opens; decide, rfl, by show (110 : UInt8) ≠ 91; decide, by show (110 : UInt8) ≠ 123; decide⟩
  show leafE (nullB ++ r) = _
  unfold leafE
  rw [if_pos (show hd (nullB ++ r) = 110 from rfl), word, if_pos (List.isPrefixOf_iff_prefix.2 (List.prefix_append _ _))]
  simp
 | some (Sum.inl true), _ =>
  refine ⟨?_, by show (116 : UInt8) ∈ opens; decide, rfl, by show (116 : UInt8) ≠ 91; decide, by show (116 : UInt8) ≠ 123; decide⟩
  show leafE (trueB ++ r) = _
  unfold leafE
  rw [if_neg (by show (116 : UInt8) ≠ 110; decide), if_pos (show hd (trueB ++ r) = 116 from rfl), word, if_pos (List.isPrefixOf_iff_prefix.2 (List.prefix_append _ _))]
  simp
 | some (Sum.inl false), _ =>
  refine ⟨?_, by show (102 : UInt8) ∈ opens; decide, rfl, by show (102 : UInt8) ≠ 91; decide, by show (102 : UInt8) ≠ 123; decide⟩
  show leafE (falseB ++ r) = _
  unfold leafE
  rw [if_neg (by show (102 : UInt8) ≠ 110; decide), if_neg (by show (102 : UInt8) ≠ 116; decide), if_pos (show hd (falseB ++ r) = 102 from rfl), word, if_pos (List.isPrefixOf_iff_prefix.2 (List.prefix_append _ _))]
  simp
 | some (Sum.inr (Sum.inr s)), h =>
  refine ⟨?_, by show (34 : UInt8) ∈ opens; decide, rfl, by show (34 : UInt8) ≠ 91; decide, by show (34 : UInt8) ≠ 123; decide⟩
  show leafE (quote s ++ r) = _
  unfold leafE
  have e : hd (quote s ++ r) = 34 := rfl
  rw [e]
  rw [if_neg (by decide), if_neg (by decide), if_neg (by decide), if_pos rfl, textE, quoted_quote s h r]
 | some (Sum.inr (Sum.inl i)), h =>
  have h1 : -1000000000000000000 < i := h.1
  have h2 : i < 1000000000000000000 := h.2
  obtain ⟨below, u, hi, hit, hu, hb⟩ : ∃ (below : Bool) (u : Nat), i = (if below then -(u : Int) else (u : Int)) /\ Lib.itoa i = (if below then [45] else []) ++ Lib.decDigits u /\ u < 10 ^ 18 /\ (below = true -> 1 <= u) := by
   by_cases hneg : i < 0
   ·exact ⟨true, i.natAbs, by simp; omega, by unfold Lib.itoa; rw [if_pos hneg]; rfl, by omega, fun _ => by omega⟩
   ·exact ⟨false, i.toNat, by simp; omega, by unfold Lib.itoa; rw [if_neg hneg]; rfl, by omega, fun e => by cases e⟩
  have hn := number_dec below u r hu hb hr
  have hdg := dec_digits 18 u hu
  have hne := dec_ne u
  show leafE (Lib.itoa i ++ r) = _ /\ hd (Lib.itoa i ++ r) ∈ opens /\ blank (hd (Lib.itoa i ++ r)) = false /\ hd (Lib.itoa i ++ r) ≠ 91 /\ hd (Lib.itoa i ++ r) ≠ 123
  rw [hit, List.append_assoc]
  have hhd : hd ((if below then [45] else []) ++ (Lib.decDigits u ++ r)) = 45 ∨ (48 <= (hd ((if below then [45] else []) ++ (Lib.decDigits u ++ r))).toNat /\ (hd ((if below then [45] else []) ++ (Lib.decDigits u ++ r))).toNat <= 57) := by
   cases below with
   | true => exact Or.inl rfl
   | false =>
    right
    cases hd' : Lib.decDigits u with
    | nil => exact absurd hd' hne
    | cons c t => exact (digit_iff c).1 (hdg c (by rw [hd']; simp))
  generalize hX : (if below then [45] else []) ++ (Lib.decDigits u ++ r) = X at *
  have hfacts : hd X ∈ opens /\ blank (hd X) = false /\ hd X ≠ 91 /\ hd X ≠ 123 /\ hd X ≠ 110 /\ hd X ≠ 116 /\ hd X ≠ 102 /\ hd X ≠ 34 := by
   generalize hd X = c at hhd
   rcases hhd with rfl | ⟨ha, hb'⟩
   ·decide
   ·have hne' : ∀ m : Nat, m < 256 -> (m < 48 ∨ 57 < m) -> c ≠ UInt8.ofNat m := by
     intro m hm hm2 e
     subst e
     have : (UInt8.ofNat m).toNat = m := by simp; omega
     omega
    refine ⟨?_, ?_, hne' 91 (by decide) (by decide), hne' 123 (by decide) (by decide), hne' 110 (by decide) (by decide), hne' 116 (by decide) (by decide), hne' 102 (by decide) (by decide), hne' 34 (by decide) (by decide)⟩
    ·have hall : ∀ m : Fin 10, UInt8.ofNat (48 + m.val) ∈ opens := by decide
     have hc : c = UInt8.ofNat (48 + (c.toNat - 48)) := by
      apply UInt8.toNat_inj.1
      simp
      omega
     rw [hc]
     exact hall ⟨c.toNat - 48, by omega⟩
    ·have h32 := hne' 32 (by decide) (by decide)
     have h10 := hne' 10 (by decide) (by decide)
     have h9 := hne' 9 (by decide) (by decide)
     have e32 : UInt8.ofNat 32 = 32 := rfl
     have e10 : UInt8.ofNat 10 = 10 := rfl
     have e9 : UInt8.ofNat 9 = 9 := rfl
     rw [e32] at h32
     rw [e10] at h10
     rw [e9] at h9
     simp [blank, h32, h10, h9]
  refine ⟨?_, hfacts.1, hfacts.2.1, hfacts.2.2.1, hfacts.2.2.2.1⟩
  unfold leafE
  rw [if_neg hfacts.2.2.2.2.1, if_neg hfacts.2.2.2.2.2.1, if_neg hfacts.2.2.2.2.2.2.1, if_neg hfacts.2.2.2.2.2.2.2, hn, <- hi]
theorem skip_not {r : Bs} (h : blank (hd r) = false) : skip r = r := by
 cases r with
 | nil => rfl
 | cons c r =>
  have hc : blank c = false := h
  rw [skip, if_neg (by simp [hc])]
theorem value_first {m k : Nat} {r : Bs} (hb : blank (hd r) = false) (ho : hd r ∈ opens) : (200 <= k -> value m k r = .error 2) /\ (k < 200 -> m = 0 -> (hd r = 91 ∨ hd r = 123) -> value m k r = .error 4) := by
 have hsk := skip_not hb
 refine ⟨fun hk => ?_, fun hk hm hc => ?_⟩
 ·have e : beginE m k (skip r) = 2 := by
   rw [hsk]
   unfold beginE
   rw [if_neg (by simpa using ho), if_pos hk]
  cases m with
  | zero => rw [value, if_pos (by rw [e]; decide), e]
  | succ m => rw [value, if_pos (by rw [e]; decide), e]
 ·subst hm
  have e : beginE 0 k (skip r) = 4 := by
   rw [hsk]
   unfold beginE
   rw [if_neg (by simpa using ho), if_neg (by omega), if_pos ⟨rfl, hc⟩]
  rw [value, if_pos (by rw [e]; decide), e]
theorem tell_hd : ∀ (n : Nat) (j : J n), Good n j -> ∀ r, noDigit r -> hd (tell n j ++ r) ∈ opens /\ blank (hd (tell n j ++ r)) = false
 | 0, j, h, r, hr => ⟨(leafE_tell j h r hr).2.1, (leafE_tell j h r hr).2.2.1⟩
 | _ + 1, Sum.inl l, h, r, hr => ⟨(leafE_tell l h r hr).2.1, (leafE_tell l h r hr).2.2.1⟩
 | _ + 1, Sum.inr (Sum.inl xs), h, r, hr => ⟨by show (91 : UInt8) ∈ opens; decide, rfl⟩
 | _ + 1, Sum.inr (Sum.inr fs), h, r, hr => ⟨by show (123 : UInt8) ∈ opens; decide, rfl⟩
theorem commas_cons (t : Bs) (ts : List Bs) (r : Bs) : commas (t :: ts) ++ r = t ++ (match ts with | [] => r | _ :: _ => 44 :: (commas ts ++ r)) := by
 cases ts with
 | nil => rfl
 | cons u us => simp [commas]
theorem commas_ge : ∀ ts : List Bs, ts.length <= (commas ts).length + 1
 | [] => by simp
 | [x] => by simp
 | x :: y :: r => by
  have := commas_ge (y :: r)
  simp only [commas, List.length_append, List.length_cons] at this ⊢
  omega
def RowTold {σ : Type} (m : Nat) (res : Except Nat (σ × Nat × Bs)) (good : σ -> Prop) (k many deep : Nat) (r : Bs) : Prop :=
 (∃ s, res = .ok (s, k + many, r) /\ good s /\ k + many <= 200 /\ deep <= m) ∨ (res = .error 2 /\ 200 < k + many) ∨ (res = .error 4 /\ m < deep)
theorem value_row {m k : Nat} {c : UInt8} {X : Bs} (hk : k < 200) (hc : c = 91 ∨ c = 123) : beginE (m + 1) k (skip (c :: X)) = 0 /\ skip (c :: X) = c :: X := by
 have hb : blank c = false := by rcases hc with rfl | rfl <;> rfl
 have hsk : skip (c :: X) = c :: X := by rw [skip, if_neg (by simp [hb])]
 refine ⟨?_, hsk⟩
 rw [hsk]
 unfold beginE
 have hh : hd (c :: X) = c := rfl
 rw [hh, if_neg (by rcases hc with rfl | rfl <;> decide), if_neg (by omega), if_neg (by rintro ⟨h, _⟩; omega)]
def fieldT (n : Nat) (f : Bs × J n) : Bs := quote f.1 ++ 58 :: tell n f.2
theorem insert_end_of {α : Type} {s : List (Bs × α)} {nm : Bs} (v : α) (h : ∀ g ∈ s, less g.1 nm = true) : insertAt s nm v = s ++ [(nm, v)] := by
 have hp : placeOfName s nm = s.length := place_of s nm s.length (Nat.le_refl _) (fun x f hx hf => h f (List.mem_of_getElem? hf)) (fun f hf => by rw [List.getElem?_eq_none (Nat.le_refl _)] at hf; cases hf)
 rw [insert_eq, hp]
 simp
theorem any_of_less {α : Type} {s : List (Bs × α)} {nm : Bs} (h : ∀ g ∈ s, less g.1 nm = true) : (s.any fun f => f.1 == nm) = false := by
 rw [List.any_eq_false]
 intro f hf e
 have e' : f.1 = nm := by simpa using e
 have := h f hf
 rw [e', less_iff, cmp_self] at this
 omega
theorem nameE_told {α : Type} {s : List (Bs × α)} {nm X : Bs} (hm : ∀ c ∈ nm, meant c = true) (h : ∀ g ∈ s, less g.1 nm = true) : nameE s (quote nm ++ 58 :: X) = .ok (nm, X) := by
 have hsk : skip (quote nm ++ 58 :: X) = quote nm ++ 58 :: X := skip_not rfl
 unfold nameE
 rw [hsk, quoted_quote nm hm]
 simp only []
 rw [if_neg (by rw [any_of_less h]; decide)]
 have e : skip (58 :: X) = 58 :: X := skip_not rfl
 rw [e, if_pos (show hd (58 :: X) = 58 from rfl)]
 rfl
theorem maxOf_bound {b : Nat} : ∀ (l : List Nat), (∀ y ∈ l, y <= b) -> maxOf l <= b
 | [], _ => Nat.zero_le _
 | x :: l, h => by
  have h1 := maxOf_bound l (fun z hz => h z (by simp [hz]))
  have h2 := h x (by simp)
  simp only [maxOf]
  omega
theorem depth_le : ∀ (n : Nat) (j : J n), depth n j <= n
 | 0, _ => Nat.le_refl _
 | _ + 1, Sum.inl _ => Nat.zero_le _
 | n + 1, Sum.inr (Sum.inl xs) => by
  have := maxOf_bound (b := n) (xs.map (depth n)) (fun y hy => by
   obtain ⟨z, _, rfl⟩ := List.mem_map.1 hy
   exact depth_le n z)
  show 1 + maxOf (xs.map (depth n)) <= n + 1
  omega
 | n + 1, Sum.inr (Sum.inr fs) => by
  have := maxOf_bound (b := n) (fs.map (fun f => depth n f.2)) (fun y hy => by
   obtain ⟨z, _, rfl⟩ := List.mem_map.1 hy
   exact depth_le n z.2)
  show 1 + maxOf (fs.map (fun f => depth n f.2)) <= n + 1
  omega
theorem rowGo_inv {σ : Type} {z : UInt8} {one : σ -> Nat -> Bs -> Except Nat (σ × Nat × Bs)} {P : σ -> Nat -> Prop} (h : ∀ s k r s' k' r', P s k -> one s k r = .ok (s', k', r') -> P s' k') : ∀ (f : Nat) (s : σ) (k : Nat) (r : Bs) (s' : σ) (k' : Nat) (r' : Bs), P s k -> rowGo z one f s k r = .ok (s', k', r') -> P s' k'
 | 0, s, k, r, s', k', r', hs, e => by simp [rowGo] at e
 | f + 1, s, k, r, s', k', r', hs, e => by
  rw [rowGo] at e
  cases ho : one s k r with
  | error er => rw [ho] at e; cases e
  | ok p =>
   obtain ⟨s1, k1, r1⟩ := p
   have h1 := h s k r s1 k1 r1 hs ho
   rw [ho] at e
   simp only [] at e
   split at e
   ·cases e; exact h1
   ·split at e
    ·exact rowGo_inv h f s1 k1 _ s' k' r' h1 e
    ·cases e
theorem row_inv {σ : Type} {z : UInt8} {one : σ -> Nat -> Bs -> Except Nat (σ × Nat × Bs)} {P : σ -> Nat -> Prop} (h : ∀ s k r s' k' r', P s k -> one s k r = .ok (s', k', r') -> P s' k') (s : σ) (k : Nat) (r : Bs) (s' : σ) (k' : Nat) (r' : Bs) (hs : P s k) (e : row z one s k r = .ok (s', k', r')) : P s' k' := by
 unfold row at e
 split at e
 ·cases e; exact hs
 ·exact rowGo_inv h _ _ _ _ _ _ _ hs e
theorem begin_room {n k : Nat} {r : Bs} (h : beginE n k r = 0) : k < 200 := by
 unfold beginE at h
 split at h
 ·simp at h
 ·split at h
  ·simp at h
  ·omega
theorem value_size : ∀ (n : Nat) (k : Nat) (r : Bs) (j : J n) (k' : Nat) (r' : Bs), value n k r = .ok (j, k', r') -> k' = k + nodes n j /\ k' <= 200
 | 0, k, r, j, k', r', e => by
  have hb := begin_room (value_cases e).1
  rcases (value_cases e).2 with ⟨l, _, _, hl, rfl, rfl⟩ | ⟨m, hm, _⟩ | ⟨m, hm, _⟩
  ·exact ⟨rfl, by omega⟩
  ·cases hm
  ·cases hm
 | n + 1, k, r, j, k', r', e => by
  have hb := begin_room (value_cases e).1
  rcases (value_cases e).2 with ⟨l, _, _, hl, rfl, rfl⟩ | ⟨m, hm, xs, _, hr, hj⟩ | ⟨m, hm, fs, _, hr, hj⟩
  ·exact ⟨rfl, by omega⟩
  ·cases hm
   subst hj
   have h := row_inv (one := oneItem (value n)) (P := fun s q => q = k + 1 + (s.map (nodes n)).sum /\ q <= 200) (fun s q r s' q' r' hs ho => by
    obtain ⟨v, hv, rfl⟩ := oneItem_ok ho
    obtain ⟨h1, h2⟩ := value_size n q r v q' r' hv
    refine ⟨?_, h2⟩
    simp only [List.map_append, List.sum_append, List.map_cons, List.map_nil, List.sum_cons, List.sum_nil]
    omega) _ _ _ _ _ _ ⟨by simp, by omega⟩ hr
   refine ⟨?_, h.2⟩
   show k' = k + (1 + (xs.map (nodes n)).sum)
   omega
  ·cases hm
   subst hj
   have h := row_inv (one := oneField (value n)) (P := fun s q => q = k + 1 + (s.map (fun f => nodes n f.2)).sum /\ q <= 200) (fun s q r s' q' r' hs ho => by
    obtain ⟨nm, v, r1, hn, hv, rfl⟩ := oneField_ok ho
    obtain ⟨h1, h2⟩ := value_size n q r1 v q' r' hv
    refine ⟨?_, h2⟩
    rw [sum_insert (fun f => nodes n f.2)]
    show q' = k + 1 + ((s.map (fun f => nodes n f.2)).sum + nodes n v)
    omega) _ _ _ _ _ _ ⟨by simp, by omega⟩ hr
   refine ⟨?_, h.2⟩
   show k' = k + (1 + (fs.map (fun f => nodes n f.2)).sum)
   omega
theorem read_val {s : Bs} {j : J 10} (h : read s = .ok j) : ∃ k r, value 10 0 s = .ok (j, k, r) /\ skip r = [] /\ s.length <= 2000 := by
 unfold read at h
 split at h
 ·cases h
 ·cases hv : value 10 0 s with
  | error er => rw [hv] at h; cases h
  | ok p =>
   obtain ⟨j1, k1, r1⟩ := p
   rw [hv] at h
   simp only [] at h
   split at h
   ·rename_i hl hs
    cases h
    exact ⟨k1, r1, rfl, hs, by omega⟩
   ·cases h
theorem nodes_one : ∀ (n : Nat) (j : J n), 1 <= nodes n j
 | 0, _ => Nat.le_refl _
 | _ + 1, Sum.inl _ => Nat.le_refl _
 | _ + 1, Sum.inr (Sum.inl _) => Nat.le_add_right _ _
 | _ + 1, Sum.inr (Sum.inr _) => Nat.le_add_right _ _
theorem read_size {s : Bs} {j : J 10} (h : read s = .ok j) : 1 <= nodes 10 j /\ nodes 10 j <= 200 /\ depth 10 j <= 10 := by
 obtain ⟨k, r, hv, _, _⟩ := read_val h
 obtain ⟨h1, h2⟩ := value_size _ _ _ _ _ _ hv
 exact ⟨nodes_one _ _, by omega, depth_le _ _⟩
theorem noDigit_nil : noDigit [] := by
 show isDigit 0 = false
 decide
def ToldL (n : Nat) (j : J n) (m k : Nat) (r : Bs) : Prop :=
 (value m k (tell n j ++ r) = .ok (lift n m j, k + nodes n j, r) /\ k + nodes n j <= 200 /\ depth n j <= m) ∨
  (value m k (tell n j ++ r) = .error 2 /\ 200 < k + nodes n j) ∨ (value m k (tell n j ++ r) = .error 4 /\ m < depth n j)
def ToldLAt (n : Nat) : Prop := ∀ (j : J n), Good n j -> ∀ (m k : Nat) (r : Bs), noDigit r -> k <= 200 -> ToldL n j m k r
theorem leaf_value (m k : Nat) (l : Leaf) (h : GoodLeaf l) (r : Bs) (hr : noDigit r) (hk : k <= 200) : (value m k (tellLeaf l ++ r) = .ok (leaf m l, k + 1, r) /\ k + 1 <= 200 /\ 0 <= m) ∨ (value m k (tellLeaf l ++ r) = .error 2 /\ 200 < k + 1) ∨ (value m k (tellLeaf l ++ r) = .error 4 /\ m < 0) := by
 obtain ⟨hl, ho, hb, h91, h123⟩ := leafE_tell l h r hr
 have hv := value_first (m := m) (k := k) hb ho
 have hsk := skip_not hb
 by_cases h200 : 200 <= k
 ·exact Or.inr (Or.inl ⟨hv.1 h200, by omega⟩)
 ·have e : beginE m k (skip (tellLeaf l ++ r)) = 0 := by
   rw [hsk]
   unfold beginE
   rw [if_neg (by simpa using ho), if_neg h200, if_neg]
   rintro ⟨_, h1 | h1⟩
   ·exact h91 h1
   ·exact h123 h1
  have hval : value m k (tellLeaf l ++ r) = .ok (leaf m l, k + 1, r) := by
   cases m with
   | zero => rw [value, if_neg (by simp [e]), leafAt, hsk, hl]
   | succ m => rw [value, if_neg (by simp [e]), hsk, if_neg h91, if_neg h123, leafAt, hl]
  exact Or.inl ⟨hval, by omega, Nat.zero_le _⟩
theorem items_toldL {n : Nat} (ih : ToldLAt n) (m : Nat) (r : Bs) : ∀ (rest : List (J n)) (x : J n) (f : Nat) (s : List (J m)) (k : Nat), (∀ y ∈ x :: rest, Good n y) -> rest.length < f -> k <= 200 ->
  RowTold m (rowGo 93 (oneItem (value m)) f s k (commas ((x :: rest).map (tell n)) ++ 93 :: r)) (fun s' => s' = s ++ (x :: rest).map (lift n m)) k ((x :: rest).map (nodes n)).sum (maxOf ((x :: rest).map (depth n))) r
 | [], x, 0, s, k, hG, hf, hk => by omega
 | [], x, f + 1, s, k, hG, hf, hk => by
  have h1 := ih x (hG x (by simp)) m k (93 :: r) (by show isDigit 93 = false; decide) hk
  have e : commas (([x] : List (J n)).map (tell n)) ++ 93 :: r = tell n x ++ 93 :: r := rfl
  rw [e]
  have em : (([x] : List (J n)).map (nodes n)).sum = nodes n x := by simp
  have ed : maxOf (([x] : List (J n)).map (depth n)) = depth n x := by simp [maxOf]
  rw [em, ed]
  rcases h1 with ⟨hv, h200, hm⟩ | ⟨hv, h200⟩ | ⟨hv, hm⟩
  ·refine Or.inl ⟨s ++ [lift n m x], ?_, rfl, h200, hm⟩
   rw [rowGo, oneItem, hv]
   rfl
  ·refine Or.inr (Or.inl ⟨?_, h200⟩)
   rw [rowGo, oneItem, hv]
  ·refine Or.inr (Or.inr ⟨?_, hm⟩)
   rw [rowGo, oneItem, hv]
 | y :: rest, x, 0, s, k, hG, hf, hk => by omega
 | y :: rest, x, f + 1, s, k, hG, hf, hk => by
  have h1 := ih x (hG x (by simp)) m k (44 :: (commas ((y :: rest).map (tell n)) ++ 93 :: r)) (by show isDigit 44 = false; decide) hk
  have e : commas ((x :: y :: rest).map (tell n)) ++ 93 :: r = tell n x ++ 44 :: (commas ((y :: rest).map (tell n)) ++ 93 :: r) := by
   simp [commas]
  rw [e]
  have em : ((x :: y :: rest).map (nodes n)).sum = nodes n x + ((y :: rest).map (nodes n)).sum := by simp
  have ed : maxOf ((x :: y :: rest).map (depth n)) = max (depth n x) (maxOf ((y :: rest).map (depth n))) := rfl
  rw [em, ed]
  rcases h1 with ⟨hv, h200, hm⟩ | ⟨hv, h200⟩ | ⟨hv, hm⟩
  ·have ih2 := items_toldL ih m r rest y f (s ++ [lift n m x]) (k + nodes n x) (fun z hz => hG z (by simp at hz ⊢; exact Or.inr hz)) (by simp at hf; omega) h200
   have hgo : rowGo 93 (oneItem (value m)) (f + 1) s k (tell n x ++ 44 :: (commas ((y :: rest).map (tell n)) ++ 93 :: r)) = rowGo 93 (oneItem (value m)) f (s ++ [lift n m x]) (k + nodes n x) (commas ((y :: rest).map (tell n)) ++ 93 :: r) := by
    rw [rowGo, oneItem, hv]
    rfl
   rw [hgo]
   rcases ih2 with ⟨s', hr, rfl, h4, h5⟩ | ⟨hr, h4⟩ | ⟨hr, h4⟩
   ·refine Or.inl ⟨_, ?_, rfl, by omega, by omega⟩
    rw [hr]
    simp [Nat.add_assoc]
   ·exact Or.inr (Or.inl ⟨hr, by omega⟩)
   ·exact Or.inr (Or.inr ⟨hr, by omega⟩)
  ·refine Or.inr (Or.inl ⟨?_, by omega⟩)
   rw [rowGo, oneItem, hv]
  ·refine Or.inr (Or.inr ⟨?_, by omega⟩)
   rw [rowGo, oneItem, hv]
theorem told_listL {n : Nat} (ih : ToldLAt n) (xs : List (J n)) (hG : ∀ x ∈ xs, Good n x) (m k : Nat) (r : Bs) (hr : noDigit r) (hk : k <= 200) :
  ToldL (n + 1) (Sum.inr (Sum.inl xs)) m k r := by
 have et : tell (n + 1) (Sum.inr (Sum.inl xs)) = 91 :: (commas (xs.map (tell n)) ++ [93]) := rfl
 have en : nodes (n + 1) (Sum.inr (Sum.inl xs)) = 1 + (xs.map (nodes n)).sum := rfl
 have ed : depth (n + 1) (Sum.inr (Sum.inl xs)) = 1 + maxOf (xs.map (depth n)) := rfl
 have eX : tell (n + 1) (Sum.inr (Sum.inl xs)) ++ r = 91 :: (commas (xs.map (tell n)) ++ 93 :: r) := by rw [et]; simp
 unfold ToldL
 rw [eX, en, ed]
 have hv := value_first (m := m) (k := k) (r := 91 :: (commas (xs.map (tell n)) ++ 93 :: r)) rfl (by show (91 : UInt8) ∈ opens; decide)
 by_cases h200 : 200 <= k
 ·exact Or.inr (Or.inl ⟨hv.1 h200, by omega⟩)
 cases m with
 | zero => exact Or.inr (Or.inr ⟨hv.2 (by omega) rfl (Or.inl rfl), by omega⟩)
 | succ m =>
  obtain ⟨hb, hsk⟩ := value_row (m := m) (k := k) (c := 91) (X := commas (xs.map (tell n)) ++ 93 :: r) (by omega) (Or.inl rfl)
  have hval : value (m + 1) k (91 :: (commas (xs.map (tell n)) ++ 93 :: r)) = match row 93 (oneItem (value m)) [] (k + 1) (91 :: (commas (xs.map (tell n)) ++ 93 :: r)) with
   | .error e => .error e
   | .ok (s, k', r') => .ok (Sum.inr (Sum.inl s), k', r') := by
   rw [value, if_neg (by simp [hb]), hsk, if_pos (show hd (91 :: (commas (xs.map (tell n)) ++ 93 :: r)) = 91 from rfl)]
   cases row 93 (oneItem (value m)) [] (k + 1) (91 :: (commas (xs.map (tell n)) ++ 93 :: r)) <;> rfl
  have hrow : RowTold m (row 93 (oneItem (value m)) [] (k + 1) (91 :: (commas (xs.map (tell n)) ++ 93 :: r))) (fun s' => s' = xs.map (lift n m)) (k + 1) (xs.map (nodes n)).sum (maxOf (xs.map (depth n))) r := by
   cases xs with
   | nil =>
    refine Or.inl ⟨[], ?_, rfl, by simp; omega, by simp [maxOf]⟩
    rfl
   | cons x rest =>
    have hh := tell_hd n x (hG x (by simp)) (match rest.map (tell n) with | [] => 93 :: r | _ :: _ => 44 :: (commas (rest.map (tell n)) ++ 93 :: r)) (by cases rest.map (tell n) <;> rfl)
    have eC : commas ((x :: rest).map (tell n)) ++ 93 :: r = tell n x ++ (match rest.map (tell n) with | [] => 93 :: r | _ :: _ => 44 :: (commas (rest.map (tell n)) ++ 93 :: r)) := commas_cons (tell n x) (rest.map (tell n)) (93 :: r)
    rw [<- eC] at hh
    have hi := items_toldL ih m r rest x ((91 :: (commas ((x :: rest).map (tell n)) ++ 93 :: r)).length + 1) [] (k + 1) hG (by
     have := commas_ge ((x :: rest).map (tell n))
     simp only [List.length_map, List.length_cons, List.length_append] at this ⊢
     omega) (by omega)
    have hne : hd (commas ((x :: rest).map (tell n)) ++ 93 :: r) ≠ 93 := by
     intro e
     rw [e] at hh
     exact absurd hh.1 (by decide)
    have hgo : row 93 (oneItem (value m)) [] (k + 1) (91 :: (commas ((x :: rest).map (tell n)) ++ 93 :: r)) = rowGo 93 (oneItem (value m)) ((91 :: (commas ((x :: rest).map (tell n)) ++ 93 :: r)).length + 1) [] (k + 1) (commas ((x :: rest).map (tell n)) ++ 93 :: r) := by
     rw [row, List.tail_cons, skip_not hh.2, if_neg hne]
    rw [hgo]
    rcases hi with ⟨s', h1, rfl, h5, h6⟩ | h | h
    ·exact Or.inl ⟨_, h1, by simp, h5, h6⟩
    ·exact Or.inr (Or.inl h)
    ·exact Or.inr (Or.inr h)
  rw [hval]
  rcases hrow with ⟨s', h1, rfl, h5, h6⟩ | ⟨h1, h5⟩ | ⟨h1, h5⟩
  ·refine Or.inl ⟨?_, by omega, by omega⟩
   rw [h1]
   simp only [Nat.add_assoc]
   rfl
  ·exact Or.inr (Or.inl ⟨by rw [h1], by omega⟩)
  ·exact Or.inr (Or.inr ⟨by rw [h1], by omega⟩)
theorem fields_toldL {n : Nat} (ih : ToldLAt n) (m : Nat) (r : Bs) : ∀ (rest : List (Bs × J n)) (x : Bs × J n) (f : Nat) (s : List (Bs × J m)) (k : Nat), (∀ y ∈ x :: rest, (∀ c ∈ y.1, meant c = true) /\ Good n y.2) -> Rising (x :: rest) -> (∀ g ∈ s, ∀ y ∈ x :: rest, less g.1 y.1 = true) -> rest.length < f -> k <= 200 ->
  RowTold m (rowGo 125 (oneField (value m)) f s k (commas ((x :: rest).map (fieldT n)) ++ 125 :: r)) (fun s' => s' = s ++ (x :: rest).map (fun f => (f.1, lift n m f.2))) k ((x :: rest).map (fun f => nodes n f.2)).sum (maxOf ((x :: rest).map (fun f => depth n f.2))) r
 | [], x, 0, s, k, hG, hR, hs, hf, hk => by omega
 | [], x, f + 1, s, k, hG, hR, hs, hf, hk => by
  have hx := hG x (by simp)
  have h1 := ih x.2 hx.2 m k (125 :: r) (by show isDigit 125 = false; decide) hk
  have e : commas (([x] : List (Bs × J n)).map (fieldT n)) ++ 125 :: r = quote x.1 ++ 58 :: (tell n x.2 ++ 125 :: r) := by simp [commas, fieldT]
  have hn := nameE_told (X := tell n x.2 ++ 125 :: r) hx.1 (fun g hg => hs g hg x (by simp))
  rw [e]
  have em : (([x] : List (Bs × J n)).map (fun f => nodes n f.2)).sum = nodes n x.2 := by simp
  have ed : maxOf (([x] : List (Bs × J n)).map (fun f => depth n f.2)) = depth n x.2 := by simp [maxOf]
  rw [em, ed]
  rcases h1 with ⟨hv, h200, hm⟩ | ⟨hv, h200⟩ | ⟨hv, hm⟩
  ·refine Or.inl ⟨s ++ [(x.1, lift n m x.2)], ?_, rfl, h200, hm⟩
   rw [rowGo, oneField, hn]
   simp only [hv]
   rw [insert_end_of (lift n m x.2) (fun g hg => hs g hg x (by simp))]
   rfl
  ·refine Or.inr (Or.inl ⟨?_, h200⟩)
   rw [rowGo, oneField, hn]
   simp only [hv]
  ·refine Or.inr (Or.inr ⟨?_, hm⟩)
   rw [rowGo, oneField, hn]
   simp only [hv]
 | y :: rest, x, 0, s, k, hG, hR, hs, hf, hk => by omega
 | y :: rest, x, f + 1, s, k, hG, hR, hs, hf, hk => by
  have hx := hG x (by simp)
  have h1 := ih x.2 hx.2 m k (44 :: (commas ((y :: rest).map (fieldT n)) ++ 125 :: r)) (by show isDigit 44 = false; decide) hk
  have e : commas ((x :: y :: rest).map (fieldT n)) ++ 125 :: r = quote x.1 ++ 58 :: (tell n x.2 ++ 44 :: (commas ((y :: rest).map (fieldT n)) ++ 125 :: r)) := by simp [commas, fieldT]
  have hn := nameE_told (X := tell n x.2 ++ 44 :: (commas ((y :: rest).map (fieldT n)) ++ 125 :: r)) hx.1 (fun g hg => hs g hg x (by simp))
  rw [e]
  have em : ((x :: y :: rest).map (fun f => nodes n f.2)).sum = nodes n x.2 + ((y :: rest).map (fun f => nodes n f.2)).sum := by simp
  have ed : maxOf ((x :: y :: rest).map (fun f => depth n f.2)) = max (depth n x.2) (maxOf ((y :: rest).map (fun f => depth n f.2))) := rfl
  rw [em, ed]
  have hR' := List.pairwise_cons.1 hR
  rcases h1 with ⟨hv, h200, hm⟩ | ⟨hv, h200⟩ | ⟨hv, hm⟩
  ·have ih2 := fields_toldL ih m r rest y f (s ++ [(x.1, lift n m x.2)]) (k + nodes n x.2) (fun z hz => hG z (by simp at hz ⊢; exact Or.inr hz)) hR'.2 (fun g hg z hz => by
       rcases List.mem_append.1 hg with hg | hg
       · exact hs g hg z (by simp at hz ⊢; exact Or.inr hz)
       · have hg := List.mem_singleton.1 hg
         subst hg
         exact hR'.1 z hz) (by simp at hf; omega) h200
   have hgo : rowGo 125 (oneField (value m)) (f + 1) s k (quote x.1 ++ 58 :: (tell n x.2 ++ 44 :: (commas ((y :: rest).map (fieldT n)) ++ 125 :: r))) = rowGo 125 (oneField (value m)) f (s ++ [(x.1, lift n m x.2)]) (k + nodes n x.2) (commas ((y :: rest).map (fieldT n)) ++ 125 :: r) := by
    rw [rowGo, oneField, hn]
    simp only [hv]
    rw [insert_end_of (lift n m x.2) (fun g hg => hs g hg x (by simp))]
    rfl
   rw [hgo]
   rcases ih2 with ⟨s', hr, rfl, h4, h5⟩ | ⟨hr, h4⟩ | ⟨hr, h4⟩
   ·refine Or.inl ⟨_, ?_, rfl, by omega, by omega⟩
    rw [hr]
    simp [Nat.add_assoc]
   ·exact Or.inr (Or.inl ⟨hr, by omega⟩)
   ·exact Or.inr (Or.inr ⟨hr, by omega⟩)
  ·refine Or.inr (Or.inl ⟨?_, by omega⟩)
   rw [rowGo, oneField, hn]
   simp only [hv]
  ·refine Or.inr (Or.inr ⟨?_, by omega⟩)
   rw [rowGo, oneField, hn]
   simp only [hv]
theorem told_objectL {n : Nat} (ih : ToldLAt n) (fs : List (Bs × J n)) (hR : Rising fs) (hG : ∀ f ∈ fs, (∀ c ∈ f.1, meant c = true) /\ Good n f.2) (m k : Nat) (r : Bs) (hr : noDigit r) (hk : k <= 200) :
  ToldL (n + 1) (Sum.inr (Sum.inr fs)) m k r := by
 have et : tell (n + 1) (Sum.inr (Sum.inr fs)) = 123 :: (commas (fs.map (fieldT n)) ++ [125]) := rfl
 have en : nodes (n + 1) (Sum.inr (Sum.inr fs)) = 1 + (fs.map (fun f => nodes n f.2)).sum := rfl
 have ed : depth (n + 1) (Sum.inr (Sum.inr fs)) = 1 + maxOf (fs.map (fun f => depth n f.2)) := rfl
 have eX : tell (n + 1) (Sum.inr (Sum.inr fs)) ++ r = 123 :: (commas (fs.map (fieldT n)) ++ 125 :: r) := by rw [et]; simp
 unfold ToldL
 rw [eX, en, ed]
 have hv := value_first (m := m) (k := k) (r := 123 :: (commas (fs.map (fieldT n)) ++ 125 :: r)) rfl (by show (123 : UInt8) ∈ opens; decide)
 by_cases h200 : 200 <= k
 ·exact Or.inr (Or.inl ⟨hv.1 h200, by omega⟩)
 cases m with
 | zero => exact Or.inr (Or.inr ⟨hv.2 (by omega) rfl (Or.inr rfl), by omega⟩)
 | succ m =>
  obtain ⟨hb, hsk⟩ := value_row (m := m) (k := k) (c := 123) (X := commas (fs.map (fieldT n)) ++ 125 :: r) (by omega) (Or.inr rfl)
  have hval : value (m + 1) k (123 :: (commas (fs.map (fieldT n)) ++ 125 :: r)) = match row 125 (oneField (value m)) [] (k + 1) (123 :: (commas (fs.map (fieldT n)) ++ 125 :: r)) with
   | .error e => .error e
   | .ok (s, k', r') => .ok (Sum.inr (Sum.inr s), k', r') := by
   rw [value, if_neg (by simp [hb]), hsk, if_neg (show ¬ hd (123 :: (commas (fs.map (fieldT n)) ++ 125 :: r)) = 91 from by show ¬ (123 : UInt8) = 91; decide), if_pos (show hd (123 :: (commas (fs.map (fieldT n)) ++ 125 :: r)) = 123 from rfl)]
   cases row 125 (oneField (value m)) [] (k + 1) (123 :: (commas (fs.map (fieldT n)) ++ 125 :: r)) <;> rfl
  have hrow : RowTold m (row 125 (oneField (value m)) [] (k + 1) (123 :: (commas (fs.map (fieldT n)) ++ 125 :: r))) (fun s' => s' = fs.map (fun f => (f.1, lift n m f.2))) (k + 1) (fs.map (fun f => nodes n f.2)).sum (maxOf (fs.map (fun f => depth n f.2))) r := by
   cases fs with
   | nil =>
    refine Or.inl ⟨[], ?_, rfl, by simp; omega, by simp [maxOf]⟩
    rfl
   | cons x rest =>
    have hi := fields_toldL ih m r rest x ((123 :: (commas ((x :: rest).map (fieldT n)) ++ 125 :: r)).length + 1) [] (k + 1) hG hR (fun g hg => by simp at hg) (by
     have := commas_ge ((x :: rest).map (fieldT n))
     simp only [List.length_map, List.length_cons, List.length_append] at this ⊢
     omega) (by omega)
    have hh : hd (commas ((x :: rest).map (fieldT n)) ++ 125 :: r) = 34 := by
     cases rest <;> rfl
    have hgo : row 125 (oneField (value m)) [] (k + 1) (123 :: (commas ((x :: rest).map (fieldT n)) ++ 125 :: r)) = rowGo 125 (oneField (value m)) ((123 :: (commas ((x :: rest).map (fieldT n)) ++ 125 :: r)).length + 1) [] (k + 1) (commas ((x :: rest).map (fieldT n)) ++ 125 :: r) := by
     rw [row, List.tail_cons, skip_not (by rw [hh]; rfl), if_neg (by rw [hh]; decide)]
    rw [hgo]
    rcases hi with ⟨s', h1, rfl, h5, h6⟩ | h | h
    ·exact Or.inl ⟨_, h1, by simp, h5, h6⟩
    ·exact Or.inr (Or.inl h)
    ·exact Or.inr (Or.inr h)
  rw [hval]
  rcases hrow with ⟨s', h1, rfl, h5, h6⟩ | ⟨h1, h5⟩ | ⟨h1, h5⟩
  ·refine Or.inl ⟨?_, by omega, by omega⟩
   rw [h1]
   simp only [Nat.add_assoc]
   rfl
  ·exact Or.inr (Or.inl ⟨by rw [h1], by omega⟩)
  ·exact Or.inr (Or.inr ⟨by rw [h1], by omega⟩)
theorem told_anyL : ∀ n, ToldLAt n
 | 0 => fun j h m k r hr hk => leaf_value m k j h r hr hk
 | n + 1 => fun j h m k r hr hk => by
  have ih := told_anyL n
  match j, h with
  | Sum.inl l, h => exact leaf_value m k l h r hr hk
  | Sum.inr (Sum.inl xs), h => exact told_listL ih xs h m k r hr hk
  | Sum.inr (Sum.inr fs), h => exact told_objectL ih fs h.1 h.2 m k r hr hk
theorem read_told {n : Nat} {j : J n} (hg : Good n j) (hn : nodes n j <= 200) (hd' : depth n j <= 10) (hl : (tell n j).length <= 2000) : read (tell n j) = .ok (lift n 10 j) := by
 have h := told_anyL n j hg 10 0 [] noDigit_nil (by omega)
 unfold ToldL at h
 rw [List.append_nil] at h
 unfold read
 rw [if_neg (by omega)]
 rcases h with ⟨hv, h1, h2⟩ | ⟨hv, h1⟩ | ⟨hv, h1⟩
 ·rw [hv]
  rfl
 ·omega
 ·omega
end Go.Proofs.YtjcdklbimaclkaaGreatDoor
namespace Go.Proofs.YtjcdklbimaclkaaGreatDoor
open Go.RowKit
set_option linter.unusedVariables false
set_option linter.unusedSimpArgs false
abbrev S0 (w : World) (n : Nat) (j : J n) (v : Value) : Prop := St (fun _ => False) w n j v
theorem St.s0 {av : Nat -> Prop} {w : World} {n : Nat} {j : J n} {v : Value} (h : St av w n j v) : S0 w n j v := h.mono (fun c _ hf => hf.elim)
theorem St.on {av : Nat -> Prop} {w w' : World} {n : Nat} {j : J n} {v : Value} (h : St av w n j v) (hb : Below w.heap.size w w') : St av w' n j v := h.step hb.size (fun c hc _ => hb.block c hc)
theorem size_of (l : Bs) : (⟨l.toArray⟩ : ByteArray).size = l.length := by simp [ByteArray.size]
def toldE (n : Nat) (j : J n) : Array Value :=
 if 10 < depth n j then #[.string ByteArray.empty, .int .i64 4]
 else if 200 < nodes n j then #[.string ByteArray.empty, .int .i64 2]
 else if 2000 < (tell n j).length then #[.string ByteArray.empty, .int .i64 2]
 else #[.string ⟨(tell n j).toArray⟩, .int .i64 0]
structure Fine (n : Nat) (j : J n) : Prop where
 fit : Fit n j
 nodes : nodes n j <= 100000
 depth : depth n j <= 100000
 len : (tell n j).length <= 100000000
set_option maxRecDepth 100000 in
set_option maxHeartbeats 2000000 in
theorem tellJ_any (n : Nat) (j : J n) (v : Value) (w : World) (hSt : S0 w n j v) (hF : Fine n j) (hT : Tab w.heap.size w) :
  Calls Tryz.prog 27 #[v] w fun e w' => e = .returned (.tuple (toldE n j)) /\ Below w.heap.size w w' := by
 have HM : Hid (Calls Tryz.prog 47 #[v] w fun e w' => e = .returned (.agg #[.int .i64 (nodes n j), .int .i64 (depth n j), .int .i64 (lens n j)]) /\ Below w.heap.size w w') := measure_ok n _ j v w hSt hF.nodes hF.depth (Nat.le_trans (lens_le n j) hF.len)
 have HX : Hid (∀ w1, Below w.heap.size w w1 -> Calls Tryz.prog 44 #[v] w1 fun e w' => e = .returned (.string ⟨(tell n j).toArray⟩) /\ Below w1.heap.size w1 w') := fun w1 hb =>
  text_any n _ j v w1 (hSt.on hb) hF.fit ((hT.below hb).mono hb.size) hF.len
 have HE : Hid (toldE n j = if 10 < depth n j then #[.string ByteArray.empty, .int .i64 4] else if 200 < nodes n j then #[.string ByteArray.empty, .int .i64 2] else if 2000 < (tell n j).length then #[.string ByteArray.empty, .int .i64 2] else #[.string ⟨(tell n j).toArray⟩, .int .i64 0]) := rfl
 have hn1 := hF.nodes
 have hd1 := hF.depth
 have hsz : (⟨(tell n j).toArray⟩ : ByteArray).size = (tell n j).length := size_of _
 have hlen := hF.len
 have hbl := lens_le n j
 clear hSt hF hT
 generalize toldE n j = res at *
 generalize nodes n j = nn at *
 generalize depth n j = dd at *
 generalize lens n j = bb at *
 generalize (tell n j).length = ll at *
 generalize (⟨(tell n j).toArray⟩ : ByteArray) = tx at *
 go_enter Tryz.func27, Tryz.ntmps27
 go_wp2_with fail
 refine Calls.mono HM.out ?_
 rintro e w1 ⟨rfl, b1⟩
 have hxa : (w1.alloc (.cells #[.int .i64 nn, .int .i64 dd, .int .i64 bb] 80)).heap[w1.heap.size]? = some (.cells #[.int .i64 nn, .int .i64 dd, .int .i64 bb] 80 (0, 0)) := heap_alloc_new w1 _
 have x0 : (w1.alloc (.cells #[.int .i64 nn, .int .i64 dd, .int .i64 bb] 80)).cell? ⟨w1.heap.size, 0, none⟩ = some (.int .i64 nn) := by rw [cell_of_row _ _ _ _ _ _ hxa]; rfl
 have x1 : (w1.alloc (.cells #[.int .i64 nn, .int .i64 dd, .int .i64 bb] 80)).cell? ⟨w1.heap.size, 1, none⟩ = some (.int .i64 dd) := by rw [cell_of_row _ _ _ _ _ _ hxa]; rfl
 have x2 : (w1.alloc (.cells #[.int .i64 nn, .int .i64 dd, .int .i64 bb] 80)).cell? ⟨w1.heap.size, 2, none⟩ = some (.int .i64 bb) := by rw [cell_of_row _ _ _ _ _ _ hxa]; rfl
 have HBa : Hid (Below w.heap.size w (w1.alloc (.cells #[.int .i64 nn, .int .i64 dd, .int .i64 bb] 80))) := b1.alloc b1.size _
 clear hxa b1
 by_cases h10 : 10 < dd
 ·have hI : (10 : Int) < (dd : Int) := by omega
  have HR : Hid (res = #[.string ByteArray.empty, .int .i64 4]) := by show _ = _; rw [HE.out, if_pos h10]
  go_wp2_with fail
  go_ret2
  exact ⟨by rw [HR.out]; rfl, HBa.out⟩
 ·have hI : ¬ (10 : Int) < (dd : Int) := by omega
  by_cases h200 : 200 < nn
  ·have hI2 : (200 : Int) < (nn : Int) := by omega
   have HR : Hid (res = #[.string ByteArray.empty, .int .i64 2]) := by show _ = _; rw [HE.out, if_neg h10, if_pos h200]
   go_wp2_with fail
   go_ret2
   exact ⟨by rw [HR.out]; rfl, HBa.out⟩
  ·have hI2 : ¬ (200 : Int) < (nn : Int) := by omega
   have HR0 : Hid (res = if 2000 < ll then #[.string ByteArray.empty, .int .i64 2] else #[.string tx, .int .i64 0]) := by show _ = _; rw [HE.out, if_neg h10, if_neg h200]
   clear h10 h200
   by_cases hbb : 2000 < bb
   ·have hI4 : (2000 : Int) < (bb : Int) := by omega
    have HR : Hid (res = #[.string ByteArray.empty, .int .i64 2]) := by show _ = _; rw [HR0.out, if_pos (by omega)]
    go_wp2_with fail
    go_ret2
    exact ⟨by rw [HR.out]; rfl, HBa.out⟩
   ·have hI4 : ¬ (2000 : Int) < (bb : Int) := by omega
    go_wp2_with fail
    generalize w1.alloc (.cells #[.int .i64 nn, .int .i64 dd, .int .i64 bb] 80) = wa at *
    refine Calls.mono (HX.out _ HBa.out) ?_
    rintro e w2 ⟨rfl, b2⟩
    have HB2 : Hid (Below w.heap.size w w2) := HBa.out.trans (b2.mono HBa.out.size)
    clear b2 x0 x1 x2
    by_cases h2000 : 2000 < ll
    ·have hI3 : (2000 : Int) < (tx.size : Int) := by omega
     have HR : Hid (res = #[.string ByteArray.empty, .int .i64 2]) := by show _ = _; rw [HR0.out, if_pos h2000]
     go_wp2_with fail
     go_ret2
     exact ⟨by rw [HR.out]; rfl, HB2.out⟩
    ·have hI3 : ¬ (2000 : Int) < (tx.size : Int) := by omega
     have HR : Hid (res = #[.string tx, .int .i64 0]) := by show _ = _; rw [HR0.out, if_neg h2000]
     go_wp2_with fail
     go_ret2
     exact ⟨by rw [HR.out]; rfl, HB2.out⟩
def rd20 (N : Nat) (s : Bs) : Except Nat (J N) := (read s).map (lift 10 N)
theorem rd20_err {N : Nat} {s : Bs} {e : Nat} (h : read s = .error e) : rd20 N s = .error e := by unfold rd20; rw [h]; rfl
theorem rd20_ok {N : Nat} {s : Bs} {j : J 10} (h : read s = .ok j) : rd20 N s = .ok (lift 10 N j) := by unfold rd20; rw [h]; rfl
theorem st_lift {av : Nat -> Prop} {w : World} : ∀ (n m : Nat) (j : J n) (v : Value), depth n j <= m -> St av w n j v -> St av w m (lift n m j) v
 | 0, m, l, v, _, h => by
  have e : v = leafV l := h
  subst e
  exact st_leaf av w m l
 | _ + 1, m, Sum.inl l, v, _, h => by
  have e : v = leafV l := h
  subst e
  exact st_leaf av w m l
 | n + 1, 0, Sum.inr (Sum.inl xs), v, hd, h => by
  have h1 : 1 + maxOf (xs.map (depth n)) <= 0 := hd
  omega
 | n + 1, 0, Sum.inr (Sum.inr fs), v, hd, h => by
  have h1 : 1 + maxOf (fs.map fun f => depth n f.2) <= 0 := hd
  omega
 | n + 1, m + 1, Sum.inr (Sum.inl xs), v, hd, h => by
  rcases h with ⟨rfl, rfl⟩ | ⟨g, cap, vs, hv, hl, hc, hm, hg, hlt, hcell, hel⟩
  ·exact Or.inl ⟨rfl, rfl⟩
  ·refine Or.inr ⟨g, cap, vs, by rw [hv, List.length_map], by rw [hl, List.length_map], by rw [List.length_map]; exact hc, hm, hg, hlt, hcell, fun i x u hx hu => ?_⟩
   rw [List.getElem?_map] at hx
   obtain ⟨y, hy, rfl⟩ := Option.map_eq_some_iff.1 hx
   exact st_lift n m y u (deep_item hd y (List.mem_of_getElem? hy)) (hel i y u hy hu)
 | n + 1, m + 1, Sum.inr (Sum.inr fs), v, hd, h => by
  rcases h with ⟨rfl, rfl⟩ | ⟨g, cap, vs, hv, hl, hc, hm, hg, hlt, hcell, hel⟩
  ·exact Or.inl ⟨rfl, rfl⟩
  ·refine Or.inr ⟨g, cap, vs, by rw [hv, List.length_map], by rw [hl, List.length_map], by rw [List.length_map]; exact hc, hm, hg, hlt, fun i f u hf hu => ?_, fun i f u hf hu => ?_⟩
   ·rw [List.getElem?_map] at hf
    obtain ⟨y, hy, rfl⟩ := Option.map_eq_some_iff.1 hf
    exact hcell i y u hy hu
   ·rw [List.getElem?_map] at hf
    obtain ⟨y, hy, rfl⟩ := Option.map_eq_some_iff.1 hf
    exact st_lift n m y.2 u (deep_field hd y (List.mem_of_getElem? hy)) (hel i y u hy hu)
set_option maxRecDepth 100000 in
set_option maxHeartbeats 2000000 in
theorem read20_any (N : Nat) (hN : 20 <= N) (t : ByteArray) (w : World) (hs : t.size <= maxLen) :
  Calls Tryz.prog 25 #[.string t] w fun e w' => Below w.heap.size w w' /\ ((∃ er : Nat, rd20 N t.data.toList = .error er /\ er ≠ 0 /\ er < 100 /\ e = .returned (.tuple #[.nilIface, .int .i64 er])) ∨ ∃ (D : J N) (T : TypeId) (x : Value), rd20 N t.data.toList = .ok D /\ e = .returned (.tuple #[.iface T x, .int .i64 0]) /\ S0 w' N D (.iface T x)) := by
 refine (read_any t w hs).mono ?_
 rintro e w1 ⟨b1, h1⟩
 refine ⟨b1, ?_⟩
 rcases h1 with ⟨er, hr, h2, h3, rfl⟩ | ⟨j, v, hr, rfl, ⟨T, x, rfl⟩, hst⟩
 ·exact Or.inl ⟨er, rd20_err hr, h2, h3, rfl⟩
 ·exact Or.inr ⟨lift 10 N j, T, x, rd20_ok hr, rfl, st_lift 10 N j _ (Nat.le_trans (depth_bound 10 j) (by omega)) hst.s0⟩
structure Told20 (N : Nat) (D : J N) : Prop where
 good : Good N D
 nodes : nodes N D <= 200
 depth : depth N D <= 10
 len : (tell N D).length <= 2000
theorem rd20_told {N : Nat} (hN : 20 <= N) {s : Bs} {D : J N} (h : rd20 N s = .ok D) : Told20 N D := by
 unfold rd20 at h
 cases hr : read s with
 | error e => rw [hr] at h; cases h
 | ok j =>
  rw [hr] at h
  have e : lift 10 N j = D := by
   have h' : Except.ok (lift 10 N j) = (Except.ok D : Except Nat (J N)) := h
   exact Except.ok.inj h'
  subst e
  have hs := lift_said 10 N j (Nat.le_trans (depth_bound 10 j) (by omega))
  have h1 := read_size hr
  have h2 := read_short hr
  exact ⟨good_lift _ _ _ (read_good hr), by rw [hs.2.1]; omega, by rw [hs.2.2.1]; omega, by rw [hs.1]; omega⟩
theorem toldE_form (n : Nat) (j : J n) : ∃ (s : ByteArray) (er : Nat), toldE n j = #[.string s, .int .i64 er] := by
 unfold toldE
 split
 ·exact ⟨_, 4, rfl⟩
 ·split
  ·exact ⟨_, 2, rfl⟩
  ·split
   ·exact ⟨_, 2, rfl⟩
   ·exact ⟨_, 0, rfl⟩
def bothA (N : Nat) (r : J N -> J N -> Except Nat (J N)) (a b : Bs) : Array Value :=
 match rd20 N a with
 | .error e => #[.string ByteArray.empty, .int .i64 e]
 | .ok A => match rd20 N b with
  | .error e => #[.string ByteArray.empty, .int .i64 e]
  | .ok B => match r A B with
   | .error e => #[.string ByteArray.empty, .int .i64 e]
   | .ok j => toldE N j
def BothOK (f N : Nat) (r : J N -> J N -> Except Nat (J N)) : Prop :=
 (∀ (w : World) (A B : J N) (Ta : TypeId) (xa : Value) (Tb : TypeId) (xb : Value), S0 w N A (.iface Ta xa) -> S0 w N B (.iface Tb xb) -> Told20 N A -> Told20 N B -> Tab w.heap.size w ->
  Calls Tryz.prog f #[.iface Ta xa, .iface Tb xb] w (MadeV (fun _ => False) N (r A B) w)) /\ ∀ (A B j : J N), Told20 N A -> Told20 N B -> r A B = .ok j -> Fine N j
set_option maxRecDepth 100000 in
set_option maxHeartbeats 2000000 in
theorem ofBoth_any (f N : Nat) (hN : 20 <= N) (hcf : ∀ (args : Array Value) (w : World), (callFunc f args).run Tryz.prog w = .ok (.enter f args) w) (r : J N -> J N -> Except Nat (J N)) (hr : BothOK f N r) (a b : ByteArray) (w : World) (ha : a.size <= maxLen) (hb : b.size <= maxLen) (hT : Tab w.heap.size w) :
  Calls Tryz.prog 14 #[.string a, .string b, .func (.func f) #[] #[]] w fun e w' => e = .returned (.tuple (bothA N r a.data.toList b.data.toList)) /\ Below w.heap.size w w' := by
 obtain ⟨res, hres⟩ : ∃ res, bothA N r a.data.toList b.data.toList = res := ⟨_, rfl⟩
 have HG : Hid (bothA N r a.data.toList b.data.toList = res) := hres
 rw [hres]
 have HT : Hid (Tab w.heap.size w) := hT
 have HO : Hid (BothOK f N r) := hr
 have HLa : Hid (a.size <= maxLen) := ha
 have HLb : Hid (b.size <= maxLen) := hb
 clear hT hr hres ha hb
 go_enter Tryz.func14, Tryz.ntmps14
 go_wp2_with fail
 refine (read20_any N hN a w HLa.out).mono ?_
 rintro e w1 ⟨b1, h1⟩
 have HB1 : Hid (Below w.heap.size w w1) := b1
 clear b1
 rcases h1 with ⟨er, h2, h3, h4, rfl⟩ | ⟨A, Ta, xa, h2, rfl, h3⟩
 ·have HR : Hid (res = #[.string ByteArray.empty, .int .i64 er]) := by
   show res = _
   rw [<- HG.out, bothA, h2]
  have hbe : ((er : Int) != 0) = true := by rw [bne_iff_ne]; omega
  clear h2
  go_wp2_with fail
  go_ret2
  exact ⟨by rw [HR.out]; rfl, HB1.out⟩
 ·have HR1 : Hid (rd20 N a.data.toList = .ok A) := h2
  have HTa : Hid (Told20 N A) := rd20_told hN h2
  have HS1 : Hid (S0 w1 N A (.iface Ta xa)) := h3
  clear h2 h3
  go_wp2_with fail
  refine (read20_any N hN b w1 HLb.out).mono ?_
  rintro e w2 ⟨b2, h2⟩
  have HB2 : Hid (Below w.heap.size w w2) := HB1.out.trans (b2.mono HB1.out.size)
  have HS2 : Hid (S0 w2 N A (.iface Ta xa)) := HS1.out.on b2
  clear b2
  rcases h2 with ⟨er, h2, h3, h4, rfl⟩ | ⟨B, Tb, xb, h2, rfl, h3⟩
  ·have HR : Hid (res = #[.string ByteArray.empty, .int .i64 er]) := by
    show res = _
    rw [<- HG.out, bothA, HR1.out]
    simp only [h2]
   have hbe : ((er : Int) != 0) = true := by rw [bne_iff_ne]; omega
   clear h2
   go_wp2_with fail
   go_ret2
   exact ⟨by rw [HR.out]; rfl, HB2.out⟩
  ·have HRr : Hid (res = match r A B with
       | .error e => #[.string ByteArray.empty, .int .i64 e]
       | .ok j => toldE N j) := by
    show res = _
    rw [<- HG.out, bothA, HR1.out]
    simp only [h2]
   have HTb : Hid (Told20 N B) := rd20_told hN h2
   have HSb : Hid (S0 w2 N B (.iface Tb xb)) := h3
   have HC : Hid (Calls Tryz.prog f #[.iface Ta xa, .iface Tb xb] w2 (MadeV (fun _ => False) N (r A B) w2)) := HO.out.1 w2 A B Ta xa Tb xb HS2.out h3 HTa.out (rd20_told hN h2) (HT.out.on HB2.out)
   clear h2 h3
   go_wp2_with fail
   refine Calls.mono HC.out ?_
   rintro e w3 ⟨b3, h3⟩
   have HB3 : Hid (Below w.heap.size w w3) := HB2.out.trans (b3.mono HB2.out.size)
   clear b3
   rcases h3 with ⟨er, h3, h4, h5, rfl⟩ | ⟨j, T, x, h3, rfl, h4⟩
   ·have HR : Hid (res = #[.string ByteArray.empty, .int .i64 er]) := by
     show res = _
     rw [HRr.out, h3]
    have hbe : ((er : Int) != 0) = true := by rw [bne_iff_ne]; omega
    clear h3
    go_wp2_with fail
    go_ret2
    exact ⟨by rw [HR.out]; rfl, HB3.out⟩
   ·have hF : Fine N j := HO.out.2 A B j HTa.out HTb.out h3
    have HTl := tellJ_any N j (.iface T x) w3 h4 hF (HT.out.on HB3.out)
    obtain ⟨s, er, hform⟩ := toldE_form N j
    rw [hform] at HTl
    have HR3 : Hid (res = #[.string s, .int .i64 er]) := by
     show res = _
     rw [HRr.out, h3]
     exact hform
    have HTl' : Hid (Calls Tryz.prog 27 #[.iface T x] w3 fun e w' => e = .returned (.tuple #[.string s, .int .i64 er]) /\ Below w3.heap.size w3 w') := HTl
    clear HTl hF h3 h4 hform
    go_wp2_with fail
    refine Calls.mono HTl'.out ?_
    rintro e w4 ⟨rfl, b4⟩
    have HB4 : Hid (Below w.heap.size w w4) := HB3.out.trans (b4.mono HB3.out.size)
    clear b4
    go_wp2_with fail
    go_ret2
    exact ⟨by rw [HR3.out]; rfl, HB4.out⟩
end Go.Proofs.YtjcdklbimaclkaaGreatDoor
namespace Go.Proofs.YtjcdklbimaclkaaGreatDoor
set_option linter.unusedVariables false
set_option linter.unusedSimpArgs false
def wgt : (n : Nat) -> J n -> Nat
 | 0, l => (tellLeaf l).length + 5
 | _ + 1, Sum.inl l => (tellLeaf l).length + 5
 | n + 1, Sum.inr (Sum.inl xs) => (tell (n + 1) (Sum.inr (Sum.inl xs))).length + nodes (n + 1) (Sum.inr (Sum.inl xs)) + 5
 | n + 1, Sum.inr (Sum.inr fs) => 5 + sumW (wgt n) fs
theorem wgt_five : ∀ (n : Nat) (j : J n), 5 <= wgt n j
 | 0, _ => Nat.le_add_left _ _
 | _ + 1, Sum.inl _ => Nat.le_add_left _ _
 | _ + 1, Sum.inr (Sum.inl _) => Nat.le_add_left _ _
 | _ + 1, Sum.inr (Sum.inr _) => Nat.le_add_right _ _
theorem commas_two : ∀ ts : List Bs, (commas ts).length <= (ts.map fun t => t.length + 1).sum /\ (ts.map fun t => t.length + 1).sum <= (commas ts).length + 1
 | [] => by simp [commas]
 | [t] => by simp [commas]
 | t :: u :: r => by
  have ih := commas_two (u :: r)
  simp only [commas, List.map_cons, List.sum_cons, List.length_append, List.length_cons] at ih ⊢
  omega
theorem sum_le_map {α : Type} (l : List α) (f g : α -> Nat) (h : ∀ x ∈ l, f x <= g x) : (l.map f).sum <= (l.map g).sum := by
 induction l with
 | nil => simp
 | cons x r ih =>
  have h1 := h x (by simp)
  have h2 := ih fun y hy => h y (by simp [hy])
  simp only [List.map_cons, List.sum_cons]
  omega
theorem wgt_len : ∀ (n : Nat) (j : J n), (tell n j).length <= wgt n j /\ nodes n j <= wgt n j
 | 0, l => ⟨Nat.le_add_right _ _, by show 1 <= _; exact Nat.le_trans (by omega) (wgt_five 0 l)⟩
 | n + 1, Sum.inl l => ⟨Nat.le_add_right _ _, by show 1 <= _; exact Nat.le_trans (by omega) (wgt_five (n + 1) (Sum.inl l))⟩
 | n + 1, Sum.inr (Sum.inl xs) => by
  show _ <= (tell (n + 1) (Sum.inr (Sum.inl xs))).length + nodes (n + 1) (Sum.inr (Sum.inl xs)) + 5 /\ _ <= (tell (n + 1) (Sum.inr (Sum.inl xs))).length + nodes (n + 1) (Sum.inr (Sum.inl xs)) + 5
  omega
 | n + 1, Sum.inr (Sum.inr fs) => by
  have ih := fun f (hf : f ∈ fs) => wgt_len n f.2
  refine ⟨?_, ?_⟩
  ·show (123 :: (commas (fs.map fun f => quote f.1 ++ 58 :: tell n f.2) ++ [125])).length <= 5 + sumW (wgt n) fs
   have h1 := (commas_two (fs.map fun f => quote f.1 ++ 58 :: tell n f.2)).1
   rw [List.map_map] at h1
   have h2 := sum_le_map fs ((fun t => t.length + 1) ∘ fun f => quote f.1 ++ 58 :: tell n f.2) (fun f => (quote f.1).length + 2 + wgt n f.2) (fun f hf => by
    have := (ih f hf).1
    simp only [Function.comp, List.length_append, List.length_cons]
    omega)
   simp only [List.length_cons, List.length_append, List.length_nil]
   unfold sumW
   omega
  ·show 1 + (fs.map fun f => nodes n f.2).sum <= 5 + sumW (wgt n) fs
   have h2 := sum_le_map fs (fun f => nodes n f.2) (fun f => (quote f.1).length + 2 + wgt n f.2) (fun f hf => by
    have := (ih f hf).2
    omega)
   unfold sumW
   omega
theorem sum_add_map {α : Type} (l : List α) (f g : α -> Nat) : (l.map fun x => f x + g x).sum = (l.map f).sum + (l.map g).sum := by
 induction l with
 | nil => simp
 | cons x r ih =>
  simp only [List.map_cons, List.sum_cons, ih]
  omega
theorem sum_mul_map {α : Type} (l : List α) (f : α -> Nat) (k : Nat) : (l.map fun x => k * f x).sum = k * (l.map f).sum := by
 induction l with
 | nil => simp
 | cons x r ih => simp only [List.map_cons, List.sum_cons, ih, Nat.mul_add]
theorem wgt_most : ∀ (n : Nat) (j : J n), wgt n j <= (tell n j).length + 6 * nodes n j
 | 0, l => by
  show (tellLeaf l).length + 5 <= (tellLeaf l).length + 6 * 1
  omega
 | n + 1, Sum.inl l => by
  show (tellLeaf l).length + 5 <= (tellLeaf l).length + 6 * 1
  omega
 | n + 1, Sum.inr (Sum.inl xs) => by
  have := nodes_pos (n + 1) (Sum.inr (Sum.inl xs))
  show (tell (n + 1) (Sum.inr (Sum.inl xs))).length + nodes (n + 1) (Sum.inr (Sum.inl xs)) + 5 <= _
  omega
 | n + 1, Sum.inr (Sum.inr fs) => by
  have ih := fun f (hf : f ∈ fs) => wgt_most n f.2
  have h1 := (commas_two (fs.map fun f => quote f.1 ++ 58 :: tell n f.2)).2
  rw [List.map_map] at h1
  have h2 := sum_le_map fs (fun f => (quote f.1).length + 2 + wgt n f.2) (fun f => (((fun t => t.length + 1) ∘ fun f : Bs × J n => quote f.1 ++ 58 :: tell n f.2) f) + 6 * nodes n f.2) (fun f hf => by
   have := ih f hf
   simp only [Function.comp, List.length_append, List.length_cons]
   omega)
  have h4 := sum_add_map fs ((fun t => t.length + 1) ∘ fun f : Bs × J n => quote f.1 ++ 58 :: tell n f.2) (fun f => 6 * nodes n f.2)
  have h3 := sum_mul_map fs (fun f => nodes n f.2) 6
  show 5 + sumW (wgt n) fs <= (123 :: (commas (fs.map fun f => quote f.1 ++ 58 :: tell n f.2) ++ [125])).length + 6 * (1 + (fs.map fun f => nodes n f.2).sum)
  simp only [List.length_cons, List.length_append, List.length_nil]
  unfold sumW
  omega
theorem wgt_fields {n : Nat} (d : Option (J (n + 1))) : sumW (wgt n) (fieldsP d) <= wO (wgt (n + 1)) d := by
 match d with
 | none => exact Nat.le_refl _
 | some (Sum.inl _) => exact Nat.zero_le _
 | some (Sum.inr (Sum.inl _)) => exact Nat.zero_le _
 | some (Sum.inr (Sum.inr fs)) => exact Nat.le_add_left _ _
theorem merged_wgt : ∀ (n : Nat) (d : Option (J n)) (v : J n), wgt n (mergedP n d v) <= wO (wgt n) d + wgt n v
 | 0, _, _ => Nat.le_add_left _ _
 | _ + 1, _, Sum.inl _ => Nat.le_add_left _ _
 | _ + 1, _, Sum.inr (Sum.inl _) => Nat.le_add_left _ _
 | n + 1, d, Sum.inr (Sum.inr fs) => by
  obtain ⟨R, h1, h2⟩ := merged_obj d fs
  rw [h2]
  have h3 := meet_sum (wt := wgt n) (fun v u m hm => by
   match u, hm with
   | none, hm =>
    have e : v = some m := Except.ok.inj hm
    subst e
    exact Nat.le_add_right _ _
   | some s, hm =>
    simp only [ofM] at hm
    split at hm
    ·cases hm
    ·cases hm
     exact merged_wgt n v s) _ _ _ _ h1
  have h4 := wgt_fields d
  show 5 + sumW (wgt n) R <= wO (wgt (n + 1)) d + (5 + sumW (wgt n) fs)
  omega
theorem composed_wgt : ∀ (n : Nat) (p q c : J n), composedP n p q = .ok c -> wgt n c <= wgt n p + wgt n q
 | 0, _, q, c, h => by cases h; exact Nat.le_add_left _ _
 | _ + 1, _, Sum.inl _, c, h => by
  have e := Except.ok.inj (show (Except.ok _ : Except Nat _) = .ok c from h)
  subst e
  exact Nat.le_add_left _ _
 | _ + 1, _, Sum.inr (Sum.inl _), c, h => by
  have e := Except.ok.inj (show (Except.ok _ : Except Nat _) = .ok c from h)
  subst e
  exact Nat.le_add_left _ _
 | n + 1, Sum.inl _, Sum.inr (Sum.inr _), c, h => by cases h
 | n + 1, Sum.inr (Sum.inl _), Sum.inr (Sum.inr _), c, h => by cases h
 | n + 1, Sum.inr (Sum.inr fp), Sum.inr (Sum.inr fq), c, h => by
  have h' : objE (meetP (ofC (composedP n)) fp fq) = .ok c := h
  cases hm : meetP (ofC (composedP n)) fp fq with
  | error e => rw [hm] at h'; cases h'
  | ok R =>
   rw [hm] at h'
   cases h'
   have h3 := meet_sum (wt := wgt n) (fun v u m ho => by
    match v, u, ho with
    | v, none, ho =>
     have e : v = some m := Except.ok.inj ho
     subst e
     exact Nat.le_add_right _ _
    | none, some t, ho =>
     have e : some t = some m := Except.ok.inj ho
     cases e
     exact Nat.le_add_left _ _
    | some f, some t, ho =>
     simp only [ofC] at ho
     cases hc : composedP n f t with
     | error e => rw [hc] at ho; cases ho
     | ok c =>
      rw [hc] at ho
      cases ho
      exact composed_wgt n f t _ hc) _ _ _ _ hm
   show 5 + sumW (wgt n) R <= (5 + sumW (wgt n) fp) + (5 + sumW (wgt n) fq)
   omega
theorem meet_err {α : Type} {of : Of α} : ∀ (k : Nat) (a b : List (Bs × α)) (e : Nat), meetF of k a b = .error e -> ∃ v u, of v u = .error e
 | 0, _, _, _, h => by cases h
 | k + 1, a, b, e, h => by
  simp only [meetF] at h
  split at h
  ·cases h
  ·cases h1 : of (takeV a (lowName a b)) (takeV b (lowName a b)) with
   | error e' =>
    rw [h1] at h
    cases h
    exact ⟨_, _, h1⟩
   | ok m =>
    rw [h1] at h
    cases h2 : meetF of k (takeR a (lowName a b)) (takeR b (lowName a b)) with
    | error e' =>
     simp only [h2] at h
     cases h
     exact meet_err k _ _ _ h2
    | ok r => simp only [h2] at h; cases h
theorem composed_err : ∀ (n : Nat) (p q : J n) (e : Nat), composedP n p q = .error e -> e = 9
 | 0, _, q, e, h => by cases h
 | _ + 1, _, Sum.inl _, e, h => by cases (show (Except.ok _ : Except Nat _) = .error e from h)
 | _ + 1, _, Sum.inr (Sum.inl _), e, h => by cases (show (Except.ok _ : Except Nat _) = .error e from h)
 | n + 1, Sum.inl _, Sum.inr (Sum.inr _), e, h => by cases h; rfl
 | n + 1, Sum.inr (Sum.inl _), Sum.inr (Sum.inr _), e, h => by cases h; rfl
 | n + 1, Sum.inr (Sum.inr fp), Sum.inr (Sum.inr fq), e, h => by
  have h' : objE (meetP (ofC (composedP n)) fp fq) = .error e := h
  cases hm : meetP (ofC (composedP n)) fp fq with
  | ok R => rw [hm] at h'; cases h'
  | error e' =>
   rw [hm] at h'
   cases h'
   obtain ⟨v, u, ho⟩ := meet_err _ _ _ _ hm
   match v, u, ho with
   | v, none, ho => cases ho
   | none, some t, ho => cases ho
   | some f, some t, ho =>
    simp only [ofC] at ho
    cases hc : composedP n f t with
    | ok c => rw [hc] at ho; cases ho
    | error e2 =>
     rw [hc] at ho
     cases ho
     exact composed_err n f t _ hc
structure Makes (N : Nat) (r : J N -> J N -> Except Nat (J N)) : Prop where
 good : ∀ A B j, Good N A -> Good N B -> r A B = .ok j -> Good N j
 wgt : ∀ A B j, r A B = .ok j -> wgt N j <= 2 * wgt N A + 2 * wgt N B
 err : ∀ A B e, r A B = .error e -> e = 9
theorem told_wgt {N : Nat} {A : J N} (h : Told20 N A) : wgt N A <= 3200 := by
 have h1 := wgt_most N A
 have h2 := h.len
 have h3 := h.nodes
 omega
theorem Makes.fine {N : Nat} (hN : N <= 1000) {r : J N -> J N -> Except Nat (J N)} (hr : Makes N r) {A B j : J N} (hA : Told20 N A) (hB : Told20 N B) (h : r A B = .ok j) : Fine N j := by
 have h1 := hr.wgt A B j h
 have h2 := told_wgt hA
 have h3 := told_wgt hB
 have h4 := wgt_len N j
 have h5 := depth_bound N j
 exact ⟨fit_of_good _ _ (hr.good A B j hA.good hB.good h), by omega, by omega, by omega⟩
theorem Told20.okv {N : Nat} {A : J N} (h : Told20 N A) : Okv N A := ⟨fit_of_good _ _ h.good, by have := h.nodes; omega, by have := h.len; omega⟩
def applyR (N : Nat) (A B : J N) : Except Nat (J N) := .ok (mergedP N (some A) B)
theorem apply_makes (N : Nat) : Makes N (applyR N) :=
 ⟨fun A B j hA hB h => by
  cases h
  exact merged_good N (some A) B (fun x hx => by cases hx; exact hA) hB, fun A B j h => by
  cases h
  have h1 := merged_wgt N (some A) B
  simp only [wO] at h1
  omega, fun A B e h => by cases h⟩
theorem compose_makes (N : Nat) : Makes N (composedP N) := ⟨fun A B j hA hB h => composed_good N A B j hA hB h, fun A B j h => by
  have h1 := composed_wgt N A B j h
  omega, fun A B e h => composed_err N A B e h⟩
section
variable {α : Type}
theorem meet_err_look {of : Of α} (h0 : of none none = .ok none) : ∀ (k : Nat) (a b : List (Bs × α)) (e : Nat), meetF of k a b = .error e -> Rising a -> Rising b -> ∃ s, of (look a s) (look b s) = .error e
 | 0, _, _, _, h, _, _ => by cases h
 | k + 1, a, b, e, h, ha, hb => by
  simp only [meetF] at h
  split at h
  ·cases h
  ·cases h1 : of (takeV a (lowName a b)) (takeV b (lowName a b)) with
   | error e' =>
    rw [h1] at h
    cases h
    refine ⟨lowName a b, ?_⟩
    rw [look_here ha (heads_left a b), look_here hb (heads_right a b), h1]
   | ok m =>
    rw [h1] at h
    cases h2 : meetF of k (takeR a (lowName a b)) (takeR b (lowName a b)) with
    | error e' =>
     simp only [h2] at h
     cases h
     obtain ⟨s, hs⟩ := meet_err_look h0 k _ _ _ h2 (take_rising _ ha) (take_rising _ hb)
     by_cases es : s = lowName a b
     ·rw [es, look_above (take_above ha (heads_left a b)), look_above (take_above hb (heads_right a b)), h0] at hs
      cases hs
     ·refine ⟨s, ?_⟩
      rw [look_else es, look_else (a := b) es]
      exact hs
    | ok r => simp only [h2] at h; cases h
def bothAll (g : α -> α -> Except Nat α) (ps : List (Bs × α)) : List (Bs × α) -> List (Bs × α) -> Except Nat (List (Bs × α))
 | [], out => .ok out
 | f :: r, out => match findF ps f.1 with
  | none => bothAll g ps r (setF out f.1 f.2)
  | some was => match g was f.2 with
   | .error e => .error e
   | .ok c => bothAll g ps r (setF out f.1 c)
def bothOne (g : α -> α -> Except Nat α) (ps : List (Bs × α)) (f : Bs × α) : Except Nat α :=
 match look ps f.1 with
 | none => .ok f.2
 | some was => g was f.2
theorem bothAll_cons (g : α -> α -> Except Nat α) (ps : List (Bs × α)) (f : Bs × α) (r out : List (Bs × α)) : bothAll g ps (f :: r) out = match bothOne g ps f with
  | .error e => .error e
  | .ok c => bothAll g ps r (setF out f.1 c) := by
 simp only [bothAll, bothOne]
 rw [find_look]
 cases look ps f.1 with
 | none => rfl
 | some was => rfl
theorem bothAll_err (g : α -> α -> Except Nat α) (ps : List (Bs × α)) : ∀ (l out : List (Bs × α)) (e : Nat), bothAll g ps l out = .error e -> ∃ f ∈ l, bothOne g ps f = .error e
 | [], out, e, h => by cases h
 | f :: r, out, e, h => by
  rw [bothAll_cons] at h
  cases h1 : bothOne g ps f with
  | error e' =>
   rw [h1] at h
   cases h
   exact ⟨f, by simp, h1⟩
  | ok c =>
   rw [h1] at h
   obtain ⟨x, hx, hy⟩ := bothAll_err g ps r _ e h
   exact ⟨x, List.mem_cons_of_mem _ hx, hy⟩
theorem bothAll_ok (g : α -> α -> Except Nat α) (ps : List (Bs × α)) : ∀ (l out R : List (Bs × α)), bothAll g ps l out = .ok R -> Rising l -> Rising out -> Rising R /\ ∀ s, match look l s with
  | none => look R s = look out s
  | some x => ∃ c, bothOne g ps (s, x) = .ok c /\ look R s = some c
 | [], out, R, h, _, ho => by
  cases h
  exact ⟨ho, fun s => rfl⟩
 | f :: r, out, R, h, hl, ho => by
  have h' := List.pairwise_cons.1 hl
  rw [bothAll_cons] at h
  cases h1 : bothOne g ps f with
  | error e' =>
   rw [h1] at h
   cases h
  | ok c =>
   rw [h1] at h
   obtain ⟨hR, hs⟩ := bothAll_ok g ps r _ R h h'.2 (set_rising _ _ _ ho)
   refine ⟨hR, fun s => ?_⟩
   have ih := hs s
   have hf : look (f :: r) s = if f.1 = s then some f.2 else look r s := rfl
   rw [hf]
   by_cases e : f.1 = s
   ·subst e
    rw [if_pos rfl]
    rw [look_above h'.1] at ih
    refine ⟨c, h1, ?_⟩
    have ih' : look R f.1 = look (setF out f.1 c) f.1 := ih
    rw [ih', look_set, if_pos rfl]
   ·rw [if_neg e]
    cases hr : look r s with
    | none =>
     rw [hr] at ih
     have ih' : look R s = look (setF out f.1 c) s := ih
     show look R s = look out s
     rw [ih', look_set, if_neg (fun x => e x.symm)]
    | some x =>
     rw [hr] at ih
     exact ih
end
def bothP : (n : Nat) -> J n -> J n -> Except Nat (J n)
 | 0, _, q => .ok q
 | _ + 1, _, Sum.inl l => .ok (Sum.inl l)
 | _ + 1, _, Sum.inr (Sum.inl xs) => .ok (Sum.inr (Sum.inl xs))
 | n + 1, Sum.inr (Sum.inr fp), Sum.inr (Sum.inr fq) => objE (bothAll (bothP n) fp fq fp)
 | _ + 1, _, Sum.inr (Sum.inr _) => .error 9
theorem both_composed : ∀ (n : Nat) (p q : J n), Good n p -> Good n q -> bothP n p q = composedP n p q
 | 0, _, q, _, _ => rfl
 | _ + 1, _, Sum.inl _, _, _ => rfl
 | _ + 1, _, Sum.inr (Sum.inl _), _, _ => rfl
 | n + 1, Sum.inl _, Sum.inr (Sum.inr _), _, _ => rfl
 | n + 1, Sum.inr (Sum.inl _), Sum.inr (Sum.inr _), _, _ => rfl
 | n + 1, Sum.inr (Sum.inr fp), Sum.inr (Sum.inr fq), hp, hq => by
  have hP : Rising fp /\ ∀ f ∈ fp, (∀ c ∈ f.1, meant c = true) /\ Good n f.2 := hp
  have hQ : Rising fq /\ ∀ f ∈ fq, (∀ c ∈ f.1, meant c = true) /\ Good n f.2 := hq
  show objE (bothAll (bothP n) fp fq fp) = objE (meetP (ofC (composedP n)) fp fq)
  have one : ∀ s x, look fq s = some x -> ofC (composedP n) (look fp s) (some x) = match bothOne (bothP n) fp (s, x) with
    | .error e => .error e
    | .ok c => .ok (some c) := by
   intro s x hx
   have gx := (hQ.2 _ (look_mem hx)).2
   unfold bothOne
   cases hs : look fp s with
   | none => simp [ofC, hs]
   | some was =>
    have gw := (hP.2 _ (look_mem hs)).2
    simp only [ofC, hs]
    rw [both_composed n was x gw gx]
    cases composedP n was x <;> rfl
  have hce : ∀ e, meetP (ofC (composedP n)) fp fq = .error e -> e = 9 := by
   intro e he
   refine composed_err (n + 1) (Sum.inr (Sum.inr fp)) (Sum.inr (Sum.inr fq)) e ?_
   show objE (meetP (ofC (composedP n)) fp fq) = .error e
   rw [he]
   rfl
  cases hb : bothAll (bothP n) fp fq fp with
  | ok R =>
   obtain ⟨hR, hl⟩ := bothAll_ok _ _ _ _ _ hb hQ.1 hP.1
   cases hm : meetP (ofC (composedP n)) fp fq with
   | ok R' =>
    have hm2 := meet_look (ofC_none (composedP n)) _ _ _ R' (Nat.le_refl _) hm hP.1 hQ.1
    have hR' : Rising R' := meet_rising _ _ _ R' hm hP.1 hQ.1
    rw [look_ext R R' hR hR' fun s => ?_]
    have h1 := hm2 s
    have h2 := hl s
    cases hs : look fq s with
    | none =>
     rw [hs] at h1 h2
     have h1' : look fp s = look R' s := Except.ok.inj h1
     have h2' : look R s = look fp s := h2
     rw [h2', h1']
    | some x =>
     rw [hs] at h2
     obtain ⟨c, hc, hRc⟩ := h2
     rw [hs, one s x hs, hc] at h1
     have h1' : some c = look R' s := Except.ok.inj h1
     rw [hRc, h1']
   | error e =>
    obtain ⟨s, he⟩ := meet_err_look (ofC_none (composedP n)) _ _ _ e hm hP.1 hQ.1
    have h2 := hl s
    cases hs : look fq s with
    | none =>
     rw [hs] at he
     cases he
    | some x =>
     rw [hs] at h2
     obtain ⟨c, hc, hRc⟩ := h2
     rw [hs, one s x hs, hc] at he
     cases he
  | error e =>
   obtain ⟨f, hf, he⟩ := bothAll_err _ _ _ _ _ hb
   have hlf := look_of_mem hQ.1 hf
   have ho := one f.1 f.2 hlf
   have he' : bothOne (bothP n) fp (f.1, f.2) = .error e := he
   rw [he'] at ho
   cases hm : meetP (ofC (composedP n)) fp fq with
   | ok R' =>
    have hm2 := meet_look (ofC_none (composedP n)) _ _ _ R' (Nat.le_refl _) hm hP.1 hQ.1 f.1
    rw [hlf, ho] at hm2
    cases hm2
   | error e' =>
    rw [hce e' hm]
    have : e = 9 := by
     have ho' : ofC (composedP n) (look fp f.1) (some f.2) = .error e := ho
     cases hs : look fp f.1 with
     | none => rw [hs] at ho'; cases ho'
     | some was =>
      rw [hs] at ho'
      simp only [ofC] at ho'
      cases hc : composedP n was f.2 with
      | ok c => rw [hc] at ho'; cases ho'
      | error e2 =>
       rw [hc] at ho'
       cases ho'
       exact composed_err n was f.2 _ hc
    rw [this]
end Go.Proofs.YtjcdklbimaclkaaGreatDoor
