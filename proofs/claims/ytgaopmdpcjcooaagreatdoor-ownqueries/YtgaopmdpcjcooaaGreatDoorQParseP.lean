/- Plain: how a selector's text is read; what is printed is read as it was; blanks ahead and behind are of no matter. -/
import Derived.Test.YtgaopmdpcjcooaaGreatDoorQPrint
import Derived.Test.YtgaopmdpcjcooaaGreatDoorKeyFacts
namespace Go.Proofs.YtgaopmdpcjcooaaGreatDoor
set_option linter.unusedVariables false
set_option linter.unusedSimpArgs false
/-- may a byte stand in a key, a value or a word? -/
def isRun (c : UInt8) : Bool := letter (c.toNat : Int) || (c == 45 || c == 95 || c == 46 || c == 47)
/-- without blanks ahead -/
def lv (s : Bs) : Bs := s.dropWhile (· == 32)
def rn (s : Bs) : Bs := s.takeWhile isRun
def rr (s : Bs) : Bs := lv (s.dropWhile isRun)
def tk (g s : Bs) : Option Bs := if g.isPrefixOf s = true then some (lv (s.drop g.length)) else none
def moreV : Nat → Bs → List Bs × Bs
  | 0, s => ([], s)
  | n + 1, s =>
    match tk [44] s with
    | none => ([], s)
    | some s1 => (rn s1 :: (moreV n (rr s1)).1, (moreV n (rr s1)).2)
def valsP (N : Nat) (s : Bs) : Option (List Bs × Bs) :=
  match tk [40] s with
  | none => none
  | some s1 =>
    match tk [41] (moreV N (rr s1)).2 with
    | none => none
    | some s2 => some (rn s1 :: (moreV N (rr s1)).1, s2)
def wordP (N : Nat) (key s1 : Bs) : Option (Rq × Bs) :=
  if rn s1 = [] then some ((key, 3, []), rr s1)
  else if rn s1 = [105, 110] then (valsP N (rr s1)).map fun p => ((key, 1, p.1), p.2)
  else if rn s1 = [110, 111, 116, 105, 110] then (valsP N (rr s1)).map fun p => ((key, 2, p.1), p.2)
  else none
def notP (N : Nat) (key s1 : Bs) : Option (Rq × Bs) :=
  match (if key = [] then tk [33] s1 else none) with
  | some s2 => some ((rn s2, 4, []), rr s2)
  | none => wordP N key s1
def partP (N : Nat) (s : Bs) : Option (Rq × Bs) :=
  match tk [61, 61] (rr s) with
  | some s2 => some ((rn s, 1, [rn s2]), rr s2)
  | none =>
    match tk [61] (rr s) with
    | some s2 => some ((rn s, 1, [rn s2]), rr s2)
    | none =>
      match tk [33, 61] (rr s) with
      | some s2 => some ((rn s, 2, [rn s2]), rr s2)
      | none => notP N (rn s) (rr s)
def moreP (N : Nat) : Nat → Bs → Option (List Rq)
  | 0, _ => none
  | n + 1, s =>
    match partP N s with
    | none => none
    | some (r, s1) => if s1 = [] then some [r] else
      match tk [44] s1 with
      | none => none
      | some s2 => (moreP N n s2).map (r :: ·)
def readP (N : Nat) (s : Bs) : Option (List Rq) := if lv s = [] then some [] else moreP N N (lv s)
/-- what Parse answers -/
def parseE (N : Nat) (s : Bs) : List Rq × Int :=
  if 300 < s.length then ([], 2) else
  match readP N s with
  | none => ([], 3)
  | some l => if chkI l ≠ 0 then ([], chkI l) else (l, 0)
theorem lv_len : ∀ s : Bs, (lv s).length ≤ s.length
  | [] => Nat.le_refl _
  | c :: s => by
    unfold lv
    rw [List.dropWhile_cons]
    split
    · have := lv_len s
      unfold lv at this
      simp only [List.length_cons]
      omega
    · exact Nat.le_refl _
theorem rr_len (s : Bs) : (rr s).length ≤ s.length := by
  have h1 := lv_len (s.dropWhile isRun)
  have h2 : (s.dropWhile isRun).length ≤ s.length := by
    have := congrArg List.length (List.takeWhile_append_dropWhile (p := isRun) (l := s))
    rw [List.length_append] at this
    omega
  unfold rr
  omega
theorem rn_len (s : Bs) : (rn s).length ≤ s.length := by
  have := congrArg List.length (List.takeWhile_append_dropWhile (p := isRun) (l := s))
  rw [List.length_append] at this
  unfold rn
  omega
theorem tk_len {g s t : Bs} (h : tk g s = some t) (hg : g ≠ []) : t.length < s.length := by
  unfold tk at h
  by_cases hp : g.isPrefixOf s = true
  · rw [if_pos hp] at h
    injection h with h
    subst h
    have h1 := lv_len (s.drop g.length)
    have h2 := (List.isPrefixOf_iff_prefix.1 hp).length_le
    have h3 : 0 < g.length := List.length_pos_iff.2 hg
    rw [List.length_drop] at h1
    omega
  · rw [if_neg hp] at h
    cases h
/-- a blank behind -/
def pad (s : Bs) : Bs := if s = [] then [] else s ++ [32]
theorem pad_nil : pad [] = [] := rfl
theorem pad_ne {s : Bs} (h : s ≠ []) : pad s = s ++ [32] := if_neg h
theorem pad_iff (s : Bs) : pad s = [] ↔ s = [] := by
  by_cases h : s = []
  · simp [h, pad_nil]
  · simp [pad_ne h, h]
theorem lv_pad : ∀ a : Bs, lv (a ++ [32]) = pad (lv a)
  | [] => by decide
  | c :: a => by
    have ih := lv_pad a
    unfold lv at ih ⊢
    rw [List.cons_append, List.dropWhile_cons, List.dropWhile_cons]
    by_cases h : (c == 32) = true
    · rw [if_pos h, if_pos h]; exact ih
    · rw [if_neg h, if_neg h, pad_ne (by simp)]; rfl
theorem run_blank : isRun 32 = false := by decide
theorem tw_blank : ∀ s : Bs, (s ++ [32]).takeWhile isRun = s.takeWhile isRun ∧ (s ++ [32]).dropWhile isRun = s.dropWhile isRun ++ [32]
  | [] => by simp [run_blank]
  | c :: s => by
    obtain ⟨h1, h2⟩ := tw_blank s
    rw [List.cons_append, List.takeWhile_cons, List.dropWhile_cons, List.takeWhile_cons, List.dropWhile_cons]
    by_cases h : isRun c = true
    · simp only [h, if_true, h1, h2]; exact ⟨trivial, trivial⟩
    · simp only [h]; exact ⟨rfl, rfl⟩
theorem rn_pad (s : Bs) : rn (pad s) = rn s := by
  by_cases h : s = []
  · rw [h, pad_nil]
  · rw [pad_ne h]; exact (tw_blank s).1
theorem rr_pad (s : Bs) : rr (pad s) = pad (rr s) := by
  by_cases h : s = []
  · subst h; rfl
  · rw [pad_ne h]
    unfold rr
    rw [(tw_blank s).2]
    exact lv_pad _
theorem pre_blank : ∀ (g s : Bs), (32 : UInt8) ∉ g → g.isPrefixOf (s ++ [32]) = g.isPrefixOf s
  | [], s, _ => by simp
  | c :: g, [], h => by
    have hc : c ≠ 32 := fun e => h (by simp [e])
    have : (c == 32) = false := by simpa using hc
    simp [List.isPrefixOf, this]
  | c :: g, d :: s, h => by
    have ih := pre_blank g s (fun hm => h (List.mem_cons_of_mem _ hm))
    rw [List.cons_append, List.isPrefixOf_cons_cons, List.isPrefixOf_cons_cons, ih]
theorem tk_pad {g : Bs} (s : Bs) (hg : (32 : UInt8) ∉ g) : tk g (pad s) = (tk g s).map pad := by
  by_cases h : s = []
  · subst h
    rw [pad_nil]
    unfold tk
    by_cases hp : g.isPrefixOf ([] : Bs) = true
    · rw [if_pos hp]; simp [lv, pad_nil]
    · rw [if_neg hp]; rfl
  · rw [pad_ne h]
    unfold tk
    rw [pre_blank g s hg]
    by_cases hp : g.isPrefixOf s = true
    · rw [if_pos hp, if_pos hp, List.drop_append_of_le_length (List.isPrefixOf_iff_prefix.1 hp).length_le, lv_pad]
      rfl
    · rw [if_neg hp, if_neg hp]; rfl
theorem moreV_pad : ∀ (n : Nat) (s : Bs), moreV n (pad s) = ((moreV n s).1, pad (moreV n s).2)
  | 0, s => rfl
  | n + 1, s => by
    rw [moreV, moreV, tk_pad s (by decide)]
    cases tk [44] s with
    | none => rfl
    | some s1 =>
      simp only [Option.map_some, rn_pad, rr_pad, moreV_pad n]
theorem valsP_pad (N : Nat) (s : Bs) : valsP N (pad s) = (valsP N s).map fun p => (p.1, pad p.2) := by
  rw [valsP, valsP, tk_pad s (by decide)]
  cases tk [40] s with
  | none => rfl
  | some s1 =>
    simp only [Option.map_some, rn_pad, rr_pad, moreV_pad]
    rw [tk_pad _ (by decide)]
    cases tk [41] (moreV N (rr s1)).2 with
    | none => rfl
    | some s2 => rfl
theorem wordP_pad (N : Nat) (key s : Bs) : wordP N key (pad s) = (wordP N key s).map fun p => (p.1, pad p.2) := by
  unfold wordP
  rw [rn_pad, rr_pad, valsP_pad]
  by_cases h1 : rn s = []
  · rw [if_pos h1, if_pos h1]; rfl
  · rw [if_neg h1, if_neg h1]
    by_cases h2 : rn s = [105, 110]
    · rw [if_pos h2, if_pos h2]; cases valsP N (rr s) <;> rfl
    · rw [if_neg h2, if_neg h2]
      by_cases h3 : rn s = [110, 111, 116, 105, 110]
      · rw [if_pos h3, if_pos h3]; cases valsP N (rr s) <;> rfl
      · rw [if_neg h3, if_neg h3]; rfl
theorem notP_pad (N : Nat) (key s : Bs) : notP N key (pad s) = (notP N key s).map fun p => (p.1, pad p.2) := by
  unfold notP
  rw [tk_pad s (by decide), wordP_pad]
  by_cases h1 : key = []
  · rw [if_pos h1, if_pos h1]
    cases tk [33] s with
    | none => rfl
    | some s2 => simp only [Option.map_some, rn_pad, rr_pad]
  · rw [if_neg h1, if_neg h1]
theorem partP_pad (N : Nat) (s : Bs) : partP N (pad s) = (partP N s).map fun p => (p.1, pad p.2) := by
  unfold partP
  rw [rn_pad, rr_pad, tk_pad _ (by decide), tk_pad _ (by decide), tk_pad _ (by decide), notP_pad]
  cases tk [61, 61] (rr s) with
  | some s2 => simp only [Option.map_some, rn_pad, rr_pad]
  | none =>
    cases tk [61] (rr s) with
    | some s2 => simp only [Option.map_some, Option.map_none, rn_pad, rr_pad]
    | none =>
      cases tk [33, 61] (rr s) with
      | some s2 => simp only [Option.map_some, Option.map_none, rn_pad, rr_pad]
      | none => rfl
theorem moreP_pad (N : Nat) : ∀ (n : Nat) (s : Bs), moreP N n (pad s) = moreP N n s
  | 0, s => rfl
  | n + 1, s => by
    rw [moreP, moreP, partP_pad]
    cases partP N s with
    | none => rfl
    | some p =>
      obtain ⟨r, s1⟩ := p
      simp only [Option.map_some, pad_iff, tk_pad s1 (g := [44]) (by decide)]
      by_cases h : s1 = []
      · rw [if_pos h, if_pos h]
      · rw [if_neg h, if_neg h]
        cases tk [44] s1 with
        | none => rfl
        | some s2 => simp only [Option.map_some, moreP_pad N n]
theorem readP_blanks (N : Nat) (s : Bs) : readP N ([32, 32] ++ s ++ [32]) = readP N s := by
  have h : lv ([32, 32] ++ s ++ [32]) = pad (lv s) := by
    rw [← lv_pad]
    rfl
  unfold readP
  rw [h, moreP_pad]
  simp only [pad_iff]
theorem parse_blanks {N : Nat} {s : Bs} (h : (parseE N s).2 = 0) (hl : s.length < 290) : parseE N ([32, 32] ++ s ++ [32]) = parseE N s := by
  unfold parseE
  rw [readP_blanks, if_neg (by simp only [List.length_append, List.length_cons, List.length_nil]; omega), if_neg (by omega)]
/-- no byte of a run ahead -/
def Stop (t : Bs) : Prop := ∀ c r, t = c :: r → isRun c = false
theorem tw_run : ∀ {a : Bs} (t : Bs), (∀ c ∈ a, isRun c = true) → Stop t → (a ++ t).takeWhile isRun = a ∧ (a ++ t).dropWhile isRun = t
  | [], t, _, ht => by
    cases t with
    | nil => exact ⟨rfl, rfl⟩
    | cons c r =>
      have := ht c r rfl
      simp [this]
  | c :: a, t, h, ht => by
    obtain ⟨h1, h2⟩ := tw_run (a := a) t (fun d hd => h d (List.mem_cons_of_mem _ hd)) ht
    have hc := h c (List.mem_cons_self ..)
    rw [List.cons_append, List.takeWhile_cons, List.dropWhile_cons]
    simp only [hc, if_true, h1, h2]
    exact ⟨trivial, trivial⟩
theorem rn_run {a t : Bs} (h : ∀ c ∈ a, isRun c = true) (ht : Stop t) : rn (a ++ t) = a := (tw_run t h ht).1
theorem rr_run {a t : Bs} (h : ∀ c ∈ a, isRun c = true) (ht : Stop t) : rr (a ++ t) = lv t := by
  unfold rr
  rw [(tw_run t h ht).2]
theorem lv_cons {c : UInt8} (t : Bs) (h : c ≠ 32) : lv (c :: t) = c :: t := by
  unfold lv
  rw [List.dropWhile_cons, if_neg (by simpa using h)]
theorem stop_cons {c : UInt8} {t : Bs} (h : isRun c = false) : Stop (c :: t) := fun d r e => by
  injection e with e1 e2
  rw [← e1]
  exact h
theorem stop_nil : Stop [] := fun c r e => by cases e
theorem run_ne {c : UInt8} (h : isRun c = true) : c ≠ 32 ∧ c ≠ 61 ∧ c ≠ 33 ∧ c ≠ 40 ∧ c ≠ 41 ∧ c ≠ 44 := by
  refine ⟨?_, ?_, ?_, ?_, ?_, ?_⟩ <;> (rintro rfl; revert h; decide)
theorem tk_one (c : UInt8) (t : Bs) : tk [c] (c :: t) = some (lv t) := by simp [tk, List.isPrefixOf]
theorem tk_two (c d : UInt8) (t : Bs) : tk [c, d] (c :: d :: t) = some (lv t) := by simp [tk, List.isPrefixOf]
theorem tk_not {c d : UInt8} {g t : Bs} (h : c ≠ d) : tk (c :: g) (d :: t) = none := by
  have : (c == d) = false := by simpa using h
  simp [tk, List.isPrefixOf, this]
theorem tk_nil {c : UInt8} {g : Bs} : tk (c :: g) [] = none := by simp [tk, List.isPrefixOf]
/-- what stands behind a part: nothing, or a comma -/
def Tail (t : Bs) : Prop := t = [] ∨ ∃ r, t = 44 :: r
theorem Tail.stop {t : Bs} (h : Tail t) : Stop t := by
  rcases h with rfl | ⟨r, rfl⟩
  · exact stop_nil
  · exact stop_cons (by decide)
theorem Tail.lvE {t : Bs} (h : Tail t) : lv t = t := by
  rcases h with rfl | ⟨r, rfl⟩
  · rfl
  · exact lv_cons r (by decide)
theorem Tail.tkE {t g : Bs} {c : UInt8} (h : Tail t) (hc : c ≠ 44) : tk (c :: g) t = none := by
  rcases h with rfl | ⟨r, rfl⟩
  · exact tk_nil
  · exact tk_not hc
/-- a run, and what may stand behind it: no blank ahead -/
theorem lv_run {a t : Bs} (h : ∀ c ∈ a, isRun c = true) (ht : lv t = t) : lv (a ++ t) = a ++ t := by
  cases a with
  | nil => exact ht
  | cons c a => exact lv_cons _ (run_ne (h c (List.mem_cons_self ..))).1
theorem tk_run {a t g : Bs} {c : UInt8} (h : ∀ d ∈ a, isRun d = true) (hc : isRun c = false) (ht : tk (c :: g) t = none) : tk (c :: g) (a ++ t) = none := by
  cases a with
  | nil => exact ht
  | cons d a => exact tk_not (fun e => by have := h d (List.mem_cons_self ..); rw [← e, hc] at this; cases this)
theorem joinTail_cons (v : Bs) (vs : List Bs) : Lib.joinTail [44] (v :: vs) = 44 :: (v ++ Lib.joinTail [44] vs) := by simp [Lib.joinTail]
theorem joinTail_stop (vs : List Bs) (t : Bs) : Stop (Lib.joinTail [44] vs ++ 41 :: t) ∧ lv (Lib.joinTail [44] vs ++ 41 :: t) = Lib.joinTail [44] vs ++ 41 :: t := by
  cases vs with
  | nil => exact ⟨stop_cons (by decide), lv_cons _ (by decide)⟩
  | cons v vs =>
    rw [joinTail_cons]
    exact ⟨stop_cons (by decide), lv_cons _ (by decide)⟩
theorem moreV_join : ∀ (vs : List Bs) (n : Nat) (t : Bs), vs.length ≤ n → (∀ v ∈ vs, ∀ c ∈ v, isRun c = true) → moreV n (Lib.joinTail [44] vs ++ 41 :: t) = (vs, 41 :: t)
  | [], 0, t, _, _ => rfl
  | [], n + 1, t, _, _ => by
    rw [moreV]
    have : tk [44] (Lib.joinTail [44] ([] : List Bs) ++ 41 :: t) = none := tk_not (by decide)
    rw [this]
    rfl
  | v :: vs, 0, t, h, _ => absurd h (by simp)
  | v :: vs, n + 1, t, h, hr => by
    have hv := hr v (List.mem_cons_self ..)
    obtain ⟨hs, hl⟩ := joinTail_stop vs t
    rw [moreV, joinTail_cons, List.cons_append, tk_one, List.append_assoc, lv_run hv hl]
    simp only [rn_run hv hs, rr_run hv hs, hl]
    rw [moreV_join vs n t (by simpa using h) (fun u hu => hr u (List.mem_cons_of_mem _ hu))]
theorem valsP_join {N : Nat} {vs : List Bs} (t : Bs) (hn : vs.length ≤ N) (h0 : vs ≠ []) (hr : ∀ v ∈ vs, ∀ c ∈ v, isRun c = true) : valsP N (40 :: (Lib.join vs [44] ++ 41 :: t)) = some (vs, lv t) := by
  cases vs with
  | nil => exact absurd rfl h0
  | cons v vs =>
    have hv := hr v (List.mem_cons_self ..)
    obtain ⟨hs, hl⟩ := joinTail_stop vs t
    rw [valsP, tk_one, Lib.join_cons, List.append_assoc, lv_run hv hl]
    simp only [rn_run hv hs, rr_run hv hs, hl]
    rw [moreV_join vs N t (by simp at hn; omega) (fun u hu => hr u (List.mem_cons_of_mem _ hu))]
    simp only [tk_one]
/-- keys and values are runs -/
theorem ok_run {c : UInt8} (h : okB letter { data := #[45, 95, 46] } (c.toNat : Int) = true) : isRun c = true := by
  unfold okB at h
  unfold isRun
  rw [Bool.or_eq_true] at h ⊢
  rcases h with h | h
  · exact Or.inl h
  · refine Or.inr ?_
    rw [decide_eq_true_eq, u8_back, idx_signs] at h
    rcases h with rfl | rfl | rfl <;> decide
theorem word_run {s : ByteArray} (h : lastB s = true) : ∀ c ∈ s.data.toList, isRun c = true := by
  intro c hc
  obtain ⟨k, hk, rfl⟩ := List.getElem_of_mem hc
  have hk2 : k < s.size := by simpa using hk
  have := (lastB_iff.1 h).2.2.2.2 k hk2
  rw [byteI_of hk2] at this
  exact ok_run this
theorem vI_run {v : Bs} (h : vI v = 0) : ∀ c ∈ v, isRun c = true := by
  unfold vI valI at h
  split at h
  · omega
  · by_cases hv : valB ⟨v.toArray⟩ = true
    · unfold valB at hv
      rw [Bool.or_eq_true] at hv
      rcases hv with hv | hv
      · have h0 : v.length = 0 := by simpa [ByteArray.size] using hv
        rw [List.eq_nil_of_length_eq_zero h0]
        intro c hc
        cases hc
      · have := word_run hv
        simpa using this
    · rw [if_neg hv] at h
      omega
end Go.Proofs.YtgaopmdpcjcooaaGreatDoor
