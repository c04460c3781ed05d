/- Plain: what Solve and Implies answer, and that it is right. -/
import Derived.Test.YtgaopmdpcjcooaaGreatDoorQPlain
import Derived.Lib.SlicesCompact
import Derived.Lib.ItoaNum
namespace Go.Proofs.YtgaopmdpcjcooaaGreatDoor
set_option linter.unusedVariables false
set_option linter.unusedSimpArgs false
def leB (x y : Bs) : Bool := decide (x ≤ y)
theorem leB_iff (x y : Bs) : leB x y = true ↔ (x = y ∨ x < y) := by
  unfold leB
  rw [decide_eq_true_eq]
  constructor
  · intro h
    by_cases g : x < y
    · exact Or.inr g
    · exact Or.inl (List.le_antisymm h (List.not_lt.1 g))
  · rintro (rfl | h)
    · exact List.le_refl _
    · exact List.not_lt.1 (List.lt_asymm h)
theorem lt_trans' {x y z : Bs} (h : x < y) (g : y < z) : x < z := List.lt_trans h g
theorem leB_trans {x y z : Bs} (h : leB x y = true) (g : leB y z = true) : leB x z = true := by
  rw [leB_iff] at *
  rcases h with rfl | h
  · exact g
  · rcases g with rfl | g
    · exact Or.inr h
    · exact Or.inr (lt_trans' h g)
theorem leB_total (x y : Bs) : (leB x y || leB y x) = true := by
  unfold leB
  rcases List.le_total x y with h | h <;> simp [h]
def sortB (l : List Bs) : List Bs := l.mergeSort leB
theorem sortB_rise (l : List Bs) : (sortB l).Pairwise fun x y => leB x y = true := List.pairwise_mergeSort (le := leB) (fun a b c h g => leB_trans h g) leB_total l
theorem sortB_mem (l : List Bs) (s : Bs) : s ∈ sortB l ↔ s ∈ l := by
  unfold sortB
  rw [List.mem_mergeSort]
theorem sortB_len (l : List Bs) : (sortB l).length = l.length := by unfold sortB; simp
theorem comp_at {zs : List Bs} {k : Nat} (h : k < zs.length) : zs.toArray[k]! = zs[k] := by simp [h]
theorem comp_mem (zs : List Bs) (s : Bs) : s ∈ Lib.compact zs ↔ s ∈ zs := by
  unfold Lib.compact Lib.compactUpTo
  constructor
  · intro h
    obtain ⟨k, hk, rfl⟩ := List.mem_map.1 h
    have hk2 := List.mem_range.1 (List.mem_filter.1 hk).1
    rw [comp_at hk2]
    exact List.getElem_mem hk2
  · intro h
    obtain ⟨k, hk, rfl⟩ := List.getElem_of_mem h
    have : ∀ k (hk : k < zs.length), ∃ j, j < zs.length ∧ Lib.keeps zs.toArray j = true ∧ zs.toArray[j]! = zs[k] := by
      intro k
      induction k with
      | zero => intro hk; exact ⟨0, hk, by simp [Lib.keeps], comp_at hk⟩
      | succ k ih =>
        intro hk
        by_cases e : zs.toArray[k + 1]! = zs.toArray[k + 1 - 1]!
        · obtain ⟨j, h1, h2, h3⟩ := ih (by omega)
          refine ⟨j, h1, h2, ?_⟩
          rw [h3, ← comp_at (zs := zs) (k := k) (by omega), ← comp_at hk]
          exact e.symm
        · exact ⟨k + 1, hk, Lib.keeps_pos e, comp_at hk⟩
    obtain ⟨j, h1, h2, h3⟩ := this k hk
    exact List.mem_map.2 ⟨j, List.mem_filter.2 ⟨List.mem_range.2 h1, h2⟩, h3⟩
theorem comp_rise {zs : List Bs} (h : zs.Pairwise fun x y => leB x y = true) : (Lib.compact zs).Pairwise fun x y => x < y := by
  have hp := List.pairwise_iff_getElem.1 h
  unfold Lib.compact Lib.compactUpTo
  rw [List.pairwise_map]
  refine List.Pairwise.imp_of_mem ?_ ((List.pairwise_lt_range (n := zs.length)).filter _)
  intro i j hi hj hij
  have hi2 := List.mem_range.1 (List.mem_filter.1 hi).1
  have hj2 := List.mem_range.1 (List.mem_filter.1 hj).1
  have hk := (List.mem_filter.1 hj).2
  obtain ⟨m, rfl⟩ : ∃ m, j = m + 1 := ⟨j - 1, by omega⟩
  have hne : zs[m] ≠ zs[m + 1] := by
    intro e
    rw [Lib.keeps_neg (by omega) (by rw [comp_at hj2, Nat.add_sub_cancel, comp_at (by omega)]; exact e.symm)] at hk
    cases hk
  have h1 : zs[m] < zs[m + 1] := by
    rcases (leB_iff _ _).1 (hp m (m + 1) (by omega) hj2 (by omega)) with e | h
    · exact absurd e hne
    · exact h
  rw [comp_at hi2, comp_at hj2]
  by_cases e : i = m
  · subst e; exact h1
  · rcases (leB_iff _ _).1 (hp i m hi2 (by omega) (by omega)) with e | h
    · rw [e]; exact h1
    · exact lt_trans' h h1
/-- the keys of which l speaks, rising, each once -/
def keysP (l : List Rq) : List Bs := Lib.compact (sortB (l.map (·.1)))
theorem keysP_rise (l : List Rq) : (keysP l).Pairwise fun x y => x < y := comp_rise (sortB_rise _)
theorem keysP_mem (l : List Rq) (s : Bs) : s ∈ keysP l ↔ ∃ r ∈ l, r.1 = s := by
  unfold keysP
  rw [comp_mem, sortB_mem, List.mem_map]
theorem keysP_len (l : List Rq) : (keysP l).length ≤ l.length := by
  unfold keysP
  have h : (Lib.compact (sortB (l.map (·.1)))).length ≤ (sortB (l.map (·.1))).length := by
    unfold Lib.compact Lib.compactUpTo
    rw [List.length_map]
    exact Nat.le_trans (List.length_filter_le _ _) (by simp)
  rw [sortB_len, List.length_map] at h
  exact h
def aboutP (l : List Rq) (key : Bs) : List Rq := l.filter fun r => decide (r.1 = key)
def allH (ab : List Rq) (o : Option Bs) : Bool := ab.all fun r => holdsB r o
/-- a number below 100, in decimal -/
def dig2 (i : Nat) : Bs := if i < 10 then [UInt8.ofNat (48 + i)] else [UInt8.ofNat (48 + i / 10), UInt8.ofNat (48 + i % 10)]
theorem dig2_eq {i : Nat} (h : i < 100) : Lib.decDigits i = dig2 i := by
  unfold dig2
  by_cases h1 : i < 10
  · rw [if_pos h1, Lib.decDigits_one h1]
  · rw [if_neg h1, Lib.decDigits_two h1 h]
def madeP (n : Nat) : List Bs := [] :: (List.range n).map dig2
def barredP (ab : List Rq) : Nat := (ab.map fun r => r.2.2.length).sum
def choicesP (ab : List Rq) : List Bs :=
  match ab.find? fun r => decide (r.2.1 = 1) with
  | some r => sortB r.2.2
  | none => madeP (barredP ab)
def firstP (vals : List Bs) (ab : List Rq) : Option Bs := vals.find? fun v => allH ab (some v)
def solveK (l : List Rq) : List Bs → Option (List Lb)
  | [] => some []
  | key :: ks => if allH (aboutP l key) none = true then solveK l ks else
    match firstP (choicesP (aboutP l key)) (aboutP l key) with
    | none => none
    | some v => (solveK l ks).map ((key, v) :: ·)
def solveP (l : List Rq) : Option (List Lb) := solveK l (keysP l)
theorem state_cons (x : Lb) (ls : List Lb) (key : Bs) : stateB (x :: ls) key = if x.1 = key then some x.2 else stateB ls key := by
  unfold stateB
  by_cases h : x.1 = key
  · rw [List.find?_cons_of_pos (by simpa using h), if_pos h]; rfl
  · rw [List.find?_cons_of_neg (by simpa using h), if_neg h]
theorem state_not {ls : List Lb} {key : Bs} (h : ∀ x ∈ ls, x.1 ≠ key) : stateB ls key = none := by
  unfold stateB
  rw [Option.map_eq_none_iff, List.find?_eq_none]
  intro x hx
  simpa using h x hx
theorem solveK_facts (l : List Rq) : ∀ (ks : List Bs) (ls : List Lb), ks.Pairwise (fun x y => x < y) → solveK l ks = some ls →
    (ls.map (·.1)).Sublist ks ∧ (∀ key ∈ ks, allH (aboutP l key) (stateB ls key) = true) ∧ ∀ x ∈ ls, x.2 ∈ choicesP (aboutP l x.1)
  | [], ls, _, h => by
    simp only [solveK, Option.some.injEq] at h
    subst h
    exact ⟨List.Sublist.refl _, (fun key hk => by cases hk), (fun x hx => by cases hx)⟩
  | key :: ks, ls, hp, h => by
    obtain ⟨hlt, hp2⟩ := List.pairwise_cons.1 hp
    rw [solveK] at h
    by_cases hn : allH (aboutP l key) none = true
    · rw [if_pos hn] at h
      obtain ⟨h1, h2, h3⟩ := solveK_facts l ks ls hp2 h
      refine ⟨h1.cons _, fun k hk => ?_, h3⟩
      rcases List.mem_cons.1 hk with rfl | hk
      · rw [state_not (fun x hx e => ?_)]
        · exact hn
        · have := hlt _ (h1.subset (List.mem_map_of_mem hx))
          rw [e] at this
          exact List.lt_irrefl _ this
      · exact h2 k hk
    · rw [if_neg hn] at h
      cases hf : firstP (choicesP (aboutP l key)) (aboutP l key) with
      | none => rw [hf] at h; cases h
      | some v =>
        rw [hf] at h
        obtain ⟨ls', h', rfl⟩ := Option.map_eq_some_iff.1 h
        obtain ⟨h1, h2, h3⟩ := solveK_facts l ks ls' hp2 h'
        have hv : allH (aboutP l key) (some v) = true := List.find?_some (p := fun v => allH (aboutP l key) (some v)) hf
        refine ⟨by simpa using h1.cons_cons key, fun k hk => ?_, fun x hx => ?_⟩
        · rw [state_cons]
          rcases List.mem_cons.1 hk with rfl | hk
          · rw [if_pos rfl]; exact hv
          · have := hlt _ hk
            rw [if_neg (fun e => by rw [show key = k from e] at this; exact List.lt_irrefl _ this)]
            exact h2 k hk
        · rcases List.mem_cons.1 hx with rfl | hx
          · exact List.mem_of_find?_eq_some hf
          · exact h3 x hx
theorem match_of_keys {l : List Rq} {ls : List Lb} (h : ∀ key ∈ keysP l, allH (aboutP l key) (stateB ls key) = true) : matchB l ls = true := by
  unfold matchB
  rw [List.all_eq_true]
  intro r hr
  have := h r.1 ((keysP_mem l r.1).2 ⟨r, hr, rfl⟩)
  unfold allH at this
  rw [List.all_eq_true] at this
  exact this r (List.mem_filter.2 ⟨hr, by simp⟩)
theorem keys_of_match {l : List Rq} {ls : List Lb} (h : matchB l ls = true) (key : Bs) : allH (aboutP l key) (stateB ls key) = true := by
  unfold matchB at h
  rw [List.all_eq_true] at h
  unfold allH
  rw [List.all_eq_true]
  intro r hr
  obtain ⟨h1, h2⟩ := List.mem_filter.1 hr
  have h2 : r.1 = key := by simpa using h2
  rw [← h2]
  exact h r h1
theorem solve_match {l : List Rq} {ls : List Lb} (h : solveP l = some ls) : matchB l ls = true := match_of_keys (solveK_facts l _ ls (keysP_rise l) h).2.1
theorem labsI_zero : ∀ (ls : List Lb) (p : Option Bs), (∀ x ∈ ls, kI x.1 = 0 ∧ vI x.2 = 0) → (ls.map (·.1)).Pairwise (fun x y => x < y) → (∀ q, p = some q → ∀ x ∈ ls, q < x.1) → labsI ls p = 0
  | [], _, _, _, _ => rfl
  | x :: r, p, h, hp, hq => by
    obtain ⟨h1, h2⟩ := h x (List.mem_cons_self ..)
    rw [List.map_cons] at hp
    obtain ⟨g1, g2⟩ := List.pairwise_cons.1 hp
    have ha : above p x.1 = true := by
      cases p with
      | none => rfl
      | some q => exact (bless_iff _ _).2 (hq q rfl x (List.mem_cons_self ..))
    rw [labsI, if_neg (by simp [h1]), if_neg (by simp [h2]), if_neg (by simp [ha])]
    refine labsI_zero r _ (fun y hy => h y (List.mem_cons_of_mem _ hy)) g2 (fun q e y hy => ?_)
    cases e
    exact g1 _ (List.mem_map_of_mem hy)
theorem vI_nil : vI [] = 0 := by decide
theorem vI_dig : ∀ i : Fin 100, vI (dig2 i.val) = 0 := by decide +kernel
theorem barred_le {ab : List Rq} (h : ∀ r ∈ ab, r.2.2.length ≤ 8) : barredP ab ≤ 8 * ab.length := by
  unfold barredP
  induction ab with
  | nil => simp
  | cons r t ih =>
    have h1 := h r (List.mem_cons_self ..)
    have h2 := ih (fun x hx => h x (List.mem_cons_of_mem _ hx))
    simp only [List.map_cons, List.sum_cons, List.length_cons]
    omega
theorem about_len (l : List Rq) (key : Bs) : (aboutP l key).length ≤ l.length := List.length_filter_le _ _
/-- the parts of which solve may be asked -/
def Fine (l : List Rq) : Prop := l.length ≤ 9 ∧ ∀ r ∈ l, partI r = 0
theorem fine_barred {l : List Rq} (h : Fine l) (key : Bs) : barredP (aboutP l key) ≤ 72 := by
  have h1 := barred_le (ab := aboutP l key) (fun r hr => (part_ok.1 (h.2 r (List.mem_filter.1 hr).1)).2.2.1)
  have h2 := about_len l key
  have h3 := h.1
  omega
theorem choices_fine {l : List Rq} (h : Fine l) (key : Bs) : ∀ v ∈ choicesP (aboutP l key), vI v = 0 := by
  intro v hv
  unfold choicesP at hv
  cases hf : (aboutP l key).find? fun r => decide (r.2.1 = 1) with
  | some r =>
    rw [hf] at hv
    have hr := (List.mem_filter.1 (List.mem_of_find?_eq_some hf)).1
    exact (part_ok.1 (h.2 r hr)).2.2.2 v ((sortB_mem _ _).1 hv)
  | none =>
    rw [hf] at hv
    rcases List.mem_cons.1 hv with rfl | hv
    · exact vI_nil
    · obtain ⟨i, hi, rfl⟩ := List.mem_map.1 hv
      have := List.mem_range.1 hi
      have := fine_barred h key
      exact vI_dig ⟨i, by omega⟩
theorem solve_labels {l : List Rq} {ls : List Lb} (hl : Fine l) (h : solveP l = some ls) : labelsI ls = 0 := by
  obtain ⟨h1, _, h3⟩ := solveK_facts l _ ls (keysP_rise l) h
  have hlen : ls.length ≤ 10 := by
    have a := h1.length_le
    rw [List.length_map] at a
    have b := keysP_len l
    have c := hl.1
    omega
  unfold labelsI
  rw [if_neg (by omega)]
  refine labsI_zero ls none (fun x hx => ⟨?_, choices_fine hl _ _ (h3 x hx)⟩) ((keysP_rise l).sublist h1) (fun q e => by cases e)
  obtain ⟨r, hr, e⟩ := (keysP_mem l x.1).1 (h1.subset (List.mem_map_of_mem hx))
  rw [← e]
  exact (part_ok.1 (hl.2 r hr)).1
theorem pigeon : ∀ (l m : List Bs), l.Nodup → m.length < l.length → ∃ x ∈ l, x ∉ m
  | [], m, _, h => by simp at h
  | x :: l, m, hn, h => by
    obtain ⟨h1, h2⟩ := List.nodup_cons.1 hn
    by_cases hx : x ∈ m
    · have hl : (m.erase x).length < l.length := by
        rw [List.length_erase_of_mem hx]
        have : 0 < m.length := List.length_pos_of_mem hx
        simp only [List.length_cons] at h
        omega
      obtain ⟨y, hy, hny⟩ := pigeon l (m.erase x) h2 hl
      refine ⟨y, List.mem_cons_of_mem _ hy, fun hm => hny ?_⟩
      exact (List.mem_erase_of_ne (fun e => h1 (by rw [← e]; exact hy))).2 hm
    · exact ⟨x, List.mem_cons_self .., hx⟩
theorem dig_inj : ∀ i j : Fin 100, dig2 i.val = dig2 j.val → i = j := by decide +kernel
theorem dig_ne (i : Nat) : dig2 i ≠ [] := by
  unfold dig2
  split <;> simp
theorem made_nodup {n : Nat} (h : n ≤ 100) : (madeP n).Nodup := by
  unfold madeP
  refine List.nodup_cons.2 ⟨fun hm => ?_, ?_⟩
  · obtain ⟨i, _, e⟩ := List.mem_map.1 hm
    exact dig_ne i e
  · unfold List.Nodup
    rw [List.pairwise_map]
    refine List.Pairwise.imp_of_mem ?_ (List.pairwise_lt_range (n := n))
    intro i j hi hj hij e
    have hi := List.mem_range.1 hi
    have hj := List.mem_range.1 hj
    have := dig_inj ⟨i, by omega⟩ ⟨j, by omega⟩ e
    injection this with this
    omega
theorem choices_full {l : List Rq} (hl : Fine l) (key : Bs) (hf : firstP (choicesP (aboutP l key)) (aboutP l key) = none) (v : Bs) : allH (aboutP l key) (some v) = false := by
  rw [← Bool.not_eq_true]
  intro hv
  unfold firstP at hf
  rw [List.find?_eq_none] at hf
  unfold choicesP at hf
  have hall := hv
  unfold allH at hall
  rw [List.all_eq_true] at hall
  cases h1 : (aboutP l key).find? fun r => decide (r.2.1 = 1) with
  | some r =>
    rw [h1] at hf
    have hk : r.2.1 = 1 := by simpa using List.find?_some h1
    have := hall r (List.mem_of_find?_eq_some h1)
    unfold holdsB at this
    rw [if_pos hk] at this
    have hm : v ∈ r.2.2 := by simpa using this
    exact hf v ((sortB_mem _ _).2 hm) hv
  | none =>
    rw [h1] at hf
    rw [List.find?_eq_none] at h1
    have hb := fine_barred hl key
    obtain ⟨c, hc, hn⟩ := pigeon (madeP (barredP (aboutP l key))) ((aboutP l key).flatMap fun r => r.2.2) (made_nodup (by omega)) (by
      rw [List.length_flatMap]
      unfold madeP barredP
      simp)
    refine hf c hc ?_
    unfold allH
    rw [List.all_eq_true]
    intro r hr
    have hr1 : ¬ r.2.1 = 1 := by simpa using h1 r hr
    have hr2 := hall r hr
    unfold holdsB at hr2 ⊢
    rw [if_neg hr1] at hr2 ⊢
    by_cases h2 : r.2.1 = 2
    · rw [if_pos h2]
      have : c ∉ r.2.2 := fun hm => hn (List.mem_flatMap.2 ⟨r, hr, hm⟩)
      simpa using this
    · rw [if_neg h2] at hr2 ⊢
      by_cases h3 : r.2.1 = 3
      · rw [if_pos h3]; rfl
      · rw [if_neg h3] at hr2
        simp at hr2
theorem solveK_none (l : List Rq) : ∀ ks : List Bs, solveK l ks = none → ∃ key, allH (aboutP l key) none = false ∧ firstP (choicesP (aboutP l key)) (aboutP l key) = none
  | [], h => by cases h
  | key :: ks, h => by
    rw [solveK] at h
    by_cases hn : allH (aboutP l key) none = true
    · rw [if_pos hn] at h
      exact solveK_none l ks h
    · rw [if_neg hn] at h
      cases hf : firstP (choicesP (aboutP l key)) (aboutP l key) with
      | none => exact ⟨key, by simpa using hn, hf⟩
      | some v =>
        rw [hf] at h
        exact solveK_none l ks (Option.map_eq_none_iff.1 h)
theorem solve_none {l : List Rq} (hl : Fine l) (h : solveP l = none) (ls : List Lb) : matchB l ls = false := by
  obtain ⟨key, h1, h2⟩ := solveK_none l _ h
  rw [← Bool.not_eq_true]
  intro hm
  have := keys_of_match hm key
  cases hs : stateB ls key with
  | none => rw [hs, h1] at this; cases this
  | some v => rw [hs, choices_full hl key h2 v] at this; cases this
/-- what Implies answers -/
def impliesP (l m : List Rq) : Bool × List Lb :=
  match m.findSome? fun r => solveP (l ++ [oppR r]) with
  | some ls => (false, ls)
  | none => (true, [])
theorem fine_of_chk {l : List Rq} (h : chkI l = 0) : Fine l := by
  obtain ⟨a, b⟩ := chk_ok.1 h
  exact ⟨by omega, b⟩
theorem fine_opp {l m : List Rq} (h : chkI l = 0) (g : chkI m = 0) {r : Rq} (hr : r ∈ m) : Fine (l ++ [oppR r]) := by
  obtain ⟨a, b⟩ := chk_ok.1 h
  refine ⟨by simp; omega, fun x hx => ?_⟩
  rcases List.mem_append.1 hx with hx | hx
  · exact b x hx
  · simp only [List.mem_singleton] at hx
    rw [hx, part_opp]
    exact (chk_ok.1 g).2 r hr
theorem holds_opp_of {m : List Rq} (g : chkI m = 0) {r : Rq} (hr : r ∈ m) (o : Option Bs) : holdsB (oppR r) o = !holdsB r o :=
  holds_opp (fits_kind (part_ok.1 ((chk_ok.1 g).2 r hr)).2.1) o
theorem match_append (l m : List Rq) (ls : List Lb) : matchB (l ++ m) ls = (matchB l ls && matchB m ls) := by simp [matchB]
theorem implies_false {l m : List Rq} {ls : List Lb} (h : chkI l = 0) (g : chkI m = 0) (hi : impliesP l m = (false, ls)) : labelsI ls = 0 ∧ matchB l ls = true ∧ matchB m ls = false := by
  unfold impliesP at hi
  cases hf : m.findSome? fun r => solveP (l ++ [oppR r]) with
  | none => rw [hf] at hi; cases hi
  | some xs =>
    rw [hf] at hi
    cases hi
    obtain ⟨r, hr, hs⟩ := List.exists_of_findSome?_eq_some hf
    have h1 := solve_match hs
    rw [match_append, Bool.and_eq_true, match_one, holds_opp_of g hr] at h1
    refine ⟨solve_labels (fine_opp h g hr) hs, h1.1, ?_⟩
    rw [← Bool.not_eq_true]
    intro hm
    unfold matchB at hm
    rw [List.all_eq_true] at hm
    have := hm r hr
    rw [show (oppR r).1 = r.1 from rfl, this] at h1
    exact absurd h1.2 (by simp)
theorem implies_true {l m : List Rq} (h : chkI l = 0) (g : chkI m = 0) (hi : (impliesP l m).1 = true) (ls : List Lb) (hm : matchB l ls = true) : matchB m ls = true := by
  unfold impliesP at hi
  cases hf : m.findSome? fun r => solveP (l ++ [oppR r]) with
  | some xs => rw [hf] at hi; cases hi
  | none =>
    rw [List.findSome?_eq_none_iff] at hf
    unfold matchB
    rw [List.all_eq_true]
    intro r hr
    have := solve_none (fine_opp h g hr) (hf r hr) ls
    rw [match_append, hm, Bool.true_and, match_one, holds_opp_of g hr, show (oppR r).1 = r.1 from rfl] at this
    simpa using this
theorem implies_iff {l m : List Rq} (h : chkI l = 0) (g : chkI m = 0) : (impliesP l m).1 = true ↔ ∀ ls, matchB l ls = true → matchB m ls = true := by
  constructor
  · exact fun hi ls hm => implies_true h g hi ls hm
  · intro ha
    cases hx : impliesP l m with
    | mk a ls =>
      cases a with
      | true => rfl
      | false =>
        obtain ⟨_, h1, h2⟩ := implies_false h g hx
        rw [ha ls h1] at h2
        cases h2
end Go.Proofs.YtgaopmdpcjcooaaGreatDoor
