/- Plain: a key is a run of bytes that is not empty; what Print tells is read as it was. -/
import Derived.Test.YtgaopmdpcjcooaaGreatDoorQParseP
namespace Go.Proofs.YtgaopmdpcjcooaaGreatDoor
set_option linter.unusedVariables false
set_option linter.unusedSimpArgs false
theorem index_parts {s : Bs} {d : UInt8} (h : ¬ Lib.index s [d] = -1) : ∃ i : Nat, Lib.index s [d] = i ∧ s = s.take i ++ d :: s.drop (i + 1) := by
  rcases Lib.index_spec s [d] with h1 | ⟨i, h1, h2, h3, _⟩
  · exact absurd h1.1 h
  · refine ⟨i, h1, ?_⟩
    have h4 := Lib.occAt_head rfl h3
    obtain ⟨hl, he⟩ := List.getElem?_eq_some_iff.1 h4
    have := List.take_append_drop i s
    rw [List.drop_eq_getElem_cons hl, he] at this
    exact this.symm
theorem splitK_mem {d : UInt8} : ∀ (k : Nat) (s : Bs) (c : UInt8), c ∈ s → c = d ∨ ∃ x ∈ Lib.splitK [d] 0 k s, c ∈ x
  | 0, s, c, h => Or.inr ⟨s, by simp [Lib.splitK], h⟩
  | k + 1, s, c, h => by
    unfold Lib.splitK
    by_cases hi : Lib.index s [d] = -1
    · rw [if_pos (beq_iff_eq.2 hi)]
      exact Or.inr ⟨s, by simp, h⟩
    · rw [if_neg (fun e => hi (beq_iff_eq.1 e))]
      obtain ⟨i, h1, h2⟩ := index_parts hi
      rw [h1]
      have e0 : ((i : Int).toNat + 0) = i := by omega
      have e1 : ((i : Int).toNat + ([d] : Bs).length) = i + 1 := by simp
      rw [e0, e1]
      rw [h2] at h
      rcases List.mem_append.1 h with h | h
      · exact Or.inr ⟨s.take i, List.mem_cons_self .., h⟩
      · rcases List.mem_cons.1 h with h | h
        · exact Or.inl h
        · rcases splitK_mem k _ c h with h | ⟨x, hx, hc⟩
          · exact Or.inl h
          · exact Or.inr ⟨x, List.mem_cons_of_mem _ hx, hc⟩
theorem names_run {a : ByteArray} (h : namesB a = true) : ∀ c ∈ a.data.toList, isRun c = true := by
  intro c hc
  unfold namesB partsB at h
  rw [List.all_eq_true] at h
  rcases splitK_mem (d := 46) (Lib.countB a { data := #[46] }) a.data.toList c hc with rfl | ⟨x, hx, hcx⟩
  · decide
  · have h2 := Lib.splitB_data { data := #[46] } 0 (Lib.countB a { data := #[46] }) a
    have h3 : x ∈ (Lib.splitB { data := #[46] } 0 (Lib.countB a { data := #[46] }) a).map (·.data.toList) := by rw [h2]; exact hx
    obtain ⟨y, hy, rfl⟩ := List.mem_map.1 h3
    exact word_run (name_last (h y hy)) c hcx
theorem key_run {s : ByteArray} (h : keyB s = true) : s.data.toList ≠ [] ∧ ∀ c ∈ s.data.toList, isRun c = true := by
  by_cases hi : Lib.index s.data.toList [47] = -1
  · have hc : Lib.cut s.data.toList [47] = (s.data.toList, [], false) := by
      unfold Lib.cut
      rw [hi, if_neg (by omega)]
    rw [key_one (by rw [hc])] at h
    refine ⟨fun e => ?_, word_run h⟩
    have h1 := (lastB_iff.1 h).1
    have h2 : s.data.toList.length = 0 := by rw [e]; rfl
    have h3 : s.size = s.data.toList.length := rfl
    omega
  · obtain ⟨i, h1, h2⟩ := index_parts hi
    have hc : Lib.cut s.data.toList [47] = (s.data.toList.take i, s.data.toList.drop (i + 1), true) := by
      unfold Lib.cut
      rw [h1, if_pos (by omega)]
      simp
    refine ⟨fun e => by rw [e] at h2; simp at h2, ?_⟩
    rw [key_two (a := ⟨(s.data.toList.take i).toArray⟩) (b := ⟨(s.data.toList.drop (i + 1)).toArray⟩) (by rw [hc]), Bool.and_eq_true] at h
    intro c hm
    rw [h2] at hm
    rcases List.mem_append.1 hm with hm | hm
    · exact names_run h.1 c (by simpa using hm)
    · rcases List.mem_cons.1 hm with rfl | hm
      · decide
      · exact word_run h.2 c (by simpa using hm)
theorem kI_run {s : Bs} (h : kI s = 0) : s ≠ [] ∧ ∀ c ∈ s, isRun c = true := by
  unfold kI keyI at h
  split at h
  · omega
  · by_cases hk : keyB ⟨s.toArray⟩ = true
    · have := key_run hk
      simpa using this
    · rw [if_neg hk] at h
      omega
theorem in_run : ∀ c ∈ ([105, 110] : Bs), isRun c = true := by decide
theorem notin_run : ∀ c ∈ ([110, 111, 116, 105, 110] : Bs), isRun c = true := by decide
/-- values in brackets behind a word -/
theorem word_in {N : Nat} {key wd t : Bs} {vs : List Bs} (hw : ∀ c ∈ wd, isRun c = true) (hn : vs.length ≤ N) (h0 : vs ≠ []) (hr : ∀ v ∈ vs, ∀ c ∈ v, isRun c = true) (ht : Tail t) :
    rn (wd ++ (32 :: 40 :: (Lib.join vs [44] ++ 41 :: t))) = wd ∧ valsP N (rr (wd ++ (32 :: 40 :: (Lib.join vs [44] ++ 41 :: t)))) = some (vs, t) := by
  have hs : Stop (32 :: 40 :: (Lib.join vs [44] ++ 41 :: t)) := stop_cons (by decide)
  refine ⟨rn_run hw hs, ?_⟩
  rw [rr_run hw hs]
  have : lv (32 :: 40 :: (Lib.join vs [44] ++ 41 :: t)) = 40 :: (Lib.join vs [44] ++ 41 :: t) := rfl
  rw [this, valsP_join t hn h0 hr, ht.lvE]
theorem not_here {key s : Bs} {N : Nat} (h : key ≠ []) : notP N key s = wordP N key s := by
  unfold notP
  rw [if_neg h]
theorem part_tell {N : Nat} {r : Rq} {t : Bs} (h : partI r = 0) (hN : 8 ≤ N) (ht : Tail t) : partP N (tellP r ++ t) = some (r, t) := by
  obtain ⟨h1, h2, h3, h4⟩ := part_ok.1 h
  obtain ⟨k0, kr⟩ := kI_run h1
  have hk := fits_kind h2
  obtain ⟨key, kd, vs⟩ := r
  simp only at h1 h2 h3 h4 k0 kr hk
  have hv : ∀ v ∈ vs, ∀ c ∈ v, isRun c = true := fun v hv => vI_run (h4 v hv)
  have h61 : ∀ x : Bs, Stop (61 :: x) := fun x => stop_cons (by decide)
  have h33 : ∀ x : Bs, Stop (33 :: x) := fun x => stop_cons (by decide)
  have h32 : ∀ x : Bs, Stop (32 :: x) := fun x => stop_cons (by decide)
  rcases hk with rfl | rfl | rfl | rfl
  · have hl : 0 < vs.length := by simpa [fitsB] using h2
    by_cases hl1 : vs.length = 1
    · have hv0 := hv vs[0] (List.getElem_mem _)
      have he : vs = [vs[0]] := by
        match vs, hl1 with
        | [x], _ => rfl
      have e : tellP (key, 1, vs) ++ t = key ++ (61 :: (vs[0] ++ t) : Bs) := by
        simp [tellP, tellV_one hl1 hl]
      rw [e]
      unfold partP
      rw [rn_run kr (h61 _), rr_run kr (h61 _), lv_cons _ (by decide)]
      have n1 : tk [61, 61] (61 :: (vs[0] ++ t)) = none := by
        have : tk [61] (vs[0] ++ t) = none := tk_run hv0 (by decide) (ht.tkE (by decide))
        unfold tk at this ⊢
        by_cases hp : ([61] : Bs).isPrefixOf (vs[0] ++ t) = true
        · rw [if_pos hp] at this; cases this
        · rw [if_neg]
          intro h'
          rw [List.isPrefixOf_cons_cons] at h'
          exact hp (by simpa using h')
      rw [n1, tk_one, lv_run hv0 ht.lvE]
      simp only [rn_run hv0 ht.stop, rr_run hv0 ht.stop, ht.lvE]
      rw [← he]
    · have e : tellP (key, 1, vs) ++ t = key ++ (32 :: ([105, 110] ++ (32 :: 40 :: (Lib.join vs [44] ++ 41 :: t)))) := by
        simp [tellP, tellV_more hl1]
      obtain ⟨w1, w2⟩ := word_in (N := N) (key := key) in_run (vs := vs) (t := t) (by omega) (by rintro rfl; simp at hl) hv ht
      rw [e]
      unfold partP
      rw [rn_run kr (h32 _), rr_run kr (h32 _)]
      have l1 : lv (32 :: ([105, 110] ++ (32 :: 40 :: (Lib.join vs [44] ++ 41 :: t)))) = [105, 110] ++ (32 :: 40 :: (Lib.join vs [44] ++ 41 :: t)) := rfl
      rw [l1]
      have q1 : tk [61, 61] ([105, 110] ++ (32 :: 40 :: (Lib.join vs [44] ++ 41 :: t))) = none := tk_not (by decide)
      have q2 : tk [61] ([105, 110] ++ (32 :: 40 :: (Lib.join vs [44] ++ 41 :: t))) = none := tk_not (by decide)
      have q3 : tk [33, 61] ([105, 110] ++ (32 :: 40 :: (Lib.join vs [44] ++ 41 :: t))) = none := tk_not (by decide)
      rw [q1, q2, q3]
      simp only [not_here k0]
      unfold wordP
      rw [w1, w2]
      rfl
  · have hl : 0 < vs.length := by simpa [fitsB] using h2
    by_cases hl1 : vs.length = 1
    · have hv0 := hv vs[0] (List.getElem_mem _)
      have he : vs = [vs[0]] := by
        match vs, hl1 with
        | [x], _ => rfl
      have e : tellP (key, 2, vs) ++ t = key ++ (33 :: 61 :: (vs[0] ++ t) : Bs) := by
        simp [tellP, tellV_one hl1 hl]
      rw [e]
      unfold partP
      rw [rn_run kr (h33 _), rr_run kr (h33 _), lv_cons _ (by decide)]
      have q1 : tk [61, 61] (33 :: 61 :: (vs[0] ++ t)) = none := tk_not (by decide)
      have q2 : tk [61] (33 :: 61 :: (vs[0] ++ t)) = none := tk_not (by decide)
      rw [q1, q2, tk_two, lv_run hv0 ht.lvE]
      simp only [rn_run hv0 ht.stop, rr_run hv0 ht.stop, ht.lvE]
      rw [← he]
    · have e : tellP (key, 2, vs) ++ t = key ++ (32 :: ([110, 111, 116, 105, 110] ++ (32 :: 40 :: (Lib.join vs [44] ++ 41 :: t)))) := by
        simp [tellP, tellV_more hl1]
      obtain ⟨w1, w2⟩ := word_in (N := N) (key := key) notin_run (vs := vs) (t := t) (by omega) (by rintro rfl; simp at hl) hv ht
      rw [e]
      unfold partP
      rw [rn_run kr (h32 _), rr_run kr (h32 _)]
      have l1 : lv (32 :: ([110, 111, 116, 105, 110] ++ (32 :: 40 :: (Lib.join vs [44] ++ 41 :: t)))) = [110, 111, 116, 105, 110] ++ (32 :: 40 :: (Lib.join vs [44] ++ 41 :: t)) := rfl
      rw [l1]
      have q1 : tk [61, 61] ([110, 111, 116, 105, 110] ++ (32 :: 40 :: (Lib.join vs [44] ++ 41 :: t))) = none := tk_not (by decide)
      have q2 : tk [61] ([110, 111, 116, 105, 110] ++ (32 :: 40 :: (Lib.join vs [44] ++ 41 :: t))) = none := tk_not (by decide)
      have q3 : tk [33, 61] ([110, 111, 116, 105, 110] ++ (32 :: 40 :: (Lib.join vs [44] ++ 41 :: t))) = none := tk_not (by decide)
      rw [q1, q2, q3]
      simp only [not_here k0]
      unfold wordP
      rw [w1, w2, if_neg (by simp), if_neg (by simp), if_pos rfl]
      rfl
  · have hl : vs = [] := by
      have : vs.length = 0 := by simpa [fitsB] using h2
      exact List.eq_nil_of_length_eq_zero this
    subst hl
    have e : tellP (key, 3, []) ++ t = key ++ t := by simp [tellP]
    rw [e]
    unfold partP
    rw [rn_run kr ht.stop, rr_run kr ht.stop, ht.lvE, ht.tkE (by decide), ht.tkE (by decide), ht.tkE (by decide)]
    simp only [not_here k0]
    unfold wordP
    have r1 : rn t = [] := by
      have := rn_run (a := []) (t := t) (by simp) ht.stop
      exact this
    have r2 : rr t = t := by
      have := rr_run (a := []) (t := t) (by simp) ht.stop
      rw [ht.lvE] at this
      exact this
    rw [r1, if_pos rfl, r2]
  · have hl : vs = [] := by
      have : vs.length = 0 := by simpa [fitsB] using h2
      exact List.eq_nil_of_length_eq_zero this
    subst hl
    have e : tellP (key, 4, []) ++ t = [] ++ 33 :: (key ++ t) := by simp [tellP]
    rw [e]
    unfold partP
    rw [rn_run (a := []) (by simp) (h33 _), rr_run (a := []) (by simp) (h33 _), lv_cons _ (by decide)]
    have q1 : tk [61, 61] (33 :: (key ++ t)) = none := tk_not (by decide)
    have q2 : tk [61] (33 :: (key ++ t)) = none := tk_not (by decide)
    have q3 : tk [33, 61] (33 :: (key ++ t)) = none := by
      have : tk [61] (key ++ t) = none := tk_run kr (by decide) (ht.tkE (by decide))
      unfold tk at this ⊢
      by_cases hp : ([61] : Bs).isPrefixOf (key ++ t) = true
      · rw [if_pos hp] at this; cases this
      · rw [if_neg]
        intro h'
        rw [List.isPrefixOf_cons_cons] at h'
        exact hp (by simpa using h')
    rw [q1, q2, q3]
    unfold notP
    simp only [if_true, tk_one, lv_run kr ht.lvE, rn_run kr ht.stop, rr_run kr ht.stop, ht.lvE]
/-- the parts behind the first one, told -/
def tellTail : List Rq → Bs
  | [] => []
  | r :: l => 44 :: (tellP r ++ tellTail l)
def tellC : List Rq → Bs
  | [] => []
  | r :: l => tellP r ++ tellTail l
theorem tellTail_snoc : ∀ (l : List Rq) (r : Rq), tellTail (l ++ [r]) = tellTail l ++ 44 :: tellP r
  | [], r => by simp [tellTail]
  | x :: l, r => by
    rw [List.cons_append, tellTail, tellTail_snoc l r, tellTail]
    simp
theorem accT_tell (l : List Rq) : ∀ k, k ≤ l.length → accT l k = tellC (l.take k)
  | 0, _ => by simp [accT, tellC]
  | k + 1, hk => by
    have hk' : k < l.length := by omega
    rw [accT_next hk', accT_tell l k (by omega), List.take_succ_eq_append_getElem hk']
    match k, hk' with
    | 0, h => simp [tellC, tellTail]
    | j + 1, h =>
      rw [if_pos (by omega)]
      cases l with
      | nil => simp at h
      | cons x l =>
        rw [List.take_succ_cons, List.cons_append, tellC, tellC, tellTail_snoc]
        simp
theorem tellAll_eq (l : List Rq) : tellAll l = tellC l := by
  unfold tellAll
  rw [accT_tell l _ (Nat.le_refl _), List.take_length]
theorem tail_of (l : List Rq) : Tail (tellTail l) := by
  cases l with
  | nil => exact Or.inl rfl
  | cons r l => exact Or.inr ⟨_, rfl⟩
theorem tellP_head {r : Rq} (h : partI r = 0) (t : Bs) : tellP r ++ t ≠ [] ∧ lv (tellP r ++ t) = tellP r ++ t := by
  obtain ⟨h1, h2, _⟩ := part_ok.1 h
  obtain ⟨k0, kr⟩ := kI_run h1
  have hk := fits_kind h2
  have key : ∀ u : Bs, r.1 ++ u ≠ [] ∧ lv (r.1 ++ u) = r.1 ++ u := fun u => by
    cases hx : r.1 with
    | nil => exact absurd hx k0
    | cons c s => exact ⟨by simp, lv_cons _ (run_ne (kr c (by rw [hx]; simp))).1⟩
  rcases hk with hk | hk | hk | hk
  · have e : tellP r = r.1 ++ tellV r.2.2 [61] [105, 110] := by simp [tellP, hk]
    rw [e, List.append_assoc]
    exact key _
  · have e : tellP r = r.1 ++ tellV r.2.2 [33, 61] [110, 111, 116, 105, 110] := by simp [tellP, hk]
    rw [e, List.append_assoc]
    exact key _
  · have e : tellP r = r.1 := by simp [tellP, hk]
    rw [e]
    exact key _
  · have e : tellP r = 33 :: r.1 := by simp [tellP, hk]
    rw [e]
    exact ⟨by simp, lv_cons _ (by decide)⟩
theorem more_tell {N : Nat} (hN : 8 ≤ N) : ∀ (l : List Rq) (r : Rq) (n : Nat), l.length < n → (∀ x ∈ r :: l, partI x = 0) → moreP N n (tellP r ++ tellTail l) = some (r :: l)
  | [], r, 0, h, _ => absurd h (by simp)
  | [], r, n + 1, _, hp => by
    rw [moreP, part_tell (hp r (by simp)) hN (tail_of [])]
    rfl
  | x :: l, r, 0, h, _ => absurd h (by simp)
  | x :: l, r, n + 1, h, hp => by
    rw [moreP, part_tell (hp r (by simp)) hN (tail_of (x :: l))]
    have hx := hp x (by simp)
    have ht : tellTail (x :: l) = 44 :: (tellP x ++ tellTail l) := rfl
    simp only [ht, tk_one, (tellP_head hx _).2]
    rw [if_neg (by simp), more_tell hN l x n (by simpa using h) (fun y hy => hp y (List.mem_cons_of_mem _ hy))]
    rfl
theorem read_tell {N : Nat} {l : List Rq} (hN : 9 ≤ N) (h : chkI l = 0) : readP N (tellAll l) = some l := by
  obtain ⟨h1, h2⟩ := chk_ok.1 h
  rw [tellAll_eq]
  unfold readP
  cases l with
  | nil => rfl
  | cons r l =>
    obtain ⟨e1, e2⟩ := tellP_head (h2 r (by simp)) (tellTail l)
    rw [tellC, e2, if_neg e1]
    exact more_tell (by omega) l r N (by simp at h1; omega) h2
theorem parse_print {N : Nat} {l : List Rq} (hN : 9 ≤ N) (h : (printE l).2 = 0) : parseE N (printE l).1 = (l, 0) := by
  by_cases h1 : chkI l = 0
  · by_cases h2 : 300 < (tellAll l).length
    · rw [printE_large h1 h2] at h
      cases h
    · rw [printE_ok h1 h2]
      unfold parseE
      rw [if_neg h2, read_tell hN h1]
      simp [h1]
  · rw [printE_bad h1] at h
    exact absurd h h1
theorem parse_good {N : Nat} {s : Bs} (h : (parseE N s).2 = 0) : chkI (parseE N s).1 = 0 := by
  unfold parseE at h ⊢
  by_cases h1 : 300 < s.length
  · rw [if_pos h1] at h
    cases h
  · rw [if_neg h1] at h ⊢
    cases hr : readP N s with
    | none => rw [hr] at h; cases h
    | some l =>
      rw [hr] at h
      by_cases h2 : chkI l = 0
      · simp [h2]
      · simp [h2] at h
theorem parse_bad {N : Nat} {s : Bs} (h : (parseE N s).2 ≠ 0) : (parseE N s).1 = [] := by
  unfold parseE at h ⊢
  by_cases h1 : 300 < s.length
  · rw [if_pos h1]
  · rw [if_neg h1] at h ⊢
    cases hr : readP N s with
    | none => rfl
    | some l =>
      rw [hr] at h
      by_cases h2 : chkI l = 0
      · simp [h2] at h
      · simp [h2]
theorem print_cases (l : List Rq) (h : (printE l).2 ≠ 0) : (printE l).1 = [] ∧ ((printE l).2 = 2 ∨ chkI l = (printE l).2) := by
  by_cases h1 : chkI l = 0
  · by_cases h2 : 300 < (tellAll l).length
    · rw [printE_large h1 h2]; exact ⟨rfl, Or.inl rfl⟩
    · rw [printE_ok h1 h2] at h; exact absurd rfl h
  · rw [printE_bad h1]; exact ⟨rfl, Or.inr rfl⟩
end Go.Proofs.YtgaopmdpcjcooaaGreatDoor
