/- Plain facts: what was cut out is there no more, put there again all is as it was; where the last step begins. -/
import Derived.Test.YthdgfehfoidnbabGreatDoorPtrSize
import Derived.Test.YthdgfehfoidnbabGreatDoorPtrCutTop
import Derived.Lib.LastIndexByte
namespace Go.Proofs.YthdgfehfoidnbabGreatDoor
set_option linter.unusedVariables false
set_option linter.unusedSimpArgs false
theorem commas_less (A C : List Bs) (t : Bs) : (commas (A ++ C)).length ≤ (commas (A ++ t :: C)).length := by
  have h1 := commas_lenE (A ++ t :: C) (by simp)
  by_cases h : A ++ C = []
  · rw [h]; simp [commas]
  · have h2 := commas_lenE (A ++ C) h
    simp only [List.map_append, List.map_cons, List.sum_append, List.sum_cons, List.length_append, List.length_cons] at h1 h2
    omega
/-- what is known of what was cut -/
structure CutOK (n : Nat) (D R : J n) (M : List Bs) (s : Bs) : Prop where
  good : Good n R
  nodes : nodes n R < nodes n D
  len : (tell n R).length ≤ (tell n D).length
  holder : ∃ H, getP n D M = some H ∧ (kindJ n H = 5 ∨ kindJ n H = 6 ∧ (∃ c, getP n D (M ++ [s]) = some c ∧ ∀ it : (m : Nat) → J m, (∀ (m : Nat) (c0 : J m), m ≤ n → lift m n c0 = c → it m = c0) → changeP n R M (putEnd it s) = .ok D) ∧ getP n R (M ++ [s]) = none)
theorem cut_list {n : Nat} {xs : List (J n)} {i : Nat} (hg : Good (n + 1) (Sum.inr (Sum.inl xs))) (hi : i < xs.length) (s : Bs) : CutOK (n + 1) (Sum.inr (Sum.inl xs)) (Sum.inr (Sum.inl (xs.take i ++ xs.drop (i + 1)))) [] s := by
  obtain ⟨A, c, C, rfl, hA⟩ : ∃ A c C, xs = A ++ c :: C ∧ A.length = i := ⟨xs.take i, xs[i], xs.drop (i + 1), by rw [List.getElem_cons_drop]; simp, by simp; omega⟩
  have e : (A ++ c :: C).take i ++ (A ++ c :: C).drop (i + 1) = A ++ C := by
    subst hA
    rw [List.take_left' rfl, List.drop_append, List.drop_of_length_le (by omega)]
    simp
  rw [e]
  have hn := nodes_one n c
  refine ⟨fun x hx => hg x ?_, ?_, ?_, ⟨Sum.inr (Sum.inl (A ++ c :: C)), rfl, Or.inl rfl⟩⟩
  · rcases List.mem_append.1 hx with h | h
    · exact List.mem_append_left _ h
    · exact List.mem_append_right _ (List.mem_cons_of_mem _ h)
  · show 1 + ((A ++ C).map (Go.Proofs.YthdgfehfoidnbabGreatDoor.nodes n)).sum < 1 + ((A ++ c :: C).map (Go.Proofs.YthdgfehfoidnbabGreatDoor.nodes n)).sum
    simp only [List.map_append, List.map_cons, List.sum_append, List.sum_cons]
    omega
  · show (91 :: (commas ((A ++ C).map (tell n)) ++ [93])).length ≤ (91 :: (commas ((A ++ c :: C).map (tell n)) ++ [93])).length
    have := commas_less (A.map (tell n)) (C.map (tell n)) (tell n c)
    simp only [List.map_append, List.map_cons, List.length_cons, List.length_append, List.length_nil]
    omega
theorem cut_obj {n : Nat} {fs : List (Bs × J n)} {s : Bs} (hg : Good (n + 1) (Sum.inr (Sum.inr fs))) (ha : (fs.any fun f => f.1 == s) = true) : CutOK (n + 1) (Sum.inr (Sum.inr fs)) (Sum.inr (Sum.inr (cutAt fs s))) [] s := by
  have hr := rise_of_good _ _ hg
  obtain ⟨hlt, hfa⟩ := field_idx hr.1 ha
  obtain ⟨A, C, h1, h2, h3⟩ := fieldAt_split hr.1 hfa
  generalize (fs[placeOfName fs s]'hlt).2 = c at *
  clear hlt
  subst h1
  rw [cutAt_mid h2]
  have hn := nodes_one n c
  have hrC : Rising (A ++ C) := by
    have := hr.1
    unfold Rising at this ⊢
    rw [List.pairwise_append] at this ⊢
    rw [List.pairwise_cons] at this
    exact ⟨this.1, this.2.1.2, fun a ha b hb => this.2.2 a ha b (List.mem_cons_of_mem _ hb)⟩
  refine ⟨⟨hrC, fun f hf => hg.2 f ?_⟩, ?_, ?_, ⟨Sum.inr (Sum.inr (A ++ (s, c) :: C)), rfl, Or.inr ⟨rfl, ⟨lift n (n + 1) c, ?_, fun it hit => ?_⟩, ?_⟩⟩⟩
  · rcases List.mem_append.1 hf with h | h
    · exact List.mem_append_left _ h
    · exact List.mem_append_right _ (List.mem_cons_of_mem _ h)
  · show 1 + ((A ++ C).map fun f => Go.Proofs.YthdgfehfoidnbabGreatDoor.nodes n f.2).sum < 1 + ((A ++ (s, c) :: C).map fun f => Go.Proofs.YthdgfehfoidnbabGreatDoor.nodes n f.2).sum
    simp only [List.map_append, List.map_cons, List.sum_append, List.sum_cons]
    omega
  · show (123 :: (commas ((A ++ C).map fun f => quote f.1 ++ 58 :: tell n f.2) ++ [125])).length ≤ (123 :: (commas ((A ++ (s, c) :: C).map fun f => quote f.1 ++ 58 :: tell n f.2) ++ [125])).length
    have := commas_less (A.map fun f => quote f.1 ++ 58 :: tell n f.2) (C.map fun f => quote f.1 ++ 58 :: tell n f.2) (quote s ++ 58 :: tell n c)
    simp only [List.map_append, List.map_cons, List.length_cons, List.length_append, List.length_nil] at this ⊢
    omega
  · show ((fieldAt (A ++ (s, c) :: C) s).bind fun c => (getP n c []).map (lift n (n + 1))) = _
    rw [fieldAt_mid h2]
    cases n <;> rfl
  · have e : it n = c := hit n c (by omega) rfl
    show putAt (Sum.inr (Sum.inr (A ++ C))) s (it n) = _
    show Except.ok (Sum.inr (Sum.inr (setAt (A ++ C) s (it n)))) = _
    rw [setAt_gap h2 h3, e]
    rfl
  · show ((fieldAt (A ++ C) s).bind fun c => (getP n c []).map (lift n (n + 1))) = _
    have : fieldAt (A ++ C) s = none := by
      unfold fieldAt
      rw [any_gap h2 h3]
      rfl
    rw [this]
    rfl
theorem cut_facts (s : Bs) : ∀ (M : List Bs) (n : Nat) (D R : J n), Good n D → changeP n D M (cutEnd s) = .ok R → CutOK n D R M s
  | [], 0, D, R, hg, h => by cases h
  | [], n + 1, D, R, hg, h => by
    have h' : cutE D s = .ok R := h
    match D, hg, h' with
    | Sum.inl _, hg, h' => cases h'
    | Sum.inr (Sum.inl xs), hg, h' =>
      have hc : cutE (Sum.inr (Sum.inl xs) : J (n + 1)) s = match placeP s with
        | none => .error eNone
        | some i => if i < xs.length then .ok (Sum.inr (Sum.inl (xs.take i ++ xs.drop (i + 1)))) else .error eNone := rfl
      rw [hc] at h'
      cases hp : placeP s with
      | none => rw [hp] at h'; cases h'
      | some i =>
        rw [hp] at h'
        simp only [] at h'
        by_cases hi : i < xs.length
        · rw [if_pos hi] at h'
          cases h'
          exact cut_list hg hi s
        · rw [if_neg hi] at h'
          cases h'
    | Sum.inr (Sum.inr fs), hg, h' =>
      have hc : cutE (Sum.inr (Sum.inr fs) : J (n + 1)) s = if fs.any (fun f => f.1 == s) then .ok (Sum.inr (Sum.inr (cutAt fs s))) else .error eNone := rfl
      rw [hc] at h'
      cases ha : (fs.any fun f => f.1 == s) with
      | false => rw [ha, if_neg (by decide)] at h'; cases h'
      | true =>
        rw [ha, if_pos rfl] at h'
        cases h'
        exact cut_obj hg ha
  | t :: M, 0, D, R, hg, h => by cases h
  | t :: M, n + 1, D, R, hg, h => by
    have hr := rise_of_good _ _ hg
    have h' : (match childP D t with
      | none => .error eNone
      | some c => match changeP n c M (cutEnd s) with
        | .error x => .error x
        | .ok c' => putAt D t c') = Except.ok R := h
    cases hc : childP D t with
    | none => rw [hc] at h'; cases h'
    | some c =>
      rw [hc] at h'
      simp only [] at h'
      cases hm : changeP n c M (cutEnd s) with
      | error x => rw [hm] at h'; cases h'
      | ok c' =>
        rw [hm] at h'
        simp only [] at h'
        rw [put_repl hr hc] at h'
        cases h'
        have ih := cut_facts s M n c c' (good_child hg hc) hm
        have hz := size_repl (d := c') hr hc
        have h1 := ih.nodes
        have h2 := ih.len
        have hgR := good_repl (s := t) hg ih.good
        have hcR := child_repl (d := c') hr hc
        obtain ⟨H, hH, hk⟩ := ih.holder
        have hls := (lift_said n (n + 1) H (Nat.le_trans (depth_bound n H) (by omega))).2.2.2
        refine ⟨hgR, by omega, by omega, ⟨lift n (n + 1) H, ?_, ?_⟩⟩
        · show ((childP D t).bind fun c => (getP n c M).map (lift n (n + 1))) = _
          rw [hc, Option.bind_some, hH]
          rfl
        · rw [hls]
          rcases hk with hk | ⟨hk, ⟨x, hx, hput⟩, hno⟩
          · exact Or.inl hk
          · refine Or.inr ⟨hk, ⟨lift n (n + 1) x, ?_, fun it hit => ?_⟩, ?_⟩
            · show ((childP D t).bind fun c => (getP n c (M ++ [s])).map (lift n (n + 1))) = _
              rw [hc, Option.bind_some, hx]
              rfl
            · have ec := hput it (fun m c0 hm' e => hit m c0 (by omega) (by
                rw [← e, lift_lift _ _ _ _ (Nat.le_trans (depth_bound m c0) hm')]))
              show (match childP (replP D t c') t with
                | none => .error eNone
                | some c => match changeP n c M (putEnd it s) with
                  | .error x => .error x
                  | .ok c'' => putAt (replP D t c') t c'') = Except.ok D
              rw [hcR]
              simp only []
              rw [ec]
              simp only []
              rw [put_repl (rise_of_good _ _ hgR) hcR, replP_twice, repl_child hr hc]
            · show ((childP (replP D t c') t).bind fun c => (getP n c (M ++ [s])).map (lift n (n + 1))) = _
              rw [hcR, Option.bind_some, hno]
              rfl
theorem last_of (p : ByteArray) (a b : Bs) (h : p.data.toList = a ++ 47 :: b) (hb : 47 ∉ b) : Lib.lastIndexByte p 47 = (a.length : Int) := by
  have hsz : p.size = a.length + b.length + 1 := by
    have := congrArg List.length h
    simp at this
    have e : p.size = p.data.size := rfl
    omega
  have hat : ∀ j, j < p.size → p.data[j]! = (a ++ 47 :: b)[j]! := fun j hj => by
    rw [← h]
    have hj' : j < p.data.size := hj
    rw [getElem!_pos p.data j hj', getElem!_pos p.data.toList j (by simpa using hj')]
    simp
  rcases Lib.lastIndexByte_spec p 47 with ⟨_, hn⟩ | ⟨i, hi, he, hc, hn⟩
  · exfalso
    have := hn a.length (by omega)
    rw [hat _ (by omega)] at this
    simp at this
  · rw [he]
    rcases Nat.lt_trichotomy i a.length with hlt | heq | hgt
    · exfalso
      have := hn a.length hlt (by omega)
      rw [hat _ (by omega)] at this
      simp at this
    · omega
    · exfalso
      rw [hat _ hi] at hc
      have hib : i - a.length - 1 < b.length := by omega
      have e : (a ++ 47 :: b)[i]! = b[i - a.length - 1] := by
        have : i < (a ++ 47 :: b).length := by simp; omega
        rw [getElem!_pos _ i this, List.getElem_append_right (by omega), List.getElem_cons]
        rw [dif_neg (by omega)]
      rw [e] at hc
      have h47 : b[i - a.length - 1] = 47 := by
        apply UInt8.toNat_inj.1
        have : (47 : UInt8).toNat = 47 := rfl
        omega
      exact hb (h47 ▸ List.getElem_mem hib)
end Go.Proofs.YthdgfehfoidnbabGreatDoor
