/- Plain facts: users, what a token says, how it is cut and read. -/
import Derived.Test.YtmbpjbghhimedaaGreatDoorTkParts
import Derived.Test.YtmbpjbghhimedaaGreatDoorTkNum
import Derived.Test.YtmbpjbghhimedaaGreatDoorPlain
import Derived.Test.YtmbpjbghhimedaaGreatDoorSlUnhex
import Derived.Test.YtmbpjbghhimedaaGreatDoorSlMac
namespace Go.Proofs.YtmbpjbghhimedaaGreatDoor
set_option linter.unusedVariables false
set_option linter.unusedSimpArgs false
/-- what is wrong with the name of a user or a group -/
def nmI (s : Bs) : Int := if checkI (Ba s) ≠ 0 then checkI (Ba s) else if 20 < s.length then 2 else 0
/-- what is wrong with groups that stand behind others -/
def grpI : List Bs → List Bs → Int
  | _, [] => 0
  | p, g :: r => if nmI g ≠ 0 then nmI g else if g ∈ p then 5 else grpI (p ++ [g]) r
def userI (n : Bs) (gs : List Bs) : Int := if nmI n ≠ 0 then nmI n else if 6 < gs.length then 2 else grpI [] gs
theorem grp_name {gs : List Bs} {k : Nat} (hk : k < gs.length) (h : nmI gs[k] ≠ 0) : grpI (gs.take k) (gs.drop k) = nmI gs[k] := by
  rw [List.drop_eq_getElem_cons hk, grpI, if_pos h]
theorem grp_twice {gs : List Bs} {k : Nat} (hk : k < gs.length) (h : nmI gs[k] = 0) (g : gs[k] ∈ gs.take k) : grpI (gs.take k) (gs.drop k) = 5 := by
  rw [List.drop_eq_getElem_cons hk, grpI, if_neg (by simp [h]), if_pos g]
theorem grp_step {gs : List Bs} {k : Nat} (hk : k < gs.length) (h : nmI gs[k] = 0) (g : gs[k] ∉ gs.take k) : grpI (gs.take k) (gs.drop k) = grpI (gs.take (k + 1)) (gs.drop (k + 1)) := by
  rw [List.drop_eq_getElem_cons hk, grpI, if_neg (by simp [h]), if_neg g, List.take_succ_eq_append_getElem hk]
theorem grp_end {gs : List Bs} {k : Nat} (hk : gs.length ≤ k) : grpI (gs.take k) (gs.drop k) = 0 := by
  rw [List.drop_of_length_le hk, grpI]
theorem grp_ok : ∀ (r p : List Bs), grpI p r = 0 → ∀ g ∈ r, nmI g = 0
  | [], _, _, g, hg => by simp at hg
  | x :: r, p, h, g, hg => by
    rw [grpI] at h
    by_cases hx : nmI x ≠ 0
    · rw [if_pos hx] at h
      exact absurd h hx
    · rw [if_neg hx] at h
      split at h
      · omega
      · rcases List.mem_cons.1 hg with rfl | hg
        · simpa using hx
        · exact grp_ok r _ h g hg
theorem user_ok {n : Bs} {gs : List Bs} (h : userI n gs = 0) : nmI n = 0 ∧ gs.length ≤ 6 ∧ ∀ g ∈ gs, nmI g = 0 := by
  unfold userI at h
  by_cases hx : nmI n ≠ 0
  · rw [if_pos hx] at h
    exact absurd h hx
  · rw [if_neg hx] at h
    split at h
    · omega
    · exact ⟨by simpa using hx, by omega, grp_ok gs [] h⟩
theorem user_many {n : Bs} {gs : List Bs} (h : 6 < gs.length) : userI n gs ≠ 0 := fun e => by
  have := (user_ok e).2.1
  omega
theorem nm_zero {s : Bs} (h : nmI s = 0) : nameB (Ba s) = true ∧ s.length ≤ 20 := by
  unfold nmI at h
  by_cases hx : checkI (Ba s) ≠ 0
  · rw [if_pos hx] at h
    exact absurd h hx
  · rw [if_neg hx] at h
    split at h
    · omega
    · exact ⟨checkI_zero.1 (by simpa using hx), by omega⟩
/-- a name is not empty, and has neither of these signs -/
theorem nm_clean {s : Bs} (h : nmI s = 0) : s ≠ [] ∧ s.length ≤ 20 ∧ 46 ∉ s ∧ 44 ∉ s := by
  obtain ⟨h1, h2⟩ := nm_zero h
  obtain ⟨a, b, c, d, e⟩ := nameB_iff.1 h1
  rw [ba_size] at a e
  have hall : ∀ x ∈ s, okB small { data := #[45] } (x.toNat : Int) = true := fun x hx => by
    obtain ⟨k, hk, rfl⟩ := List.mem_iff_getElem.1 hx
    have := e k hk
    rw [byteI_list, ba_data, List.getElem?_eq_getElem hk] at this
    exact this
  refine ⟨fun e => by subst e; simp at a, h2, fun hx => ?_, fun hx => ?_⟩
  · exact absurd (hall 46 hx) (by decide)
  · exact absurd (hall 44 hx) (by decide)
/-- what a token says -/
def tellP (n : Bs) (gs : List Bs) (u : Nat) : Bs := n ++ [46] ++ Lib.join gs [44] ++ [46] ++ Lib.decDigits u ++ [46]
theorem join_sep : ∀ (l : List Bs) (c d : UInt8), c ≠ d → (∀ x ∈ l, c ∉ x) → c ∉ Lib.join l [d]
  | [], c, d, _, _ => by simp [Lib.join_nil]
  | [x], c, d, _, h => by rw [Lib.join_one]; exact h x (by simp)
  | x :: y :: r, c, d, hcd, h => by
    have ih := join_sep (y :: r) c d hcd (fun z hz => h z (by simp [hz]))
    rw [join_two]
    intro hm
    rcases List.mem_append.1 hm with hm | hm
    · rcases List.mem_append.1 hm with hm | hm
      · exact h x (by simp) hm
      · exact hcd (List.mem_singleton.1 hm)
    · exact ih hm
theorem join_len20 : ∀ (l : List Bs), (∀ x ∈ l, x.length ≤ 20) → (Lib.join l [44]).length ≤ 21 * l.length
  | [], _ => by simp [Lib.join_nil]
  | [x], h => by rw [Lib.join_one]; have := h x (by simp); simp; omega
  | x :: y :: r, h => by
    have ih := join_len20 (y :: r) (fun z hz => h z (by simp [hz]))
    have := h x (by simp)
    rw [join_two, List.length_append, List.length_append]
    simp only [List.length_cons, List.length_nil] at ih ⊢
    omega
theorem tell_len {n : Bs} {gs : List Bs} {u : Nat} (h : userI n gs = 0) (hu : u ≤ 1099511627776) : (tellP n gs u).length ≤ 200 := by
  obtain ⟨h1, h2, h3⟩ := user_ok h
  have a := (nm_clean h1).2.1
  have b := join_len20 gs (fun x hx => (nm_clean (h3 x hx)).2.1)
  have c := dec_len u hu
  unfold tellP
  simp only [List.length_append, List.length_cons, List.length_nil]
  omega
theorem dec_clean (u : Nat) : 46 ∉ Lib.decDigits u := fun h => by
  have := dec_digs u 46 h
  unfold isDig at this
  exact absurd this (by decide)
theorem parts_tell {n : Bs} {gs : List Bs} {u : Nat} (h : userI n gs = 0) : parts 46 (tellP n gs u) = [n, Lib.join gs [44], Lib.decDigits u, []] := by
  obtain ⟨h1, h2, h3⟩ := user_ok h
  have a := (nm_clean h1).2.2.1
  have b := join_sep gs 46 44 (by decide) (fun x hx => (nm_clean (h3 x hx)).2.2.1)
  have e : tellP n gs u = n ++ [46] ++ (Lib.join gs [44] ++ [46] ++ (Lib.decDigits u ++ [46] ++ [])) := by simp [tellP]
  rw [e, parts_cat _ _ _ a, parts_cat _ _ _ b, parts_cat _ _ _ (dec_clean u)]
  rfl
/-- the groups, as they are told -/
def grpsOf (b : Bs) : List Bs := if b = [] then [] else parts 44 b
theorem grps_join (b : Bs) : Lib.join (grpsOf b) [44] = b := by
  unfold grpsOf
  split
  · rename_i h
    rw [h]
    rfl
  · exact join_parts 44 b
theorem grps_of {n : Bs} {gs : List Bs} (h : userI n gs = 0) : grpsOf (Lib.join gs [44]) = gs := by
  obtain ⟨h1, h2, h3⟩ := user_ok h
  unfold grpsOf
  cases gs with
  | nil => rfl
  | cons x r =>
    have hx := (nm_clean (h3 x (by simp))).1
    have hne : Lib.join (x :: r) [44] ≠ [] := by
      cases r with
      | nil => rw [Lib.join_one]; exact hx
      | cons y r => rw [join_two]; simp
    rw [if_neg hne, parts_join 44 _ (by simp) (fun z hz => (nm_clean (h3 z hz)).2.2.2)]
/-- whose a token is, and until when it is good -/
def readP (said : Bs) : Option (Bs × List Bs × Nat) := match parts 46 said with
  | [a, b, c, _] => if userI a (grpsOf b) = 0 then (timeP c).map fun u => (a, grpsOf b, u) else none
  | _ => none
theorem read_parts {said a b c d : Bs} (h : parts 46 said = [a, b, c, d]) : readP said = if userI a (grpsOf b) = 0 then (timeP c).map fun u => (a, grpsOf b, u) else none := by
  rw [readP, h]
theorem read_tell {n : Bs} {gs : List Bs} {u : Nat} (h : userI n gs = 0) (hu : u ≤ 1099511627776) : readP (tellP n gs u) = some (n, gs, u) := by
  rw [read_parts (parts_tell h), grps_of h, if_pos h, time_dec u hu]
  rfl
theorem four_said {said a b c d : Bs} (h : parts 46 said = [a, b, c, d]) : said = a ++ [46] ++ b ++ [46] ++ c ++ [46] ++ d := by
  have := join_parts 46 said
  rw [h, join_two, join_two, join_two, Lib.join_one] at this
  rw [← this]
  simp
theorem read_some {said a b c : Bs} (hp : parts 46 said = [a, b, c, []]) {n : Bs} {gs : List Bs} {u : Nat} (h : readP said = some (n, gs, u)) : said = tellP n gs u ∧ userI n gs = 0 ∧ u ≤ 1099511627776 ∧ a = n ∧ grpsOf b = gs ∧ c = Lib.decDigits u := by
  rw [read_parts hp] at h
  split at h
  · rename_i hu
    obtain ⟨v, hv, he⟩ := Option.map_eq_some_iff.1 h
    simp only [Prod.mk.injEq] at he
    obtain ⟨rfl, rfl, rfl⟩ := he
    obtain ⟨t1, t2⟩ := time_some hv
    refine ⟨?_, hu, t1, rfl, rfl, t2⟩
    rw [four_said hp, tellP, grps_join, ← t2]
    simp
  · cases h
/-- what a token says, and what is signed -/
def cutP (t : Bs) : Option (Bs × Bs) := match parts 46 t with
  | [a, b, c, d] => if d.length = 64 ∧ (unhexP d).isSome = true then some (a ++ [46] ++ b ++ [46] ++ c ++ [46], d) else none
  | _ => none
theorem cut_parts {t a b c d : Bs} (h : parts 46 t = [a, b, c, d]) : cutP t = if d.length = 64 ∧ (unhexP d).isSome = true then some (a ++ [46] ++ b ++ [46] ++ c ++ [46], d) else none := by
  rw [cutP, h]
theorem cut_none {t : Bs} (h : (parts 46 t).length ≠ 4) : cutP t = none := by
  unfold cutP
  split
  · rename_i a b c d e
    rw [e] at h
    exact absurd rfl h
  · rfl
theorem cut_last {x d : Bs} (hd : 46 ∉ d) : cutP (x ++ [46] ++ d) = if (x ++ [46]).count 46 = 3 ∧ d.length = 64 ∧ (unhexP d).isSome = true then some (x ++ [46], d) else none := by
  have hp := parts_last 46 x d hd
  have hl := parts_len 46 x
  have hc : (x ++ [46]).count 46 = x.count 46 + 1 := by rw [List.count_append]; rfl
  by_cases h3 : x.count 46 + 1 = 3
  · rw [h3] at hl
    match hx : parts 46 x, hl with
    | [a, b, c], _ =>
      rw [hx] at hp
      have hj := join_parts 46 x
      rw [hx, join_two, join_two, Lib.join_one] at hj
      rw [cut_parts (a := a) (b := b) (c := c) (d := d) hp, hc, h3]
      simp only [true_and]
      rw [← hj]
      simp
  · rw [cut_none (by rw [hp, List.length_append, hl]; simp; omega), if_neg (by rw [hc]; omega)]
theorem cut_some {t said d : Bs} (h : cutP t = some (said, d)) : ∃ a b c, parts 46 t = [a, b, c, d] ∧ said = a ++ [46] ++ b ++ [46] ++ c ++ [46] ∧ d.length = 64 ∧ t = said ++ d ∧ parts 46 said = [a, b, c, []] := by
  unfold cutP at h
  split at h
  · rename_i a b c e hp
    split at h
    · rename_i hc
      simp only [Option.some.injEq, Prod.mk.injEq] at h
      obtain ⟨rfl, rfl⟩ := h
      have hcl := parts_clean 46 t
      rw [hp] at hcl
      refine ⟨a, b, c, hp, rfl, hc.1, four_said hp, ?_⟩
      have e : a ++ [46] ++ b ++ [46] ++ c ++ [46] = a ++ [46] ++ (b ++ [46] ++ (c ++ [46] ++ [])) := by simp
      rw [e, parts_cat _ _ _ (hcl a (by simp)), parts_cat _ _ _ (hcl b (by simp)), parts_cat _ _ _ (hcl c (by simp))]
      rfl
    · cases h
  · cases h
theorem hx_clean : ∀ k : Fin 16, hx k.val ≠ 46 := by decide +kernel
theorem hex_clean (s : Bs) : 46 ∉ hexP s := fun h => by
  unfold hexP at h
  obtain ⟨c, _, hc⟩ := List.mem_flatMap.1 h
  have hlt : c.toNat < 256 := c.toNat_lt
  have h1 := hx_clean ⟨c.toNat / 16, by omega⟩
  have h2 := hx_clean ⟨c.toNat % 16, by omega⟩
  simp only [List.mem_cons, List.not_mem_nil, or_false] at hc
  rcases hc with hc | hc
  · exact h1 hc.symm
  · exact h2 hc.symm
theorem byte_hx (c : UInt8) : byteP (hx (c.toNat / 16)) (hx (c.toNat % 16)) = c := by
  have hc : c.toNat < 256 := c.toNat_lt
  have h1 := dgt_hx ⟨c.toNat / 16, by omega⟩
  have h2 := dgt_hx ⟨c.toNat % 16, by omega⟩
  simp only at h1 h2
  unfold byteP
  rw [h1, h2]
  apply UInt8.toNat_inj.1
  rw [Nat.toUInt8_eq, UInt8.toNat_ofNat']
  omega
theorem unhex_hex : ∀ s : Bs, unhexP (hexP s) = some s
  | [] => rfl
  | c :: s => by
    have ih := unhex_hex s
    have hc : c.toNat < 256 := c.toNat_lt
    have h1 := dgt_hx ⟨c.toNat / 16, by omega⟩
    have h2 := dgt_hx ⟨c.toNat % 16, by omega⟩
    simp only at h1 h2
    show unhexP (hx (c.toNat / 16) :: hx (c.toNat % 16) :: hexP s) = _
    rw [unhexP, if_neg (by omega), ih, byte_hx]
    rfl
theorem cut_tell {n : Bs} {gs : List Bs} {u : Nat} (h : userI n gs = 0) {m : Bs} (hm : m.length = 32) : cutP (tellP n gs u ++ hexP m) = some (tellP n gs u, hexP m) := by
  have hp := parts_tell (u := u) h
  have e : tellP n gs u ++ hexP m = (n ++ [46] ++ Lib.join gs [44] ++ [46] ++ Lib.decDigits u) ++ [46] ++ hexP m := by simp [tellP]
  have e2 : tellP n gs u = (n ++ [46] ++ Lib.join gs [44] ++ [46] ++ Lib.decDigits u) ++ [46] := rfl
  rw [e, cut_last (hex_clean m), ← e2, if_pos]
  refine ⟨?_, by rw [hexP_length, hm], by rw [unhex_hex]; rfl⟩
  have := parts_len 46 (tellP n gs u)
  rw [hp] at this
  simp only [List.length_cons, List.length_nil] at this
  omega
def keyB (key : Bs) : Bool := decide (key ≠ []) && decide (key.length ≤ 64)
def timeB (t : Int) : Bool := decide (0 ≤ t) && decide (t ≤ 1099511627776)
/-- what stands behind what a token says -/
def signP (key said : Bs) : Bs := hexP (macP key said)
/-- what Issue answers -/
def issP (key n : Bs) (gs : List Bs) (u : Int) : Int × Bs :=
  if keyB key = false then (1, []) else if userI n gs ≠ 0 then (userI n gs, []) else if timeB u = false then (1, []) else (0, tellP n gs u.toNat ++ signP key (tellP n gs u.toNat))
/-- what Check answers -/
def chkP (key t : Bs) (now : Int) : Int × Bs × List Bs :=
  if keyB key = false ∨ timeB now = false then (1, [], []) else match cutP t with
    | none => (16, [], [])
    | some (said, d) => if d ≠ signP key said then (17, [], []) else match readP said with
      | none => (16, [], [])
      | some (n, gs, u) => if (u : Int) < now then (15, [], []) else (0, n, gs)
theorem chk_arg {key t : Bs} {now : Int} (h : keyB key = false ∨ timeB now = false) : chkP key t now = (1, [], []) := by rw [chkP, if_pos h]
theorem chk_form {key t : Bs} {now : Int} (h : keyB key = true) (g : timeB now = true) (c : cutP t = none) : chkP key t now = (16, [], []) := by
  rw [chkP, if_neg (by simp [h, g]), c]
theorem chk_sum {key t said d : Bs} {now : Int} (h : keyB key = true) (g : timeB now = true) (c : cutP t = some (said, d)) (s : d ≠ signP key said) : chkP key t now = (17, [], []) := by
  rw [chkP, if_neg (by simp [h, g]), c]
  simp only []
  rw [if_pos s]
theorem chk_read {key t said d : Bs} {now : Int} (h : keyB key = true) (g : timeB now = true) (c : cutP t = some (said, d)) (s : d = signP key said) : chkP key t now = match readP said with
      | none => (16, [], [])
      | some (n, gs, u) => if (u : Int) < now then (15, [], []) else (0, n, gs) := by
  rw [chkP, if_neg (by simp [h, g]), c]
  simp only []
  rw [if_neg (by simp [s])]
theorem chk_zero {key t : Bs} {now : Int} {n : Bs} {gs : List Bs} (h : chkP key t now = (0, n, gs)) : keyB key = true ∧ ∃ said d u, cutP t = some (said, d) ∧ d = signP key said ∧ readP said = some (n, gs, u) ∧ now ≤ (u : Int) := by
  unfold chkP at h
  split at h
  · simp at h
  · rename_i hk
    split at h
    · simp at h
    · rename_i said d hc
      split at h
      · simp at h
      · rename_i hd
        split at h
        · simp at h
        · rename_i n' gs' u hr
          split at h
          · simp at h
          · rename_i hu
            simp only [Prod.mk.injEq, true_and] at h
            obtain ⟨rfl, rfl⟩ := h
            exact ⟨by simp at hk; exact hk.1, said, d, u, hc, by simpa using hd, hr, by omega⟩
theorem timeB_iff {t : Int} : timeB t = true ↔ 0 ≤ t ∧ t ≤ 1099511627776 := by simp [timeB]
/-- errors carry nothing -/
theorem chk_err {key t : Bs} {now : Int} (h : (chkP key t now).1 ≠ 0) : (chkP key t now).2 = ([], []) := by
  revert h
  unfold chkP
  split
  · intro _; rfl
  · split
    · intro _; rfl
    · split
      · intro _; rfl
      · split
        · intro _; rfl
        · split
          · intro _; rfl
          · intro h; exact absurd rfl h
theorem macP_length (key s : Bs) : (macP key s).length = 32 := by
  unfold macP macK
  split <;> rw [sumP_length]
/-- who has a token is told up to its time, and not behind it -/
theorem back_plain {key n : Bs} {gs : List Bs} {u : Int} {t : Bs} (h : issP key n gs u = (0, t)) (now : Int) : chkP key t now = if timeB now = false then (1, [], []) else if u < now then (15, [], []) else (0, n, gs) := by
  unfold issP at h
  split at h
  · simp at h
  · rename_i hk
    split at h
    · rename_i hu
      simp only [Prod.mk.injEq] at h
      exact absurd h.1 hu
    · rename_i hu
      have hu0 : userI n gs = 0 := by simpa using hu
      split at h
      · simp at h
      · rename_i ht
        simp only [Prod.mk.injEq, true_and] at h
        have htt := timeB_iff.1 (by simpa using ht)
        have hkk : keyB key = true := by simpa using hk
        by_cases hn : timeB now = false
        · rw [if_pos hn, chk_arg (Or.inr hn)]
        · rw [if_neg hn, chk_read hkk (by simpa using hn) (by rw [← h]; exact cut_tell hu0 (macP_length _ _)) rfl, read_tell hu0 (by omega)]
          simp only []
          have : ((u.toNat : Nat) : Int) = u := by omega
          rw [this]
/-- a token that is good is the one that is issued -/
theorem one_plain {key t : Bs} {now : Int} {n : Bs} {gs : List Bs} (h : chkP key t now = (0, n, gs)) : userI n gs = 0 ∧ ∃ a b d u, parts 46 t = [a, b, Lib.decDigits u, d] ∧ u ≤ 1099511627776 ∧ issP key n gs u = (0, t) ∧ now ≤ (u : Int) := by
  obtain ⟨hk, said, d, u, hc, hd, hr, hnow⟩ := chk_zero h
  obtain ⟨a, b, c, hp, hs, hl, ht, hps⟩ := cut_some hc
  obtain ⟨r1, r2, r3, r4, r5, r6⟩ := read_some hps hr
  refine ⟨r2, a, b, d, u, by rw [hp, r6], r3, ?_, hnow⟩
  rw [issP, if_neg (by simp [hk]), if_neg (by simp [r2]), if_neg (by simp [timeB]; omega)]
  rw [show ((u : Int)).toNat = u by omega, ← r1, ← hd, ← ht]
end Go.Proofs.YtmbpjbghhimedaaGreatDoor
