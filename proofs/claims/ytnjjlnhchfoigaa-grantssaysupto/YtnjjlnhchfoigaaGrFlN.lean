/- Contracts over this translation: the document's flaws: says, space, names, first. -/
import Derived.Test.YtnjjlnhchfoigaaGrFl
namespace Go.Proofs.Ytnjjlnhchfoigaa
open Go.RowKit
set_option linter.unusedVariables false
set_option linter.unusedSimpArgs false
theorem nR_any (s : Bs) (w : World) (hs : s.length ≤ maxLen) : Calls Try.prog 27 #[.string (Ba s)] w fun e w' => e = .returned (.int .i64 (cI s)) ∧ w' = w :=
  nameR_any (Ba s) w (by rw [ba_size]; exact hs)
set_option maxHeartbeats 1000000 in
theorem says_any (B b : Nat) (e x : Int) (n : Nat) (av : Nat → Prop) (w : World) (h : FlAt B w b e n av) (hn : n ≤ 10000000000000) :
    Calls Try.prog 26 #[.pointer (some ⟨b, 0, none⟩), .int .i64 x] w fun r w' => r = .returned (.tuple #[]) ∧ FlAt B w' b (orE e x) (n + 1) av ∧ Kp B av w w' := by
  have HA : Hid (Calls Try.prog 24 #[.pointer (some ⟨b, 0, none⟩), .bool true, .int .i64 x] w fun r w' => r = .returned (.tuple #[]) ∧ FlAt B w' b (orE e x) (n + 1) av ∧ Kp B av w w') := add_any B b e x n av true w h hn
  clear h
  go_enter Try.func26, Try.ntmps26
  go_wp2_with fail
  refine Calls.mono HA.out ?_
  rintro r w1 ⟨rfl, h1, h2⟩
  have H1 : Hid (FlAt B w1 b (orE e x) (n + 1) av ∧ Kp B av w w1) := ⟨h1, h2⟩
  clear h1 h2
  go_wp2_with fail
  go_end0
  exact ⟨rfl, H1.out.1, H1.out.2⟩
set_option maxHeartbeats 1000000 in
theorem space_any (B b : Nat) (e : Int) (n : Nat) (av : Nat → Prop) (s : Bs) (w : World) (h : FlAt B w b e n av) (hn : n ≤ 10000000000000) (hs : s.length ≤ maxLen) :
    Calls Try.prog 25 #[.pointer (some ⟨b, 0, none⟩), .string (Ba s)] w fun r w' => r = .returned (.tuple #[]) ∧ FlAt B w' b (orE e (ifI s)) (n + 1) av ∧ Kp B av w w' := by
  have HN : Hid (∀ w, Calls Try.prog 27 #[.string (Ba s)] w fun e w' => e = .returned (.int .i64 (cI s)) ∧ w' = w) := fun w => nR_any s w hs
  have hq : ((Ba s).toList == []) = decide (s = []) := ba_is s []
  by_cases hs0 : s = []
  · have HA : Hid (Calls Try.prog 24 #[.pointer (some ⟨b, 0, none⟩), .bool false, .int .i64 (cI s)] w fun r w' => r = .returned (.tuple #[]) ∧ FlAt B w' b (orE e (ifI s)) (n + 1) av ∧ Kp B av w w') := by
      have := add_any B b e (cI s) n av false w h hn
      rw [if_none hs0]
      exact this
    have hq2 : (Ba s).toList.isEmpty = true := by rw [ba_list, hs0]; rfl
    clear h hs hs0 hq
    generalize ifI s = x at *
    generalize cI s = y at *
    generalize Ba s = z at *
    go_enter Try.func25, Try.ntmps25
    go_wp2_with fail
    refine Calls.mono (HN.out _) ?_
    rintro r w1 ⟨rfl, hw1⟩
    obtain rfl : w = w1 := hw1.symm
    go_wp2_with fail
    refine Calls.mono HA.out ?_
    rintro r w1 ⟨rfl, h1, h2⟩
    have H1 : Hid (FlAt B w1 b (orE e x) (n + 1) av ∧ Kp B av w w1) := ⟨h1, h2⟩
    clear h1 h2
    go_wp2_with fail
    go_end0
    exact ⟨rfl, H1.out.1, H1.out.2⟩
  · have HA : Hid (Calls Try.prog 24 #[.pointer (some ⟨b, 0, none⟩), .bool true, .int .i64 (cI s)] w fun r w' => r = .returned (.tuple #[]) ∧ FlAt B w' b (orE e (ifI s)) (n + 1) av ∧ Kp B av w w') := by
      have := add_any B b e (cI s) n av true w h hn
      rw [if_some hs0]
      exact this
    have hq2 : (Ba s).toList.isEmpty = false := by
      rw [ba_list]
      cases s with
      | nil => exact absurd rfl hs0
      | cons a r => rfl
    clear h hs hs0 hq
    generalize ifI s = x at *
    generalize cI s = y at *
    generalize Ba s = z at *
    go_enter Try.func25, Try.ntmps25
    go_wp2_with fail
    refine Calls.mono (HN.out _) ?_
    rintro r w1 ⟨rfl, hw1⟩
    obtain rfl : w = w1 := hw1.symm
    go_wp2_with fail
    refine Calls.mono HA.out ?_
    rintro r w1 ⟨rfl, h1, h2⟩
    have H1 : Hid (FlAt B w1 b (orE e x) (n + 1) av ∧ Kp B av w w1) := ⟨h1, h2⟩
    clear h1 h2
    go_wp2_with fail
    go_end0
    exact ⟨rfl, H1.out.1, H1.out.2⟩
/-- what is wrong with a word, or with a name -/
def starI (star : Bool) (s : Bs) : Int := ifE (!star || !decide (s = [42])) (cI s)
theorem star_word (s : Bs) : starI true s = wordI s := by
  unfold starI wordI
  by_cases h : s = [42] <;> simp [h, ifE]
theorem star_name (s : Bs) : starI false s = cI s := rfl
theorem firstE_snoc {α : Type} (f : α → Int) : ∀ (l : List α) (x : α), firstE f (l ++ [x]) = orE (firstE f l) (f x)
  | [], x => by
    show (if f x = 0 then 0 else f x) = orE 0 (f x)
    rw [orE_r rfl]
    split <;> simp_all
  | y :: r, x => by
    rw [List.cons_append, firstE, firstE]
    by_cases h : f y = 0
    · rw [if_pos h, if_pos h]; exact firstE_snoc f r x
    · rw [if_neg h, if_neg h, orE_l h]
theorem firstE_take {α : Type} (f : α → Int) (l : List α) (k : Nat) (h : k < l.length) : firstE f (l.take (k + 1)) = orE (firstE f (l.take k)) (f l[k]) := by
  rw [List.take_succ_eq_append_getElem h, firstE_snoc]
set_option maxRecDepth 100000 in
set_option maxHeartbeats 4000000 in
theorem flnames_any (B b : Nat) (e : Int) (n : Nat) (av : Nat → Prop) (v : Value) (l : List Bs) (star : Bool) (w0 w : World) (h : FlAt B w b e n av) (hv : Strs w0 v l) (hw0 : w0.heap.size ≤ B) (hb0 : Below w0.heap.size w0 w) (hf : FitS l) (hn : n + l.length ≤ 10000000000000) :
    Calls Try.prog 29 #[.pointer (some ⟨b, 0, none⟩), v, .bool star] w fun r w' => r = .returned (.tuple #[]) ∧ FlAt B w' b (orE e (firstE (starI star) l)) (n + l.length) av ∧ Kp B av w w' := by
  obtain ⟨p, c, rfl, hln, hcell⟩ := hv.open
  have HC : Hid (∀ k (hk : k < l.length), ∃ g o, p = some ⟨g, o, none⟩ ∧ l.length ≤ c ∧ ∀ w1, Kp B av w w1 → w1.cell? ⟨g, o + k, none⟩ = some (.string (Ba l[k]))) := fun k hk => by
    obtain ⟨g, o, h1, h2, h3⟩ := hcell k hk
    exact ⟨g, o, h1, h2, fun w1 hk1 => h3 w1 (hb0.trans (hk1.bel.mono hw0))⟩
  have HN : Hid (∀ k (hk : k < l.length) w, Calls Try.prog 27 #[.string (Ba l[k])] w fun e w' => e = .returned (.int .i64 (cI l[k])) ∧ w' = w) := fun k hk w => nR_any _ w (hf _ (List.getElem_mem hk))
  have HA : Hid (∀ k (hk : k < l.length) w1 e', FlAt B w1 b e' (n + k) av → ∀ bad, Calls Try.prog 24 #[.pointer (some ⟨b, 0, none⟩), .bool bad, .int .i64 (cI l[k])] w1 fun r w' => r = .returned (.tuple #[]) ∧ FlAt B w' b (orE e' (ifE bad (cI l[k]))) (n + k + 1) av ∧ Kp B av w1 w') := fun k hk w1 e' h1 bad => add_any B b e' _ _ av bad w1 h1 (by omega)
  have HT : Hid (∀ k (hk : k < l.length), orE e (firstE (starI star) (l.take (k + 1))) = orE (orE e (firstE (starI star) (l.take k))) (ifE (!star || !decide (l[k] = [42])) (cI l[k]))) := fun k hk => by
    show _ = _
    rw [firstE_take _ _ _ hk, orE_assoc]; rfl
  have HF : Hid (FlAt B w b (orE e (firstE (starI star) (l.take 0))) (n + 0) av ∧ Kp B av w w) := ⟨by
    have : orE e (firstE (starI star) (l.take 0)) = e := by
      rw [List.take_zero]
      show orE e 0 = e
      unfold orE; split <;> simp_all
    rw [this]; exact h, Kp.of_below (Below.refl _ _) (by have := h.lt; have := h.1; omega)⟩
  have HQ : Hid (∀ s, ((Ba s).toList == [42]) = decide (s = [42])) := fun s => ba_is s [42]
  clear hcell hv hf h hb0
  unfold maxLen at hln
  go_enter Try.func29, Try.ntmps29
  go_wp2_with fail
  go_loopw [10] (fun i wr => ∃ k : Nat, k ≤ l.length ∧ i = .int .i64 k ∧ FlAt B wr b (orE e (firstE (starI star) (l.take k))) (n + k) av ∧ Kp B av w wr) (fun i _ => l.length - (intOf i).toNat)
  case atStart => exact ⟨0, Nat.zero_le _, rfl, HF.out.1, HF.out.2⟩
  case round =>
    obtain ⟨k, hk, rfl, hfl, hkp⟩ := hrel
    have HK : Hid (Kp B av w wr) := hkp
    have HFl : Hid (FlAt B wr b (orE e (firstE (starI star) (l.take k))) (n + k) av) := hfl
    clear hkp hfl HF
    by_cases hlt : k < l.length
    · obtain ⟨g, o, rfl, hlc, hc0⟩ := HC.out k hlt
      have hc := hc0 wr HK.out
      have HAk : Hid (_) := HA.out k hlt wr _ HFl.out
      have HNk := HN.out k hlt
      have HNk' : Hid (_) := HNk
      have hT := HT.out k hlt
      have HTk : Hid (_) := hT
      have hq := HQ.out l[k]
      clear hc0 HNk hT
      generalize orE e (firstE (starI star) (l.take k)) = ek at *
      generalize hek : orE e (firstE (starI star) (l.take (k + 1))) = ek1 at *
      generalize cI l[k] = ck at *
      generalize decide (l[k] = [42]) = d at *
      generalize Ba l[k] = y at *
      cases star with
      | false =>
        have HA2 : Hid (_) := HAk.out true
        go_wp2_with fail
        refine Calls.mono (HNk'.out _) ?_
        rintro r w1 ⟨rfl, rfl⟩
        go_wp2_with fail
        refine Calls.mono HA2.out ?_
        rintro r w1 ⟨rfl, h1, h2⟩
        have H1 : Hid (FlAt B w1 b ek1 (n + (k + 1)) av) := by
          show FlAt _ _ _ _ _ _
          rw [HTk.out, ← Nat.add_assoc]; exact h1
        have H2 : Hid (Kp B av w w1) := HK.out.trans h2
        clear h1 h2
        go_wp2_with fail
        go_roundw
        case rel => exact ⟨k + 1, by omega, by go_num, by rw [hek]; exact H1.out, H2.out⟩
        case measure => simp [intOf]; omega
      | true =>
        cases d with
        | true =>
          have HA2 : Hid (_) := HAk.out false
          go_wp2_with fail
          refine Calls.mono (HNk'.out _) ?_
          rintro r w1 ⟨rfl, rfl⟩
          go_wp2_with fail
          refine Calls.mono HA2.out ?_
          rintro r w1 ⟨rfl, h1, h2⟩
          have H1 : Hid (FlAt B w1 b ek1 (n + (k + 1)) av) := by
            show FlAt _ _ _ _ _ _
            rw [HTk.out, ← Nat.add_assoc]; exact h1
          have H2 : Hid (Kp B av w w1) := HK.out.trans h2
          clear h1 h2
          go_wp2_with fail
          go_roundw
          case rel => exact ⟨k + 1, by omega, by go_num, by rw [hek]; exact H1.out, H2.out⟩
          case measure => simp [intOf]; omega
        | false =>
          have HA2 : Hid (_) := HAk.out true
          go_wp2_with fail
          refine Calls.mono (HNk'.out _) ?_
          rintro r w1 ⟨rfl, rfl⟩
          go_wp2_with fail
          refine Calls.mono HA2.out ?_
          rintro r w1 ⟨rfl, h1, h2⟩
          have H1 : Hid (FlAt B w1 b ek1 (n + (k + 1)) av) := by
            show FlAt _ _ _ _ _ _
            rw [HTk.out, ← Nat.add_assoc]; exact h1
          have H2 : Hid (Kp B av w w1) := HK.out.trans h2
          clear h1 h2
          go_wp2_with fail
          go_roundw
          case rel => exact ⟨k + 1, by omega, by go_num, by rw [hek]; exact H1.out, H2.out⟩
          case measure => simp [intOf]; omega
    · have HKl : Hid (k = l.length) := by show _ = _; omega
      go_wp2_with fail
      go_end0
      have hfin := HFl.out
      rw [HKl.out, List.take_of_length_le (Nat.le_refl _)] at hfin
      exact ⟨rfl, hfin, HK.out⟩
set_option maxHeartbeats 1000000 in
theorem first_any (B b : Nat) (e : Int) (n : Nat) (av : Nat → Prop) (w : World) (h : FlAt B w b e n av) : ∃ v, w.cell? ⟨b, 0, none⟩ = some v ∧
    Calls Try.prog 30 #[v] w fun r w' => r = .returned (.int .i64 e) ∧ w' = w := by
  obtain ⟨h0, v, l, h1, h2, h3, h4, h5, h6, h7⟩ := h
  refine ⟨v, by rw [cell_of_row _ _ _ _ _ _ h1]; rfl, ?_⟩
  rcases owns_at h2 with ⟨rfl, hl⟩ | ⟨g, cap, rfl, hB, hg, hc, hm, hcell⟩
  · have hl0 : l = [] := List.eq_nil_of_length_eq_zero hl
    have HX : Hid (e = 0) := by show _ = _; rw [← h5, hl0]; rfl
    clear h0 h1 h2 h3 h4 h5 h6 h7 hl hl0
    go_enter Try.func30, Try.ntmps30
    go_wp2_with fail
    go_ret
    exact ⟨by rw [HX.out]; rfl, rfl⟩
  · cases l with
    | nil =>
      have HX : Hid (e = 0) := by show _ = _; rw [← h5]; rfl
      clear h0 h1 h2 h3 h4 h5 h6 h7 hcell
      go_enter Try.func30, Try.ntmps30
      go_wp2_with fail
      go_ret
      exact ⟨by rw [HX.out]; rfl, rfl⟩
    | cons x r =>
      have HX : Hid (e = x) := by show _ = _; rw [← h5]; rfl
      have hc0 : w.cell? ⟨g, 0, none⟩ = some (.int .i64 x) := hcell 0 _ rfl
      have hn0 : (((x :: r).length : Int) == 0) = false := by simp; omega
      have hcl : (x :: r).length ≤ cap := hc
      have hp : 0 < (x :: r).length := by simp
      unfold maxLen at hm
      clear h0 h1 h2 h3 h4 h5 h6 h7 hcell
      generalize (x :: r).length = ln at *
      go_enter Try.func30, Try.ntmps30
      go_wp2_with fail
      go_ret
      exact ⟨by rw [HX.out]; rfl, rfl⟩
end Go.Proofs.Ytnjjlnhchfoigaa
