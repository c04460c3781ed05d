/- Contract over this translation: the document's flaws of rules. -/
import Derived.Test.YtnjjlnhchfoigaaGrFlN
import Derived.Test.YtnjjlnhchfoigaaGrRules
namespace Go.Proofs.Ytnjjlnhchfoigaa
open Go.RowKit
set_option linter.unusedVariables false
set_option linter.unusedSimpArgs false
def ruleN (r : Rl) : Nat := 2 + r.1.length + r.2.1.length + r.2.2.length
def rulesN (l : List Rl) : Nat := 1 + (l.map ruleN).sum
theorem star_fun : starI true = wordI := funext star_word
theorem star_fun0 : starI false = cI := rfl
theorem sum_take (l : List Rl) (k : Nat) (h : k < l.length) : ((l.take (k + 1)).map ruleN).sum = ((l.take k).map ruleN).sum + ruleN l[k] := by
  rw [List.take_succ_eq_append_getElem h, List.map_append, List.sum_append]
  simp
theorem sum_take_le : ∀ (l : List Rl) (k : Nat), ((l.take k).map ruleN).sum ≤ (l.map ruleN).sum
  | [], k => by simp
  | x :: r, 0 => by simp
  | x :: r, k + 1 => by
    have := sum_take_le r k
    simp only [List.take_succ_cons, List.map_cons, List.sum_cons]
    omega
theorem rule_chain (e : Int) (r : Rl) : orE (orE (orE (orE (orE e (ifE (bigB r) 2)) (ifE (bareB r) 1)) (firstE (starI true) r.1)) (firstE (starI true) r.2.1)) (firstE (starI false) r.2.2) = orE e (ruleI r) := by
  rw [star_fun, star_fun0]
  unfold ruleI
  simp only [orE_assoc]
theorem bx3k {w w1 : World} {a b c : Value} {t : TypeId} {B : Nat} {av : Nat → Prop} (h : Kp B (fun k => av k ∨ k = w.heap.size) (w.alloc (.cells #[a, b, c] t)) w1) :
    w1.cell? ⟨w.heap.size, 0, none⟩ = some a ∧ w1.cell? ⟨w.heap.size, 1, none⟩ = some b ∧ w1.cell? ⟨w.heap.size, 2, none⟩ = some c := by
  have e := (h.kept w.heap.size (Or.inr rfl) (by simp)).trans (heap_alloc_new w _)
  refine ⟨?_, ?_, ?_⟩
  · rw [cell_of_row _ _ _ _ _ _ e]; rfl
  · rw [cell_of_row _ _ _ _ _ _ e]; rfl
  · rw [cell_of_row _ _ _ _ _ _ e]; rfl
set_option maxRecDepth 100000 in
set_option maxHeartbeats 8000000 in
theorem flrules_any (B b : Nat) (e : Int) (n : Nat) (av : Nat → Prop) (v : Value) (l : List Rl) (w0 w : World) (h : FlAt B w b e n av) (hv : Rls w0 v l) (hw0 : w0.heap.size ≤ B) (hb0 : Below w0.heap.size w0 w) (hf : ∀ r ∈ l, FitR r) (hn : n + rulesN l ≤ 10000000000000) :
    Calls Try.prog 28 #[.pointer (some ⟨b, 0, none⟩), v] w fun r w' => r = .returned (.tuple #[]) ∧ FlAt B w' b (orE e (rulesI l)) (n + rulesN l) av ∧ Kp B av w w' := by
  obtain ⟨p, c, rfl, hln, hcell⟩ := rls_open hv
  have HC : Hid (∀ k (hk : k < l.length), ∃ g o, p = some ⟨g, o, none⟩ ∧ l.length ≤ c ∧ ∃ p1 c1 p2 c2 p3 c3, (∀ w1, Kp B av w w1 → w1.cell? ⟨g, o + k * 3, none⟩ = some (.slice p1 l[k].1.length c1) ∧ w1.cell? ⟨g, o + k * 3 + 1, none⟩ = some (.slice p2 l[k].2.1.length c2) ∧ w1.cell? ⟨g, o + k * 3 + 2, none⟩ = some (.slice p3 l[k].2.2.length c3)) ∧
      Strs w0 (.slice p1 l[k].1.length c1) l[k].1 ∧ Strs w0 (.slice p2 l[k].2.1.length c2) l[k].2.1 ∧ Strs w0 (.slice p3 l[k].2.2.length c3) l[k].2.2) := fun k hk => by
    obtain ⟨g, o, h1, h2, h3, h4⟩ := hcell k hk
    obtain ⟨p1, n1, c1, p2, n2, c2, p3, n3, c3, k1, k2, k3, s1, s2, s3⟩ := h4 w0 (Below.refl _ _)
    obtain ⟨_, _, e1, _⟩ := s1.form
    obtain ⟨_, _, e2, _⟩ := s2.form
    obtain ⟨_, _, e3, _⟩ := s3.form
    injection e1 with _ e1 _
    injection e2 with _ e2 _
    injection e3 with _ e3 _
    subst e1 e2 e3
    refine ⟨g, o, h1, h2, p1, c1, p2, c2, p3, c3, fun w1 hk1 => ?_, s1, s2, s3⟩
    have hb := hb0.trans (hk1.bel.mono hw0)
    exact ⟨cell_stays k1 hb, cell_stays k2 hb, cell_stays k3 hb⟩
  have HFit : Hid (∀ k (hk : k < l.length), FitR l[k]) := fun k hk => hf _ (List.getElem_mem hk)
  have HSum : Hid (∀ k (hk : k < l.length), ((l.take (k + 1)).map ruleN).sum = ((l.take k).map ruleN).sum + ruleN l[k] ∧ ((l.take (k + 1)).map ruleN).sum ≤ (l.map ruleN).sum) := fun k hk => ⟨sum_take l k hk, sum_take_le l (k + 1)⟩
  have HT : Hid (∀ k (hk : k < l.length), orE (orE e (ifE (decide (8 < l.length)) 2)) (firstE ruleI (l.take (k + 1))) = orE (orE (orE e (ifE (decide (8 < l.length)) 2)) (firstE ruleI (l.take k))) (ruleI l[k])) := fun k hk => by
    show _ = _
    rw [firstE_take _ _ _ hk]
    simp only [orE_assoc]
  have HEnd : Hid (orE (orE e (ifE (decide (8 < l.length)) 2)) (firstE ruleI l) = orE e (rulesI l)) := by
    show _ = _
    unfold rulesI
    rw [orE_assoc]
  have HN : Hid (rulesN l = 1 + (l.map ruleN).sum) := rfl
  have HA0 : Hid (∀ bad, Calls Try.prog 24 #[.pointer (some ⟨b, 0, none⟩), .bool bad, .int .i64 2] w fun r w' => r = .returned (.tuple #[]) ∧ FlAt B w' b (orE e (ifE bad 2)) (n + 1) av ∧ Kp B av w w') := fun bad => add_any B b e 2 n av bad w h (by omega)
  have HBl : Hid (B ≤ b) := h.1
  have HW : Hid (Below w0.heap.size w0 w ∧ w0.heap.size ≤ B) := ⟨hb0, hw0⟩
  have HL8 : ((8 : Int) < (l.length : Int)) = (8 < l.length) := by simp; omega
  have hq8 : decide ((8 : Int) < (l.length : Int)) = decide (8 < l.length) := by simp only [HL8]
  clear hcell hv hf h hb0 hw0 HL8
  generalize orE e (rulesI l) = eR at *
  generalize rulesN l = nR at *
  generalize hsR : (l.map ruleN).sum = sR at *
  have HSR : Hid (sR = (l.map ruleN).sum) := hsR.symm
  clear hsR
  unfold maxLen at hln
  have hlI : (l.length : Int) ≤ 9223372036854775807 := by omega
  generalize hd8 : decide (8 < l.length) = d8 at *
  go_enter Try.func28, Try.ntmps28
  go_wp2_with fail
  refine Calls.mono (HA0.out _) ?_
  rintro r wa ⟨rfl, h1, h2⟩
  try rw [hq8] at h1
  have HFa : Hid (FlAt B wa b (orE (orE e (ifE d8 2)) (firstE ruleI (l.take 0))) (n + 1 + ((l.take 0).map ruleN).sum) av) := by
    show FlAt _ _ _ _ _ _
    have : orE (orE e (ifE d8 2)) (firstE ruleI (l.take 0)) = orE e (ifE d8 2) := by
      rw [List.take_zero]
      show orE _ 0 = _
      unfold orE; split <;> simp_all
    rw [this]
    exact h1
  have HKa : Hid (Kp B av w wa) := h2
  clear h1 h2
  go_wp2_with fail
  go_loopw [13] (fun i wr => ∃ k : Nat, k ≤ l.length ∧ i = .int .i64 k ∧ FlAt B wr b (orE (orE e (ifE d8 2)) (firstE ruleI (l.take k))) (n + 1 + ((l.take k).map ruleN).sum) av ∧ Kp B av w wr) (fun i _ => l.length - (intOf i).toNat)
  case atStart => exact ⟨0, Nat.zero_le _, rfl, HFa.out, HKa.out⟩
  case round =>
    obtain ⟨k, hk, rfl, hfl, hkp⟩ := hrel
    have HK : Hid (Kp B av w wr) := hkp
    have HFl : Hid (FlAt B wr b (orE (orE e (ifE d8 2)) (firstE ruleI (l.take k))) (n + 1 + ((l.take k).map ruleN).sum) av) := hfl
    clear hkp hfl HFa HKa
    by_cases hlt : k < l.length
    · obtain ⟨g, o, rfl, hlc, p1, c1, p2, c2, p3, c3, hc0, s1, s2, s3⟩ := HC.out k hlt
      obtain ⟨i1, i2, i3⟩ := hc0 wr HK.out
      have HTk : Hid (_) := HT.out k hlt
      have hfit := HFit.out k hlt
      have hsum := HSum.out k hlt
      have hrc : ∀ e', orE (orE (orE (orE (orE e' (ifE (bigB l[k]) 2)) (ifE (bareB l[k]) 1)) (firstE (starI true) l[k].1)) (firstE (starI true) l[k].2.1)) (firstE (starI false) l[k].2.2) = orE e' (ruleI l[k]) := fun e' => rule_chain e' l[k]
      have hbig := big_max l[k].1.length l[k].2.1.length l[k].2.2.length
      have hbg2 : bigB l[k] = (decide (6 < l[k].1.length) || decide (6 < l[k].2.1.length) || decide (6 < l[k].2.2.length)) := rfl
      have hbr2 : bareB l[k] = (decide (l[k].1.length = 0) || decide (l[k].2.1.length = 0)) := rfl
      have hrn : ruleN l[k] = 2 + l[k].1.length + l[k].2.1.length + l[k].2.2.length := rfl
      have m1 := s1.form.choose_spec.choose_spec.2
      have m2 := s2.form.choose_spec.choose_spec.2
      have m3 := s3.form.choose_spec.choose_spec.2
      clear hc0
      generalize hek : orE (orE e (ifE d8 2)) (firstE ruleI (l.take k)) = ek at *
      generalize hek1 : orE (orE e (ifE d8 2)) (firstE ruleI (l.take (k + 1))) = ek1 at *
      generalize hsk : ((l.take k).map ruleN).sum = sk at *
      generalize hsk1 : ((l.take (k + 1)).map ruleN).sum = sk1 at *
      generalize l[k] = r1 at *
      obtain ⟨t1, t2, t3⟩ := r1
      dsimp only at *
      have HFn : Hid (FlAt B (wr.alloc (.cells #[.slice p1 t1.length c1, .slice p2 t2.length c2, .slice p3 t3.length c3] 42)) b ek (n + 1 + sk) (fun k => av k ∨ k = wr.heap.size)) := HFl.out.also _
      obtain ⟨wn, hwn⟩ : ∃ wn, wn = wr.alloc (.cells #[.slice p1 t1.length c1, .slice p2 t2.length c2, .slice p3 t3.length c3] 42) := ⟨_, rfl⟩
      have HBx : Hid (∀ w1, Kp B (fun k => av k ∨ k = wr.heap.size) wn w1 → w1.cell? ⟨wr.heap.size, 0, none⟩ = some (.slice p1 t1.length c1) ∧ w1.cell? ⟨wr.heap.size, 1, none⟩ = some (.slice p2 t2.length c2) ∧ w1.cell? ⟨wr.heap.size, 2, none⟩ = some (.slice p3 t3.length c3)) := fun w1 h => by rw [hwn] at h; exact bx3k h
      rw [← hwn] at HFn
      have hBn : Below wr.heap.size wr wn := by rw [hwn]; exact (Below.refl _ _).alloc (Nat.le_refl _) _
      have HWn : Hid (wn = wr.alloc (.cells #[.slice p1 t1.length c1, .slice p2 t2.length c2, .slice p3 t3.length c3] 42)) := hwn
      have hBr : B ≤ wr.heap.size := by have := HFl.out.lt; have := HFl.out.1; omega
      have HKn : Hid (Kp B av wr wn) := Kp.of_below hBn hBr
      have HAd : Hid (∀ w1 e' m bad x, FlAt B w1 b e' m (fun k => av k ∨ k = wr.heap.size) → m ≤ 10000000000000 → Calls Try.prog 24 #[.pointer (some ⟨b, 0, none⟩), .bool bad, .int .i64 x] w1 fun r w' => r = .returned (.tuple #[]) ∧ FlAt B w' b (orE e' (ifE bad x)) (m + 1) (fun k => av k ∨ k = wr.heap.size) ∧ Kp B (fun k => av k ∨ k = wr.heap.size) w1 w') := fun w1 e' m bad x h hm => add_any B b e' x m _ bad w1 h hm
      have HW1 : Hid (∀ w1, Kp B (fun k => av k ∨ k = wr.heap.size) wn w1 → Below w0.heap.size w0 w1) := fun w1 h1 => HW.out.1.trans (((HK.out.trans HKn.out).bel.trans h1.bel).mono HW.out.2)
      have HN1 : Hid (∀ w1 e' m, FlAt B w1 b e' m (fun k => av k ∨ k = wr.heap.size) → Kp B (fun k => av k ∨ k = wr.heap.size) wn w1 → m + t1.length ≤ 10000000000000 → Calls Try.prog 29 #[.pointer (some ⟨b, 0, none⟩), .slice p1 t1.length c1, .bool true] w1 fun r w' => r = .returned (.tuple #[]) ∧ FlAt B w' b (orE e' (firstE (starI true) t1)) (m + t1.length) (fun k => av k ∨ k = wr.heap.size) ∧ Kp B (fun k => av k ∨ k = wr.heap.size) w1 w') := fun w1 e' m h hk1 hm => flnames_any B b e' m _ _ t1 true w0 w1 h s1 HW.out.2 (HW1.out w1 hk1) hfit.1 hm
      have HN2 : Hid (∀ w1 e' m, FlAt B w1 b e' m (fun k => av k ∨ k = wr.heap.size) → Kp B (fun k => av k ∨ k = wr.heap.size) wn w1 → m + t2.length ≤ 10000000000000 → Calls Try.prog 29 #[.pointer (some ⟨b, 0, none⟩), .slice p2 t2.length c2, .bool true] w1 fun r w' => r = .returned (.tuple #[]) ∧ FlAt B w' b (orE e' (firstE (starI true) t2)) (m + t2.length) (fun k => av k ∨ k = wr.heap.size) ∧ Kp B (fun k => av k ∨ k = wr.heap.size) w1 w') := fun w1 e' m h hk1 hm => flnames_any B b e' m _ _ t2 true w0 w1 h s2 HW.out.2 (HW1.out w1 hk1) hfit.2.1 hm
      have HN3 : Hid (∀ w1 e' m, FlAt B w1 b e' m (fun k => av k ∨ k = wr.heap.size) → Kp B (fun k => av k ∨ k = wr.heap.size) wn w1 → m + t3.length ≤ 10000000000000 → Calls Try.prog 29 #[.pointer (some ⟨b, 0, none⟩), .slice p3 t3.length c3, .bool false] w1 fun r w' => r = .returned (.tuple #[]) ∧ FlAt B w' b (orE e' (firstE (starI false) t3)) (m + t3.length) (fun k => av k ∨ k = wr.heap.size) ∧ Kp B (fun k => av k ∨ k = wr.heap.size) w1 w') := fun w1 e' m h hk1 hm => flnames_any B b e' m _ _ t3 false w0 w1 h s3 HW.out.2 (HW1.out w1 hk1) hfit.2.2 hm
      have HRc : Hid (∀ e', orE (orE (orE (orE (orE e' (ifE (bigB (t1, t2, t3)) 2)) (ifE (bareB (t1, t2, t3)) 1)) (firstE (starI true) t1)) (firstE (starI true) t2)) (firstE (starI false) t3) = orE e' (ruleI (t1, t2, t3))) := hrc
      have HSm : Hid (sk1 = sk + (2 + t1.length + t2.length + t3.length) ∧ sk1 ≤ sR) := ⟨by rw [hsum.1, hrn], hsum.2⟩
      have HNn : Hid (n + (1 + sR) ≤ 10000000000000) := by have := HN.out; show _ ≤ _; omega
      rw [← hbg2] at hbig
      have HS1 : Hid (((l.take (k + 1)).map ruleN).sum = sk1) := hsk1
      have HE1 : Hid (orE (orE e (ifE d8 2)) (firstE ruleI (l.take (k + 1))) = ek1) := hek1
      clear hbg2 hfit hsum hrc hrn s1 s2 s3 hBn hBr hwn HC HFit HSum HT HEnd HA0 hek hsk hsk1 hek1
      generalize bigB (t1, t2, t3) = big at *
      generalize bareB (t1, t2, t3) = bare at *
      generalize firstE (starI true) t1 = f1 at *
      generalize firstE (starI true) t2 = f2 at *
      generalize firstE (starI false) t3 = f3 at *
      generalize ruleI (t1, t2, t3) = rI at *
      generalize t1.length = n1 at *
      generalize t2.length = n2 at *
      generalize t3.length = n3 at *
      obtain ⟨m, hm, hrun⟩ := run_max3 n1 n2 n3
      rw [← hm] at hbig
      have hI : decide ((6 : Int) < m) = big := hbig.symm
      have HBr : Hid (bare = (decide (n1 = 0) || decide (n2 = 0))) := hbr2
      have y2 : ((n2 : Int) == 0) = decide (n2 = 0) := by rw [Bool.eq_iff_iff]; simp
      clear hm hbig hbr2
      unfold maxLen at m1 m2 m3
      by_cases z1 : n1 = 0
      · have y1 : ((n1 : Int) == 0) = true := by simp; omega
        have HBe : Hid (bare = true) := by show _ = _; rw [HBr.out, decide_eq_true z1]; rfl
        clear z1
        go_wp2_with fail
        rw [← HWn.out]
        refine Calls.mono (HAd.out _ _ _ _ _ HFn.out (by have := HNn.out; have := HSm.out; omega)) ?_
        rintro r wb ⟨rfl, h1, h2⟩
        have HF1 : Hid (FlAt B wb b (orE ek (ifE big 2)) (n + 1 + sk + 1) (fun k => av k ∨ k = wr.heap.size)) := by
          show FlAt _ _ _ _ _ _
          first
            | exact h1
            | (rw [hI] at h1; exact h1)
        have HK1 : Hid (Kp B (fun k => av k ∨ k = wr.heap.size) wn wb) := h2
        obtain ⟨z0, z1, z2⟩ := HBx.out wb h2
        clear h1 h2
        go_wp2_with fail
        refine Calls.mono (HAd.out _ _ _ _ _ HF1.out (by have := HNn.out; have := HSm.out; omega)) ?_
        rintro r wc ⟨rfl, h1, h2⟩
        have HF2 : Hid (FlAt B wc b (orE (orE ek (ifE big 2)) (ifE bare 1)) (n + 1 + sk + 1 + 1) (fun k => av k ∨ k = wr.heap.size)) := by
          show FlAt _ _ _ _ _ _
          rw [HBe.out]
          first
            | exact h1
            | (rw [y2] at h1; exact h1)
        have HK2 : Hid (Kp B (fun k => av k ∨ k = wr.heap.size) wn wc) := HK1.out.trans h2
        clear h1 h2 z0 z1 z2
        obtain ⟨z0, z1, z2⟩ := HBx.out wc HK2.out
        go_wp2_with fail
        refine Calls.mono (HN1.out _ _ _ HF2.out HK2.out (by have := HNn.out; have := HSm.out; omega)) ?_
        rintro r wd ⟨rfl, h1, h2⟩
        have HF3 : Hid (_) := h1
        have HK3 : Hid (Kp B (fun k => av k ∨ k = wr.heap.size) wn wd) := HK2.out.trans h2
        clear h1 h2 z0 z1 z2
        obtain ⟨z0, z1, z2⟩ := HBx.out wd HK3.out
        go_wp2_with fail
        refine Calls.mono (HN2.out _ _ _ HF3.out HK3.out (by have := HNn.out; have := HSm.out; omega)) ?_
        rintro r we ⟨rfl, h1, h2⟩
        have HF4 : Hid (_) := h1
        have HK4 : Hid (Kp B (fun k => av k ∨ k = wr.heap.size) wn we) := HK3.out.trans h2
        clear h1 h2 z0 z1 z2
        obtain ⟨z0, z1, z2⟩ := HBx.out we HK4.out
        go_wp2_with fail
        refine Calls.mono (HN3.out _ _ _ HF4.out HK4.out (by have := HNn.out; have := HSm.out; omega)) ?_
        rintro r wf ⟨rfl, h1, h2⟩
        have HF5 : Hid (FlAt B wf b ek1 (n + 1 + sk1) av) := by
          show FlAt _ _ _ _ _ _
          rw [HTk.out, ← HRc.out, HSm.out.1]
          exact (h1.less (fun k hk => Or.inl hk)).more (by omega)
        have HK5 : Hid (Kp B av w wf) := (HK.out.trans HKn.out).trans ((HK4.out.trans h2).less (fun k hk => Or.inl hk))
        clear h1 h2 z0 z1 z2
        go_wp2_with fail
        go_roundw
        case rel => exact ⟨k + 1, by omega, by go_num, by rw [HE1.out, HS1.out]; exact HF5.out, HK5.out⟩
        case measure => simp [intOf]; omega
      · have y1 : ((n1 : Int) == 0) = false := by simp; omega
        have HBe : Hid (bare = decide (n2 = 0)) := by show _ = _; rw [HBr.out, decide_eq_false z1]; rfl
        clear z1
        go_wp2_with fail
        rw [← HWn.out]
        refine Calls.mono (HAd.out _ _ _ _ _ HFn.out (by have := HNn.out; have := HSm.out; omega)) ?_
        rintro r wb ⟨rfl, h1, h2⟩
        have HF1 : Hid (FlAt B wb b (orE ek (ifE big 2)) (n + 1 + sk + 1) (fun k => av k ∨ k = wr.heap.size)) := by
          show FlAt _ _ _ _ _ _
          first
            | exact h1
            | (rw [hI] at h1; exact h1)
        have HK1 : Hid (Kp B (fun k => av k ∨ k = wr.heap.size) wn wb) := h2
        obtain ⟨z0, z1, z2⟩ := HBx.out wb h2
        clear h1 h2
        go_wp2_with fail
        refine Calls.mono (HAd.out _ _ _ _ _ HF1.out (by have := HNn.out; have := HSm.out; omega)) ?_
        rintro r wc ⟨rfl, h1, h2⟩
        have HF2 : Hid (FlAt B wc b (orE (orE ek (ifE big 2)) (ifE bare 1)) (n + 1 + sk + 1 + 1) (fun k => av k ∨ k = wr.heap.size)) := by
          show FlAt _ _ _ _ _ _
          rw [HBe.out]
          first
            | exact h1
            | (rw [y2] at h1; exact h1)
        have HK2 : Hid (Kp B (fun k => av k ∨ k = wr.heap.size) wn wc) := HK1.out.trans h2
        clear h1 h2 z0 z1 z2
        obtain ⟨z0, z1, z2⟩ := HBx.out wc HK2.out
        go_wp2_with fail
        refine Calls.mono (HN1.out _ _ _ HF2.out HK2.out (by have := HNn.out; have := HSm.out; omega)) ?_
        rintro r wd ⟨rfl, h1, h2⟩
        have HF3 : Hid (_) := h1
        have HK3 : Hid (Kp B (fun k => av k ∨ k = wr.heap.size) wn wd) := HK2.out.trans h2
        clear h1 h2 z0 z1 z2
        obtain ⟨z0, z1, z2⟩ := HBx.out wd HK3.out
        go_wp2_with fail
        refine Calls.mono (HN2.out _ _ _ HF3.out HK3.out (by have := HNn.out; have := HSm.out; omega)) ?_
        rintro r we ⟨rfl, h1, h2⟩
        have HF4 : Hid (_) := h1
        have HK4 : Hid (Kp B (fun k => av k ∨ k = wr.heap.size) wn we) := HK3.out.trans h2
        clear h1 h2 z0 z1 z2
        obtain ⟨z0, z1, z2⟩ := HBx.out we HK4.out
        go_wp2_with fail
        refine Calls.mono (HN3.out _ _ _ HF4.out HK4.out (by have := HNn.out; have := HSm.out; omega)) ?_
        rintro r wf ⟨rfl, h1, h2⟩
        have HF5 : Hid (FlAt B wf b ek1 (n + 1 + sk1) av) := by
          show FlAt _ _ _ _ _ _
          rw [HTk.out, ← HRc.out, HSm.out.1]
          exact (h1.less (fun k hk => Or.inl hk)).more (by omega)
        have HK5 : Hid (Kp B av w wf) := (HK.out.trans HKn.out).trans ((HK4.out.trans h2).less (fun k hk => Or.inl hk))
        clear h1 h2 z0 z1 z2
        go_wp2_with fail
        go_roundw
        case rel => exact ⟨k + 1, by omega, by go_num, by rw [HE1.out, HS1.out]; exact HF5.out, HK5.out⟩
        case measure => simp [intOf]; omega
    · have HKl : Hid (k = l.length) := by show _ = _; omega
      go_wp2_with fail
      go_end0
      have hfin := HFl.out
      rw [HKl.out, List.take_of_length_le (Nat.le_refl _), HEnd.out] at hfin
      have hnn : n + 1 + (l.map ruleN).sum = n + nR := by rw [HN.out, HSR.out]; omega
      exact ⟨rfl, by rw [← hnn]; exact hfin, HK.out⟩
end Go.Proofs.Ytnjjlnhchfoigaa
