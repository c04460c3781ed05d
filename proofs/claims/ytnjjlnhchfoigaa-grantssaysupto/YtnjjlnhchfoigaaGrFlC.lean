/- Contract over this translation: the document's GrantsCheck. -/
import Derived.Test.YtnjjlnhchfoigaaGrFlR
import Derived.Test.YtnjjlnhchfoigaaGrCheck
namespace Go.Proofs.Ytnjjlnhchfoigaa
open Go.RowKit
set_option linter.unusedVariables false
set_option linter.unusedSimpArgs false
theorem firstA_snoc {α : Type} (f : List α → α → Int) : ∀ (l p : List α) (x : α), firstA f p (l ++ [x]) = orE (firstA f p l) (f (p ++ l) x)
  | [], p, x => by
    show (if f p x = 0 then 0 else f p x) = orE 0 (f (p ++ []) x)
    rw [orE_r rfl, List.append_nil]
    split <;> simp_all
  | y :: r, p, x => by
    rw [List.cons_append, firstA, firstA]
    by_cases h : f p y = 0
    · rw [if_pos h, if_pos h, firstA_snoc f r (p ++ [y]) x, List.append_assoc]; rfl
    · rw [if_neg h, if_neg h, orE_l h]
theorem firstA_take {α : Type} (f : List α → α → Int) (l : List α) (k : Nat) (h : k < l.length) : firstA f [] (l.take (k + 1)) = orE (firstA f [] (l.take k)) (f (l.take k) l[k]) := by
  rw [List.take_succ_eq_append_getElem h, firstA_snoc]; rfl
theorem ifE_or (e : Int) (a b : Bool) (x : Int) : orE (orE e (ifE a x)) (ifE b x) = orE e (ifE (a || b) x) := by
  rw [orE_assoc]
  cases a with
  | false => rfl
  | true =>
    show orE e (orE x _) = orE e x
    by_cases hx : x = 0
    · subst hx
      cases b <;> rfl
    · rw [orE_l hx]
theorem roleB_take {rs : List Ro} {r : Ro} {k : Nat} (hk : k < rs.length) : roleB (rs.take (k + 1)) r = (roleB (rs.take k) r || (decide (rs[k].1 = r.1) && decide (rs[k].2.1 = r.2.1))) := by
  unfold roleB
  rw [List.take_succ_eq_append_getElem hk, List.any_append]
  simp
theorem bindB_take {rs : List Bi} {r : Bi} {k : Nat} (hk : k < rs.length) : bindB (rs.take (k + 1)) r = (bindB (rs.take k) r || (decide (rs[k].1 = r.1) && decide (rs[k].2.1 = r.2.1))) := by
  unfold bindB
  rw [List.take_succ_eq_append_getElem hk, List.any_append]
  simp
theorem role_chainE (e : Int) (p : List Ro) (r : Ro) : orE (orE (orE (orE e (ifI r.1)) (cI r.2.1)) (ifE (roleB p r) 5)) (rulesI r.2.2) = orE e (roleI p r) := by
  unfold roleI placeI
  simp only [orE_assoc]
theorem bind_chainE (e : Int) (p : List Bi) (b : Bi) : orE (orE (orE (orE (orE (orE (orE (orE e (ifI b.1)) (cI b.2.1)) (cI b.2.2.1)) (ifE (bindB p b) 5)) (ifE (decide (b.1 = []) && !b.2.2.2.1) 1)) (ifE (decide (6 < b.2.2.2.2.1.length) || decide (6 < b.2.2.2.2.2.length)) 2)) (firstE (starI false) b.2.2.2.2.1)) (firstE (starI false) b.2.2.2.2.2) = orE e (bindI p b) := by
  rw [star_fun0]
  unfold bindI placeI
  simp only [orE_assoc]
def roN (m : Nat) (r : Ro) : Nat := 2 + m + rulesN r.2.2
def biN (m : Nat) (b : Bi) : Nat := 6 + m + b.2.2.2.2.1.length + b.2.2.2.2.2.length
/-- how many flaws there may be -/
def grN (rs : List Ro) (bs : List Bi) : Nat := 1 + (rs.map (roN rs.length)).sum + (bs.map (biN bs.length)).sum
theorem sumf_take {α : Type} (f : α → Nat) (l : List α) (k : Nat) (h : k < l.length) : ((l.take (k + 1)).map f).sum = ((l.take k).map f).sum + f l[k] := by
  rw [List.take_succ_eq_append_getElem h, List.map_append, List.sum_append]
  simp
theorem sumf_le {α : Type} (f : α → Nat) : ∀ (l : List α) (k : Nat), ((l.take k).map f).sum ≤ (l.map f).sum
  | [], k => by simp
  | x :: r, 0 => by simp
  | x :: r, k + 1 => by
    have := sumf_le f r k
    simp only [List.take_succ_cons, List.map_cons, List.sum_cons]
    omega
theorem bx6k {w w1 : World} {a b c d e f : Value} {t : TypeId} {B : Nat} {av : Nat → Prop} (h : Kp B (fun k => av k ∨ k = w.heap.size) (w.alloc (.cells #[a, b, c, d, e, f] t)) w1) :
    w1.cell? ⟨w.heap.size, 0, none⟩ = some a ∧ w1.cell? ⟨w.heap.size, 1, none⟩ = some b ∧ w1.cell? ⟨w.heap.size, 2, none⟩ = some c ∧ w1.cell? ⟨w.heap.size, 3, none⟩ = some d ∧ w1.cell? ⟨w.heap.size, 4, none⟩ = some e ∧ w1.cell? ⟨w.heap.size, 5, none⟩ = some f := by
  have q := (h.kept w.heap.size (Or.inr rfl) (by simp)).trans (heap_alloc_new w _)
  refine ⟨?_, ?_, ?_, ?_, ?_, ?_⟩
  all_goals (rw [cell_of_row _ _ _ _ _ _ q]; rfl)
set_option maxRecDepth 100000 in
set_option maxHeartbeats 16000000 in
theorem grantsR_any (u v : Value) (rs : List Ro) (bs : List Bi) (w : World) (hg : Grs w u v rs bs) (hN : grN rs bs ≤ 10000000000000) :
    Calls Try.prog 8 #[.agg #[u, v]] w fun e w' => e = .returned (.int .i64 (grI rs bs)) ∧ Below w.heap.size w w' := by
  obtain ⟨hu, hv, hfo, hfb⟩ := hg
  obtain ⟨p, c, rfl, hn, hcell⟩ := Sq.open roAt_stays hu
  obtain ⟨p2, c2, rfl, hn2, hcell2⟩ := bis_open hv
  have HC : Hid (∀ k (hk : k < rs.length), ∃ g o p3 c3, p = some ⟨g, o, none⟩ ∧ rs.length ≤ c ∧ Rls w (.slice p3 rs[k].2.2.length c3) rs[k].2.2 ∧ ∀ w1, Below w.heap.size w w1 →
      w1.cell? ⟨g, o + k * 3, none⟩ = some (.string (Ba rs[k].1)) ∧ w1.cell? ⟨g, o + k * 3 + 1, none⟩ = some (.string (Ba rs[k].2.1)) ∧ w1.cell? ⟨g, o + k * 3 + 2, none⟩ = some (.slice p3 rs[k].2.2.length c3)) := fun k hk => by
    obtain ⟨g, o, h1, h2, h3, h4⟩ := hcell k hk
    obtain ⟨k1, k2, d, k3, s3⟩ := h4 w (Below.refl _ _)
    obtain ⟨p3, c3, rfl, _⟩ := Sq.form s3
    exact ⟨g, o, p3, c3, h1, h2, s3, fun w1 hb => ⟨cell_stays k1 hb, cell_stays k2 hb, cell_stays k3 hb⟩⟩
  have HC2 : Hid (∀ k (hk : k < bs.length), ∃ g o p4 c4 p5 c5, p2 = some ⟨g, o, none⟩ ∧ bs.length ≤ c2 ∧ Strs w (.slice p4 bs[k].2.2.2.2.1.length c4) bs[k].2.2.2.2.1 ∧ Strs w (.slice p5 bs[k].2.2.2.2.2.length c5) bs[k].2.2.2.2.2 ∧ ∀ w1, Below w.heap.size w w1 →
      w1.cell? ⟨g, o + k * 6, none⟩ = some (.string (Ba bs[k].1)) ∧ w1.cell? ⟨g, o + k * 6 + 1, none⟩ = some (.string (Ba bs[k].2.1)) ∧ w1.cell? ⟨g, o + k * 6 + 2, none⟩ = some (.string (Ba bs[k].2.2.1)) ∧ w1.cell? ⟨g, o + k * 6 + 3, none⟩ = some (.bool bs[k].2.2.2.1) ∧
      w1.cell? ⟨g, o + k * 6 + 4, none⟩ = some (.slice p4 bs[k].2.2.2.2.1.length c4) ∧ w1.cell? ⟨g, o + k * 6 + 5, none⟩ = some (.slice p5 bs[k].2.2.2.2.2.length c5)) := fun k hk => by
    obtain ⟨g, o, h1, h2, h3, h4⟩ := hcell2 k hk
    obtain ⟨p4, c4, p5, c5, k1, k2, k3, k4, k5, k6, s4, s5⟩ := h4 w (Below.refl _ _)
    exact ⟨g, o, p4, c4, p5, c5, h1, h2, s4, s5, fun w1 hb => ⟨cell_stays k1 hb, cell_stays k2 hb, cell_stays k3 hb, cell_stays k4 hb, cell_stays k5 hb, cell_stays k6 hb⟩⟩
  have HFo : Hid (∀ k (hk : k < rs.length), FitO rs[k]) := fun k hk => hfo _ (List.getElem_mem hk)
  have HFb : Hid (∀ k (hk : k < bs.length), FitB bs[k]) := fun k hk => hfb _ (List.getElem_mem hk)
  have HSo : Hid (∀ k (hk : k < rs.length), ((rs.take (k + 1)).map (roN rs.length)).sum = ((rs.take k).map (roN rs.length)).sum + (2 + rs.length + rulesN rs[k].2.2) ∧ ((rs.take (k + 1)).map (roN rs.length)).sum ≤ (rs.map (roN rs.length)).sum) := fun k hk => ⟨sumf_take _ rs k hk, sumf_le _ rs (k + 1)⟩
  have HSb : Hid (∀ k (hk : k < bs.length), ((bs.take (k + 1)).map (biN bs.length)).sum = ((bs.take k).map (biN bs.length)).sum + (6 + bs.length + bs[k].2.2.2.2.1.length + bs[k].2.2.2.2.2.length) ∧ ((bs.take (k + 1)).map (biN bs.length)).sum ≤ (bs.map (biN bs.length)).sum) := fun k hk => ⟨sumf_take _ bs k hk, sumf_le _ bs (k + 1)⟩
  have HTo : Hid (∀ e k (hk : k < rs.length), orE e (firstA roleI [] (rs.take (k + 1))) = orE (orE e (firstA roleI [] (rs.take k))) (roleI (rs.take k) rs[k])) := fun e k hk => by
    show _ = _
    rw [firstA_take _ _ _ hk, orE_assoc]
  have HTb : Hid (∀ e k (hk : k < bs.length), orE e (firstA bindI [] (bs.take (k + 1))) = orE (orE e (firstA bindI [] (bs.take k))) (bindI (bs.take k) bs[k])) := fun e k hk => by
    show _ = _
    rw [firstA_take _ _ _ hk, orE_assoc]
  have HEnd : Hid (orE (orE (ifE (decide (12 < rs.length) || decide (12 < bs.length)) 2) (firstA roleI [] rs)) (firstA bindI [] bs) = grI rs bs) := by
    show _ = _
    unfold grI
    rw [orE_assoc]
  have HNn : Hid (1 + (rs.map (roN rs.length)).sum + (bs.map (biN bs.length)).sum ≤ 10000000000000) := hN
  -- the boxes
  obtain ⟨w0, hw0⟩ : ∃ w0, w0 = (w.alloc (.cells #[.slice p rs.length c, .slice p2 bs.length c2] 25)).alloc (.cells #[.slice none 0 0] 58) := ⟨_, rfl⟩
  have hs0 : (w.alloc (.cells #[.slice p rs.length c, .slice p2 bs.length c2] 25)).heap.size = w.heap.size + 1 := by simp
  have hB1 : Below w.heap.size w (w.alloc (.cells #[.slice p rs.length c, .slice p2 bs.length c2] 25)) := (Below.refl _ _).alloc (Nat.le_refl _) _
  have hB0 : Below w.heap.size w w0 := by rw [hw0]; exact hB1.alloc hB1.size _
  have hfl0 : FlAt w.heap.size w0 (w.heap.size + 1) 0 0 (fun k => k = w.heap.size) := by
    refine ⟨by omega, .slice none 0 0, [], ?_, World.ownsRow_nil _ _ _ _, (fun e => by cases e), Nat.le_refl _, rfl, (fun x hx => by simp at hx), fun k hk => ?_⟩
    · rw [hw0, ← hs0]; exact heap_alloc_new _ _
    · subst hk
      exact ⟨by rw [hw0]; simp; omega, by omega, fun e => by cases e⟩
  have HBg : Hid (∀ w1, Kp w.heap.size (fun k => k = w.heap.size) w0 w1 → w1.cell? ⟨w.heap.size, 0, none⟩ = some (.slice p rs.length c) ∧ w1.cell? ⟨w.heap.size, 1, none⟩ = some (.slice p2 bs.length c2)) := fun w1 h => by
    have q0 : w0.heap[w.heap.size]? = some (.cells #[.slice p rs.length c, .slice p2 bs.length c2] 25 (0, 0)) := by
      rw [hw0]
      exact (Below.heap_alloc _ _ _ (by rw [hs0]; omega)).trans (heap_alloc_new w _)
    have q := (h.kept w.heap.size rfl (by rw [hw0]; simp; omega)).trans q0
    exact ⟨by rw [cell_of_row _ _ _ _ _ _ q]; rfl, by rw [cell_of_row _ _ _ _ _ _ q]; rfl⟩
  have HB0 : Hid (Below w.heap.size w w0) := hB0
  have HF0 : Hid (FlAt w.heap.size w0 (w.heap.size + 1) 0 0 (fun k => k = w.heap.size)) := hfl0
  have HW0 : Hid (w0 = (w.alloc (.cells #[.slice p rs.length c, .slice p2 bs.length c2] 25)).alloc (.cells #[.slice none 0 0] 58)) := hw0
  have HAd : Hid (∀ w1 e' m av bad x, FlAt w.heap.size w1 (w.heap.size + 1) e' m av → m ≤ 10000000000000 → Calls Try.prog 24 #[.pointer (some ⟨w.heap.size + 1, 0, none⟩), .bool bad, .int .i64 x] w1 fun r w' => r = .returned (.tuple #[]) ∧ FlAt w.heap.size w' (w.heap.size + 1) (orE e' (ifE bad x)) (m + 1) av ∧ Kp w.heap.size av w1 w') := fun w1 e' m av bad x h hm => add_any _ _ e' x m av bad w1 h hm
  have HSa : Hid (∀ w1 e' m av x, FlAt w.heap.size w1 (w.heap.size + 1) e' m av → m ≤ 10000000000000 → Calls Try.prog 26 #[.pointer (some ⟨w.heap.size + 1, 0, none⟩), .int .i64 x] w1 fun r w' => r = .returned (.tuple #[]) ∧ FlAt w.heap.size w' (w.heap.size + 1) (orE e' x) (m + 1) av ∧ Kp w.heap.size av w1 w') := fun w1 e' m av x h hm => says_any _ _ e' x m av w1 h hm
  have HSp : Hid (∀ w1 e' m av s, s.length ≤ maxLen → FlAt w.heap.size w1 (w.heap.size + 1) e' m av → m ≤ 10000000000000 → Calls Try.prog 25 #[.pointer (some ⟨w.heap.size + 1, 0, none⟩), .string (Ba s)] w1 fun r w' => r = .returned (.tuple #[]) ∧ FlAt w.heap.size w' (w.heap.size + 1) (orE e' (ifI s)) (m + 1) av ∧ Kp w.heap.size av w1 w') := fun w1 e' m av s hs h hm => space_any _ _ e' m av s w1 h hm hs
  have HNm : Hid (∀ s w1, s.length ≤ maxLen → Calls Try.prog 27 #[.string (Ba s)] w1 fun e w' => e = .returned (.int .i64 (cI s)) ∧ w' = w1) := fun s w1 hs => nR_any s w1 hs
  have HRu : Hid (∀ w1 e' m av v l, Rls w v l → (∀ r ∈ l, FitR r) → Below w.heap.size w w1 → FlAt w.heap.size w1 (w.heap.size + 1) e' m av → m + rulesN l ≤ 10000000000000 → Calls Try.prog 28 #[.pointer (some ⟨w.heap.size + 1, 0, none⟩), v] w1 fun r w' => r = .returned (.tuple #[]) ∧ FlAt w.heap.size w' (w.heap.size + 1) (orE e' (rulesI l)) (m + rulesN l) av ∧ Kp w.heap.size av w1 w') := fun w1 e' m av v l hr hf hb h hm => flrules_any _ _ e' m av v l w w1 h hr (Nat.le_refl _) hb hf hm
  have HNs : Hid (∀ w1 e' m av v l, Strs w v l → FitS l → Below w.heap.size w w1 → FlAt w.heap.size w1 (w.heap.size + 1) e' m av → m + l.length ≤ 10000000000000 → Calls Try.prog 29 #[.pointer (some ⟨w.heap.size + 1, 0, none⟩), v, .bool false] w1 fun r w' => r = .returned (.tuple #[]) ∧ FlAt w.heap.size w' (w.heap.size + 1) (orE e' (firstE (starI false) l)) (m + l.length) av ∧ Kp w.heap.size av w1 w') := fun w1 e' m av v l hr hf hb h hm => flnames_any _ _ e' m av v l false w w1 h hr (Nat.le_refl _) hb hf hm
  have HFi : Hid (∀ w1 e' m av, FlAt w.heap.size w1 (w.heap.size + 1) e' m av → ∃ v, w1.cell? ⟨w.heap.size + 1, 0, none⟩ = some v ∧ Calls Try.prog 30 #[v] w1 fun r w' => r = .returned (.int .i64 e') ∧ w' = w1) := fun w1 e' m av h => first_any _ _ e' m av w1 h
  have HQ1 : Hid (∀ s t, ((Ba s).toList == (Ba t).toList) = decide (s = t)) := fun s t => ba_beq s t
  have HQ0 : Hid (∀ s, ((Ba s).toList == []) = decide (s = [])) := fun s => ba_is s []
  clear hcell hcell2 hu hv hfo hfb hN hw0 hs0 hB1 hB0 hfl0
  have q1 : decide ((12 : Int) < (rs.length : Int)) = decide (12 < rs.length) := by rw [Bool.eq_iff_iff, decide_eq_true_iff, decide_eq_true_iff]; omega
  have q2 : decide ((12 : Int) < (bs.length : Int)) = decide (12 < bs.length) := by rw [Bool.eq_iff_iff, decide_eq_true_iff, decide_eq_true_iff]; omega
  generalize grI rs bs = res at *
  generalize hSO : (rs.map (roN rs.length)).sum = sO at *
  generalize hSB : (bs.map (biN bs.length)).sum = sB at *
  unfold maxLen at hn hn2
  have HQa : Hid (∀ d, (decide (12 < rs.length) || decide (12 < bs.length)) = d → orE (orE (ifE d 2) (firstA roleI [] rs)) (firstA bindI [] bs) = res) := fun d hd => by rw [← hd]; exact HEnd.out
  clear HEnd
  obtain ⟨dd, hdd⟩ : ∃ dd, (decide (12 < rs.length) || decide (12 < bs.length)) = dd := ⟨_, rfl⟩
  have HRes : Hid (orE (orE (ifE dd 2) (firstA roleI [] rs)) (firstA bindI [] bs) = res) := HQa.out dd hdd
  clear HQa
  have HSOe : Hid ((rs.map (roN rs.length)).sum = sO) := hSO
  have HSBe : Hid ((bs.map (biN bs.length)).sum = sB) := hSB
  clear hSO hSB
  go_enter Try.func8, Try.ntmps8
  -- the first add
  have HGo : Hid (∀ bad, bad = dd → Calls Try.prog 24 #[.pointer (some ⟨w.heap.size + 1, 0, none⟩), .bool bad, .int .i64 2] w0 fun r w' => r = .returned (.tuple #[]) ∧ FlAt w.heap.size w' (w.heap.size + 1) (ifE dd 2) 1 (fun k => k = w.heap.size) ∧ Kp w.heap.size (fun k => k = w.heap.size) w0 w') := fun bad hb => by
    subst hb
    have := HAd.out w0 0 0 _ bad 2 HF0.out (by omega)
    rw [show orE 0 (ifE bad 2) = ifE bad 2 from orE_r rfl] at this
    exact this
  clear HF0
  by_cases g1 : 12 < rs.length
  · rw [decide_eq_true g1] at q1 hdd
    have HDd : Hid (true = dd) := hdd
    clear g1
    go_wp2_with fail
    rw [← HW0.out]
    refine Calls.mono (HGo.out _ (by exact HDd.out)) ?_
    rintro r wa ⟨rfl, h1, h2⟩
    have HFa : Hid (FlAt w.heap.size wa (w.heap.size + 1) (orE (ifE dd 2) (firstA roleI [] (rs.take 0))) (1 + ((rs.take 0).map (roN rs.length)).sum) (fun k => k = w.heap.size)) := by
      show FlAt _ _ _ _ _ _
      have : orE (ifE dd 2) (firstA roleI [] (rs.take 0)) = ifE dd 2 := by
        rw [List.take_zero]
        show orE _ 0 = _
        unfold orE; split <;> simp_all
      rw [this]
      exact h1
    have HKa : Hid (Kp w.heap.size (fun k => k = w.heap.size) w0 wa) := h2
    clear h1 h2 HGo q1 q2 hdd
    obtain ⟨x0, x1⟩ := HBg.out wa HKa.out
    go_wp2_with fail
    clear x0 x1
    go_loopw [26] (fun i wr => ∃ k : Nat, k ≤ rs.length ∧ i = .int .i64 k ∧ FlAt w.heap.size wr (w.heap.size + 1) (orE (ifE dd 2) (firstA roleI [] (rs.take k))) (1 + ((rs.take k).map (roN rs.length)).sum) (fun k => k = w.heap.size) ∧ Kp w.heap.size (fun k => k = w.heap.size) w0 wr) (fun i _ => rs.length - (intOf i).toNat)
    case atStart => exact ⟨0, Nat.zero_le _, rfl, HFa.out, HKa.out⟩
    case round =>
      obtain ⟨k, hk, rfl, hfl, hkp⟩ := hrel
      obtain ⟨wO, hwO⟩ : ∃ x : World, x = wr := ⟨wr, rfl⟩
      subst hwO
      have HK : Hid (Kp w.heap.size (fun k => k = w.heap.size) w0 wO) := hkp
      have HFl : Hid (FlAt w.heap.size wO (w.heap.size + 1) (orE (ifE dd 2) (firstA roleI [] (rs.take k))) (1 + ((rs.take k).map (roN rs.length)).sum) (fun k => k = w.heap.size)) := hfl
      clear hkp hfl HFa HKa
      by_cases hlt : k < rs.length
      · obtain ⟨g, o, p3, c3, rfl, hlc, srl, hc0⟩ := HC.out k hlt
        have HBr : Hid (Below w.heap.size w wO) := HB0.out.trans HK.out.bel
        obtain ⟨i1, i2, i3⟩ := hc0 wO HBr.out
        have HTk : Hid (_) := HTo.out (ifE dd 2) k hlt
        have hfit := HFo.out k hlt
        have HSm : Hid (_) := HSo.out k hlt
        have HRC : Hid (∀ e', orE (orE (orE (orE e' (ifI rs[k].1)) (cI rs[k].2.1)) (ifE (roleB (rs.take k) rs[k]) 5)) (rulesI rs[k].2.2) = orE e' (roleI (rs.take k) rs[k])) := fun e' => role_chainE e' (rs.take k) rs[k]
        have HTw : Hid (∀ j (hj : j < rs.length), roleB (rs.take (j + 1)) rs[k] = (roleB (rs.take j) rs[k] || (decide (rs[j].1 = rs[k].1) && decide (rs[j].2.1 = rs[k].2.1)))) := fun j hj => roleB_take hj
        have HT0 : Hid (roleB (rs.take 0) rs[k] = false) := rfl
        have HRl : Hid (Rls w (.slice p3 rs[k].2.2.length c3) rs[k].2.2) := srl
        have HFit : Hid (FitO rs[k]) := hfit
        clear hc0 hfit srl
        generalize hrk : rs[k] = rk at *
        obtain ⟨sp, nm, rl⟩ := rk
        dsimp only at *
        have HFn : Hid (FlAt w.heap.size (wO.alloc (.cells #[.string (Ba sp), .string (Ba nm), .slice p3 rl.length c3] 47)) (w.heap.size + 1) (orE (ifE dd 2) (firstA roleI [] (rs.take k))) (1 + ((rs.take k).map (roN rs.length)).sum) (fun k => k = w.heap.size ∨ k = wO.heap.size)) := HFl.out.also _
        obtain ⟨wn, hwn⟩ : ∃ wn, wn = wO.alloc (.cells #[.string (Ba sp), .string (Ba nm), .slice p3 rl.length c3] 47) := ⟨_, rfl⟩
        have HBx : Hid (∀ w1, Kp w.heap.size (fun k => k = w.heap.size ∨ k = wO.heap.size) wn w1 → w1.cell? ⟨wO.heap.size, 0, none⟩ = some (.string (Ba sp)) ∧ w1.cell? ⟨wO.heap.size, 1, none⟩ = some (.string (Ba nm)) ∧ w1.cell? ⟨wO.heap.size, 2, none⟩ = some (.slice p3 rl.length c3)) := fun w1 h => by rw [hwn] at h; exact bx3k (av := fun k => k = w.heap.size) h
        rw [← hwn] at HFn
        have hBn : Below wO.heap.size wO wn := by rw [hwn]; exact (Below.refl _ _).alloc (Nat.le_refl _) _
        have HWn : Hid (wn = wO.alloc (.cells #[.string (Ba sp), .string (Ba nm), .slice p3 rl.length c3] 47)) := hwn
        have HKn : Hid (Kp w.heap.size (fun k => k = w.heap.size) w0 wn) := HK.out.trans (Kp.of_below hBn HBr.out.size)
        have HKx : Hid (∀ w1, Kp w.heap.size (fun k => k = w.heap.size ∨ k = wO.heap.size) wn w1 → Kp w.heap.size (fun k => k = w.heap.size) w0 w1) := fun w1 h => HKn.out.trans (h.less (fun k hk => Or.inl hk))
        have HBl : Hid (∀ w1, Kp w.heap.size (fun k => k = w.heap.size ∨ k = wO.heap.size) wn w1 → Below w.heap.size w w1) := fun w1 h => HB0.out.trans (HKx.out w1 h).bel
        have HCn := HNn.out
        clear hBn hwn
        generalize orE (ifE dd 2) (firstA roleI [] (rs.take k)) = ek at *
        generalize hek1 : orE (ifE dd 2) (firstA roleI [] (rs.take (k + 1))) = ek1 at *
        generalize ((rs.take k).map (roN rs.length)).sum = sk at *
        generalize hsk1 : ((rs.take (k + 1)).map (roN rs.length)).sum = sk1 at *
        have HE1 : Hid (orE (ifE dd 2) (firstA roleI [] (rs.take (k + 1))) = ek1) := hek1
        have HS1 : Hid (((rs.take (k + 1)).map (roN rs.length)).sum = sk1) := hsk1
        have HSn : Hid (sk1 = sk + (2 + rs.length + rulesN rl) ∧ sk1 ≤ sO ∧ 1 + sO + sB ≤ 10000000000000) := ⟨HSm.out.1, HSm.out.2, HNn.out⟩
        clear hek1 hsk1 HCn HSm
        go_wp2_with fail
        rw [← HWn.out]
        refine Calls.mono (HSp.out _ _ _ _ sp HFit.out.1 HFn.out (by have := HSn.out; omega)) ?_
        rintro r wb ⟨rfl, h1, h2⟩
        have HF1 : Hid (FlAt w.heap.size wb (w.heap.size + 1) (orE ek (ifI sp)) (1 + sk + 1) (fun k => k = w.heap.size ∨ k = wO.heap.size)) := h1
        have HK1 : Hid (Kp w.heap.size (fun k => k = w.heap.size ∨ k = wO.heap.size) wn wb) := h2
        obtain ⟨z0, z1, z2⟩ := HBx.out wb h2
        clear h1 h2 i1 i2 i3
        go_wp2_with fail
        refine Calls.mono (HNm.out nm _ HFit.out.2.1) ?_
        rintro r wc ⟨rfl, hwc⟩
        obtain rfl : wb = wc := hwc.symm
        go_wp2_with fail
        refine Calls.mono (HSa.out _ _ _ _ _ HF1.out (by have := HSn.out; omega)) ?_
        rintro r wd ⟨rfl, h1, h2⟩
        have HF2 : Hid (FlAt w.heap.size wd (w.heap.size + 1) (orE (orE ek (ifI sp)) (cI nm)) (1 + sk + 1 + 1) (fun k => k = w.heap.size ∨ k = wO.heap.size)) := h1
        have HK2 : Hid (Kp w.heap.size (fun k => k = w.heap.size ∨ k = wO.heap.size) wn wd) := HK1.out.trans h2
        clear h1 h2 z0 z1 z2
        obtain ⟨x0, x1⟩ := HBg.out wd (HKx.out wd HK2.out)
        go_wp2_with fail
        clear x0 x1
        have HF3 : Hid (FlAt w.heap.size wd (w.heap.size + 1) (orE (orE (orE ek (ifI sp)) (cI nm)) (ifE (roleB (rs.take 0) (sp, nm, rl)) 5)) (1 + sk + 1 + 1 + 0) (fun k => k = w.heap.size ∨ k = wO.heap.size)) := by
          show FlAt _ _ _ _ _ _
          have : orE (orE (orE ek (ifI sp)) (cI nm)) (ifE (roleB (rs.take 0) (sp, nm, rl)) 5) = orE (orE ek (ifI sp)) (cI nm) := by
            rw [HT0.out]
            show orE _ 0 = _
            unfold orE; split <;> simp_all
          rw [this]
          exact HF2.out
        go_loopw [43] (fun i wr => ∃ j : Nat, j ≤ k ∧ i = .int .i64 j ∧ FlAt w.heap.size wr (w.heap.size + 1) (orE (orE (orE ek (ifI sp)) (cI nm)) (ifE (roleB (rs.take j) (sp, nm, rl)) 5)) (1 + sk + 1 + 1 + j) (fun k => k = w.heap.size ∨ k = wO.heap.size) ∧ Kp w.heap.size (fun k => k = w.heap.size ∨ k = wO.heap.size) wn wr) (fun i _ => k - (intOf i).toNat)
        case atStart => exact ⟨0, Nat.zero_le _, rfl, HF3.out, HK2.out⟩
        case round =>
          obtain ⟨j, hj, rfl, hfl, hkp⟩ := hrel
          have HKi : Hid (Kp w.heap.size (fun k => k = w.heap.size ∨ k = wO.heap.size) wn wr) := hkp
          have HFi2 : Hid (FlAt w.heap.size wr (w.heap.size + 1) (orE (orE (orE ek (ifI sp)) (cI nm)) (ifE (roleB (rs.take j) (sp, nm, rl)) 5)) (1 + sk + 1 + 1 + j) (fun k => k = w.heap.size ∨ k = wO.heap.size)) := hfl
          clear hkp hfl
          have HBi : Hid (Below w.heap.size w wr) := HBl.out wr HKi.out
          by_cases hjk : j < k
          · have hjl : j < rs.length := by omega
            obtain ⟨g2, o2, p6, c6, hgo, _, _, hc6⟩ := HC.out j hjl
            obtain ⟨rfl, rfl⟩ : g2 = g ∧ o2 = o := by
              injection hgo with hgo
              injection hgo with e1 e2 _
              exact ⟨e1.symm, e2.symm⟩
            obtain ⟨j1, j2, j3⟩ := hc6 wr HBi.out
            have HTj : Hid (_) := HTw.out j hjl
            have r1 := HQ1.out rs[j].1 sp
            have r2 := HQ1.out rs[j].2.1 nm
            generalize rs[j].2.2.length = l6 at *
            generalize rs[j].1 = t1 at *
            generalize rs[j].2.1 = t2 at *
            have hBm : Below wr.heap.size wr (wr.alloc (.cells #[.string (Ba t1), .string (Ba t2), .slice p6 l6 c6] 47)) := (Below.refl _ _).alloc (Nat.le_refl _) _
            have HFm : Hid (FlAt w.heap.size (wr.alloc (.cells #[.string (Ba t1), .string (Ba t2), .slice p6 l6 c6] 47)) (w.heap.size + 1) (orE (orE (orE ek (ifI sp)) (cI nm)) (ifE (roleB (rs.take j) (sp, nm, rl)) 5)) (1 + sk + 1 + 1 + j) (fun k => k = w.heap.size ∨ k = wO.heap.size)) := HFi2.out.below hBm
            have HKm : Hid (Kp w.heap.size (fun k => k = w.heap.size ∨ k = wO.heap.size) wn (wr.alloc (.cells #[.string (Ba t1), .string (Ba t2), .slice p6 l6 c6] 47))) := HKi.out.trans (Kp.of_below hBm HBi.out.size)
            obtain ⟨y0, y1, y2⟩ := HBx.out _ HKm.out
            clear hc6 hgo hBm
            have HEj : Hid (∀ bad, bad = (decide (t1 = sp) && decide (t2 = nm)) → orE (orE (orE (orE ek (ifI sp)) (cI nm)) (ifE (roleB (rs.take j) (sp, nm, rl)) 5)) (ifE bad 5) = orE (orE (orE ek (ifI sp)) (cI nm)) (ifE (roleB (rs.take (j + 1)) (sp, nm, rl)) 5)) := fun bad hb => by
              rw [HTj.out, hb, ifE_or]
            generalize hd1 : decide (t1 = sp) = d1 at *
            generalize hd2 : decide (t2 = nm) = d2 at *
            generalize Ba t1 = yt1 at *
            generalize Ba t2 = yt2 at *
            generalize Ba sp = ysp at *
            generalize Ba nm = ynm at *
            clear hd1 hd2
            cases d1 with
            | true =>
              go_wp2_with fail
              refine Calls.mono (HAd.out _ _ _ _ _ _ HFm.out (by have := HSn.out; omega)) ?_
              rintro r we ⟨rfl, h1, h2⟩
              have HF4 : Hid (FlAt w.heap.size we (w.heap.size + 1) (orE (orE (orE ek (ifI sp)) (cI nm)) (ifE (roleB (rs.take (j + 1)) (sp, nm, rl)) 5)) (1 + sk + 1 + 1 + (j + 1)) (fun k => k = w.heap.size ∨ k = wO.heap.size)) := by
                show FlAt _ _ _ _ _ _
                rw [← HEj.out d2 rfl]
                first
                  | exact h1
                  | (rw [r2] at h1; exact h1)
              have HK4 : Hid (Kp w.heap.size (fun k => k = w.heap.size ∨ k = wO.heap.size) wn we) := HKm.out.trans h2
              clear h1 h2
              go_wp2_with fail
              go_roundw
              case rel => exact ⟨j + 1, by omega, by go_num, HF4.out, HK4.out⟩
              case measure => simp [intOf]; omega
            | false =>
              go_wp2_with fail
              refine Calls.mono (HAd.out _ _ _ _ _ _ HFm.out (by have := HSn.out; omega)) ?_
              rintro r we ⟨rfl, h1, h2⟩
              have HF4 : Hid (FlAt w.heap.size we (w.heap.size + 1) (orE (orE (orE ek (ifI sp)) (cI nm)) (ifE (roleB (rs.take (j + 1)) (sp, nm, rl)) 5)) (1 + sk + 1 + 1 + (j + 1)) (fun k => k = w.heap.size ∨ k = wO.heap.size)) := by
                show FlAt _ _ _ _ _ _
                rw [← HEj.out false rfl]
                exact h1
              have HK4 : Hid (Kp w.heap.size (fun k => k = w.heap.size ∨ k = wO.heap.size) wn we) := HKm.out.trans h2
              clear h1 h2
              go_wp2_with fail
              go_roundw
              case rel => exact ⟨j + 1, by omega, by go_num, HF4.out, HK4.out⟩
              case measure => simp [intOf]; omega
          · have HKl : Hid (j = k) := by show _ = _; omega
            obtain ⟨z0, z1, z2⟩ := HBx.out wr HKi.out
            go_wp2_with fail
            refine Calls.mono (HRu.out _ _ _ _ _ rl HRl.out HFit.out.2.2 HBi.out HFi2.out (by have := HSn.out; omega)) ?_
            rintro r wf ⟨rfl, h1, h2⟩
            have HF5 : Hid (FlAt w.heap.size wf (w.heap.size + 1) ek1 (1 + sk1) (fun k => k = w.heap.size)) := by
              show FlAt _ _ _ _ _ _
              rw [HKl.out, HRC.out] at h1
              rw [HTk.out, HSn.out.1]
              exact (h1.less (fun k hk => Or.inl hk)).more (by omega)
            have HK5 : Hid (Kp w.heap.size (fun k => k = w.heap.size) w0 wf) := HKx.out wf (HKi.out.trans h2)
            clear h1 h2 z0 z1 z2
            go_wp2_with fail
            go_roundw
            case rel => exact ⟨k + 1, by omega, by go_num, by rw [HE1.out, HS1.out]; exact HF5.out, HK5.out⟩
            case measure => simp [intOf]; omega
      · have HKl : Hid (k = rs.length) := by show _ = _; omega
        have HFs : Hid (FlAt w.heap.size wO (w.heap.size + 1) (orE (orE (ifE dd 2) (firstA roleI [] rs)) (firstA bindI [] (bs.take 0))) (1 + sO + ((bs.take 0).map (biN bs.length)).sum) (fun k => k = w.heap.size)) := by
          show FlAt _ _ _ _ _ _
          have hx := HFl.out
          rw [HKl.out, List.take_of_length_le (Nat.le_refl _), HSOe.out] at hx
          have : orE (orE (ifE dd 2) (firstA roleI [] rs)) (firstA bindI [] (bs.take 0)) = orE (ifE dd 2) (firstA roleI [] rs) := by
            rw [List.take_zero]
            show orE _ 0 = _
            unfold orE; split <;> simp_all
          rw [this]
          exact hx
        generalize orE (ifE dd 2) (firstA roleI [] rs) = e0 at *
        obtain ⟨x0, x1⟩ := HBg.out wO HK.out
        have HKs : Hid (Kp w.heap.size (fun k => k = w.heap.size) w0 wO) := HK.out
        clear HFl HK HC HFo HSo HTo HRu
        go_wp2_with fail
        clear x0 x1
        go_loopw [68] (fun i wr => ∃ k : Nat, k ≤ bs.length ∧ i = .int .i64 k ∧ FlAt w.heap.size wr (w.heap.size + 1) (orE e0 (firstA bindI [] (bs.take k))) (1 + sO + ((bs.take k).map (biN bs.length)).sum) (fun k => k = w.heap.size) ∧ Kp w.heap.size (fun k => k = w.heap.size) w0 wr) (fun i _ => bs.length - (intOf i).toNat)
        case atStart => exact ⟨0, Nat.zero_le _, rfl, HFs.out, HKs.out⟩
        case round =>
          clear HFs HKs HKl hk hlt
          obtain ⟨k, hk, rfl, hfl, hkp⟩ := hrel
          obtain ⟨wQ, hwO⟩ : ∃ x : World, x = wr := ⟨wr, rfl⟩
          subst hwO
          have HK : Hid (Kp w.heap.size (fun k => k = w.heap.size) w0 wQ) := hkp
          have HFl : Hid (FlAt w.heap.size wQ (w.heap.size + 1) (orE e0 (firstA bindI [] (bs.take k))) (1 + sO + ((bs.take k).map (biN bs.length)).sum) (fun k => k = w.heap.size)) := hfl
          clear hkp hfl
          by_cases hlt : k < bs.length
          · obtain ⟨g, o, p4, c4, p5, c5, rfl, hlc, s4, s5, hc0⟩ := HC2.out k hlt
            have HBr : Hid (Below w.heap.size w wQ) := HB0.out.trans HK.out.bel
            obtain ⟨i1, i2, i3, i4, i5, i6⟩ := hc0 wQ HBr.out
            have HTk : Hid (_) := HTb.out e0 k hlt
            have HFit : Hid (FitB bs[k]) := HFb.out k hlt
            have HSm : Hid (_) := HSb.out k hlt
            have HRC : Hid (∀ e', orE (orE (orE (orE (orE (orE (orE (orE e' (ifI bs[k].1)) (cI bs[k].2.1)) (cI bs[k].2.2.1)) (ifE (bindB (bs.take k) bs[k]) 5)) (ifE (decide (bs[k].1 = []) && !bs[k].2.2.2.1) 1)) (ifE (decide (6 < bs[k].2.2.2.2.1.length) || decide (6 < bs[k].2.2.2.2.2.length)) 2)) (firstE (starI false) bs[k].2.2.2.2.1)) (firstE (starI false) bs[k].2.2.2.2.2) = orE e' (bindI (bs.take k) bs[k])) := fun e' => bind_chainE e' (bs.take k) bs[k]
            have HTw : Hid (∀ j (hj : j < bs.length), bindB (bs.take (j + 1)) bs[k] = (bindB (bs.take j) bs[k] || (decide (bs[j].1 = bs[k].1) && decide (bs[j].2.1 = bs[k].2.1)))) := fun j hj => bindB_take hj
            have HT0 : Hid (bindB (bs.take 0) bs[k] = false) := rfl
            have HS4 : Hid (Strs w (.slice p4 bs[k].2.2.2.2.1.length c4) bs[k].2.2.2.2.1) := s4
            have HS5 : Hid (Strs w (.slice p5 bs[k].2.2.2.2.2.length c5) bs[k].2.2.2.2.2) := s5
            have m4 := s4.form.choose_spec.choose_spec.2
            have m5 := s5.form.choose_spec.choose_spec.2
            clear hc0 s4 s5
            generalize hrk : bs[k] = rk at *
            obtain ⟨sp, nm, ro, wh, us, gs⟩ := rk
            dsimp only at *
            unfold maxLen at m4 m5
            have HFn : Hid (FlAt w.heap.size (wQ.alloc (.cells #[.string (Ba sp), .string (Ba nm), .string (Ba ro), .bool wh, .slice p4 us.length c4, .slice p5 gs.length c5] 49)) (w.heap.size + 1) (orE e0 (firstA bindI [] (bs.take k))) (1 + sO + ((bs.take k).map (biN bs.length)).sum) (fun k => k = w.heap.size ∨ k = wQ.heap.size)) := HFl.out.also _
            obtain ⟨wn, hwn⟩ : ∃ wn, wn = wQ.alloc (.cells #[.string (Ba sp), .string (Ba nm), .string (Ba ro), .bool wh, .slice p4 us.length c4, .slice p5 gs.length c5] 49) := ⟨_, rfl⟩
            have HBx : Hid (∀ w1, Kp w.heap.size (fun k => k = w.heap.size ∨ k = wQ.heap.size) wn w1 → w1.cell? ⟨wQ.heap.size, 0, none⟩ = some (.string (Ba sp)) ∧ w1.cell? ⟨wQ.heap.size, 1, none⟩ = some (.string (Ba nm)) ∧ w1.cell? ⟨wQ.heap.size, 2, none⟩ = some (.string (Ba ro)) ∧ w1.cell? ⟨wQ.heap.size, 3, none⟩ = some (.bool wh) ∧ w1.cell? ⟨wQ.heap.size, 4, none⟩ = some (.slice p4 us.length c4) ∧ w1.cell? ⟨wQ.heap.size, 5, none⟩ = some (.slice p5 gs.length c5)) := fun w1 h => by rw [hwn] at h; exact bx6k (av := fun k => k = w.heap.size) h
            rw [← hwn] at HFn
            have hBn : Below wQ.heap.size wQ wn := by rw [hwn]; exact (Below.refl _ _).alloc (Nat.le_refl _) _
            have HWn : Hid (wn = wQ.alloc (.cells #[.string (Ba sp), .string (Ba nm), .string (Ba ro), .bool wh, .slice p4 us.length c4, .slice p5 gs.length c5] 49)) := hwn
            have HKn : Hid (Kp w.heap.size (fun k => k = w.heap.size) w0 wn) := HK.out.trans (Kp.of_below hBn HBr.out.size)
            have HKx : Hid (∀ w1, Kp w.heap.size (fun k => k = w.heap.size ∨ k = wQ.heap.size) wn w1 → Kp w.heap.size (fun k => k = w.heap.size) w0 w1) := fun w1 h => HKn.out.trans (h.less (fun k hk => Or.inl hk))
            have HBl : Hid (∀ w1, Kp w.heap.size (fun k => k = w.heap.size ∨ k = wQ.heap.size) wn w1 → Below w.heap.size w w1) := fun w1 h => HB0.out.trans (HKx.out w1 h).bel
            clear hBn hwn
            generalize orE e0 (firstA bindI [] (bs.take k)) = ek at *
            generalize hek1 : orE e0 (firstA bindI [] (bs.take (k + 1))) = ek1 at *
            generalize ((bs.take k).map (biN bs.length)).sum = sk at *
            generalize hsk1 : ((bs.take (k + 1)).map (biN bs.length)).sum = sk1 at *
            have HE1 : Hid (orE e0 (firstA bindI [] (bs.take (k + 1))) = ek1) := hek1
            have HS1 : Hid (((bs.take (k + 1)).map (biN bs.length)).sum = sk1) := hsk1
            have HSn : Hid (sk1 = sk + (6 + bs.length + us.length + gs.length) ∧ sk1 ≤ sB ∧ 1 + sO + sB ≤ 10000000000000) := ⟨HSm.out.1, HSm.out.2, HNn.out⟩
            have q4 : decide ((6 : Int) < (us.length : Int)) = decide (6 < us.length) := by rw [Bool.eq_iff_iff, decide_eq_true_iff, decide_eq_true_iff]; omega
            have q5 : decide ((6 : Int) < (gs.length : Int)) = decide (6 < gs.length) := by rw [Bool.eq_iff_iff, decide_eq_true_iff, decide_eq_true_iff]; omega
            have q6 := HQ0.out sp
            clear hek1 hsk1 HSm
            go_wp2_with fail
            rw [← HWn.out]
            refine Calls.mono (HSp.out _ _ _ _ sp HFit.out.1 HFn.out (by have := HSn.out; omega)) ?_
            rintro r wb ⟨rfl, h1, h2⟩
            have HF1 : Hid (FlAt w.heap.size wb (w.heap.size + 1) (orE ek (ifI sp)) (1 + sO + sk + 1) (fun k => k = w.heap.size ∨ k = wQ.heap.size)) := h1
            have HK1 : Hid (Kp w.heap.size (fun k => k = w.heap.size ∨ k = wQ.heap.size) wn wb) := h2
            obtain ⟨z0, z1, z2, z3, z4, z5⟩ := HBx.out wb h2
            clear h1 h2 i1 i2 i3 i4 i5 i6
            go_wp2_with fail
            refine Calls.mono (HNm.out nm _ HFit.out.2.1) ?_
            rintro r wc ⟨rfl, hwc⟩
            obtain rfl : wb = wc := hwc.symm
            go_wp2_with fail
            refine Calls.mono (HSa.out _ _ _ _ _ HF1.out (by have := HSn.out; omega)) ?_
            rintro r wd ⟨rfl, h1, h2⟩
            have HF2 : Hid (FlAt w.heap.size wd (w.heap.size + 1) (orE (orE ek (ifI sp)) (cI nm)) (1 + sO + sk + 1 + 1) (fun k => k = w.heap.size ∨ k = wQ.heap.size)) := h1
            have HK2 : Hid (Kp w.heap.size (fun k => k = w.heap.size ∨ k = wQ.heap.size) wn wd) := HK1.out.trans h2
            clear h1 h2 z0 z1 z2 z3 z4 z5
            obtain ⟨z0, z1, z2, z3, z4, z5⟩ := HBx.out wd HK2.out
            go_wp2_with fail
            refine Calls.mono (HNm.out ro _ HFit.out.2.2.1) ?_
            rintro r wc ⟨rfl, hwc⟩
            obtain rfl : wd = wc := hwc.symm
            go_wp2_with fail
            refine Calls.mono (HSa.out _ _ _ _ _ HF2.out (by have := HSn.out; omega)) ?_
            rintro r wo ⟨rfl, h1, h2⟩
            have HF2b : Hid (FlAt w.heap.size wo (w.heap.size + 1) (orE (orE (orE ek (ifI sp)) (cI nm)) (cI ro)) (1 + sO + sk + 1 + 1 + 1) (fun k => k = w.heap.size ∨ k = wQ.heap.size)) := h1
            have HK2b : Hid (Kp w.heap.size (fun k => k = w.heap.size ∨ k = wQ.heap.size) wn wo) := HK2.out.trans h2
            clear h1 h2 z0 z1 z2 z3 z4 z5
            obtain ⟨x0, x1⟩ := HBg.out wo (HKx.out wo HK2b.out)
            go_wp2_with fail
            clear x0 x1
            generalize hEE : orE (orE (orE ek (ifI sp)) (cI nm)) (cI ro) = eE at *
            have HEE : Hid (orE (orE (orE ek (ifI sp)) (cI nm)) (cI ro) = eE) := hEE
            have HF3 : Hid (FlAt w.heap.size wo (w.heap.size + 1) (orE eE (ifE (bindB (bs.take 0) (sp, nm, ro, wh, us, gs)) 5)) (1 + sO + sk + 1 + 1 + 1 + 0) (fun k => k = w.heap.size ∨ k = wQ.heap.size)) := by
              show FlAt _ _ _ _ _ _
              have : orE eE (ifE (bindB (bs.take 0) (sp, nm, ro, wh, us, gs)) 5) = eE := by
                rw [HT0.out]
                show orE _ 0 = _
                unfold orE; split <;> simp_all
              rw [this]
              exact HF2b.out
            clear hEE
            go_loopw [89] (fun i wr => ∃ j : Nat, j ≤ k ∧ i = .int .i64 j ∧ FlAt w.heap.size wr (w.heap.size + 1) (orE eE (ifE (bindB (bs.take j) (sp, nm, ro, wh, us, gs)) 5)) (1 + sO + sk + 1 + 1 + 1 + j) (fun k => k = w.heap.size ∨ k = wQ.heap.size) ∧ Kp w.heap.size (fun k => k = w.heap.size ∨ k = wQ.heap.size) wn wr) (fun i _ => k - (intOf i).toNat)
            case atStart => exact ⟨0, Nat.zero_le _, rfl, HF3.out, HK2b.out⟩
            case round =>
              obtain ⟨j, hj, rfl, hfl, hkp⟩ := hrel
              have HKi : Hid (Kp w.heap.size (fun k => k = w.heap.size ∨ k = wQ.heap.size) wn wr) := hkp
              have HFi2 : Hid (FlAt w.heap.size wr (w.heap.size + 1) (orE eE (ifE (bindB (bs.take j) (sp, nm, ro, wh, us, gs)) 5)) (1 + sO + sk + 1 + 1 + 1 + j) (fun k => k = w.heap.size ∨ k = wQ.heap.size)) := hfl
              clear hkp hfl
              have HBi : Hid (Below w.heap.size w wr) := HBl.out wr HKi.out
              by_cases hjk : j < k
              · have hjl : j < bs.length := by omega
                obtain ⟨g2, o2, p6, c6, p7, c7, hgo, _, _, _, hc6⟩ := HC2.out j hjl
                obtain ⟨rfl, rfl⟩ : g2 = g ∧ o2 = o := by
                  injection hgo with hgo
                  injection hgo with e1 e2 _
                  exact ⟨e1.symm, e2.symm⟩
                obtain ⟨j1, j2, j3, j4, j5, j6⟩ := hc6 wr HBi.out
                have HTj : Hid (_) := HTw.out j hjl
                have r1 := HQ1.out bs[j].1 sp
                have r2 := HQ1.out bs[j].2.1 nm
                generalize bs[j].2.2.2.2.1.length = l6 at *
                generalize bs[j].2.2.2.2.2.length = l7 at *
                generalize bs[j].2.2.2.1 = b3 at *
                generalize Ba bs[j].2.2.1 = b2 at *
                generalize bs[j].1 = t1 at *
                generalize bs[j].2.1 = t2 at *
                have hBm : Below wr.heap.size wr (wr.alloc (.cells #[.string (Ba t1), .string (Ba t2), .string b2, .bool b3, .slice p6 l6 c6, .slice p7 l7 c7] 49)) := (Below.refl _ _).alloc (Nat.le_refl _) _
                have HFm : Hid (FlAt w.heap.size (wr.alloc (.cells #[.string (Ba t1), .string (Ba t2), .string b2, .bool b3, .slice p6 l6 c6, .slice p7 l7 c7] 49)) (w.heap.size + 1) (orE eE (ifE (bindB (bs.take j) (sp, nm, ro, wh, us, gs)) 5)) (1 + sO + sk + 1 + 1 + 1 + j) (fun k => k = w.heap.size ∨ k = wQ.heap.size)) := HFi2.out.below hBm
                have HKm : Hid (Kp w.heap.size (fun k => k = w.heap.size ∨ k = wQ.heap.size) wn (wr.alloc (.cells #[.string (Ba t1), .string (Ba t2), .string b2, .bool b3, .slice p6 l6 c6, .slice p7 l7 c7] 49))) := HKi.out.trans (Kp.of_below hBm HBi.out.size)
                obtain ⟨y0, y1, y2, y3, y4, y5⟩ := HBx.out _ HKm.out
                clear hc6 hgo hBm
                have HEj : Hid (∀ bad, bad = (decide (t1 = sp) && decide (t2 = nm)) → orE (orE eE (ifE (bindB (bs.take j) (sp, nm, ro, wh, us, gs)) 5)) (ifE bad 5) = orE eE (ifE (bindB (bs.take (j + 1)) (sp, nm, ro, wh, us, gs)) 5)) := fun bad hb => by
                  rw [HTj.out, hb, ifE_or]
                generalize hd1 : decide (t1 = sp) = d1 at *
                generalize hd2 : decide (t2 = nm) = d2 at *
                generalize Ba t1 = yt1 at *
                generalize Ba t2 = yt2 at *
                generalize Ba sp = ysp at *
                generalize Ba nm = ynm at *
                clear hd1 hd2 q4 q5 q6
                cases d1 with
                | true =>
                  go_wp2_with fail
                  refine Calls.mono (HAd.out _ _ _ _ _ _ HFm.out (by have := HSn.out; omega)) ?_
                  rintro r we ⟨rfl, h1, h2⟩
                  have HF4 : Hid (FlAt w.heap.size we (w.heap.size + 1) (orE eE (ifE (bindB (bs.take (j + 1)) (sp, nm, ro, wh, us, gs)) 5)) (1 + sO + sk + 1 + 1 + 1 + (j + 1)) (fun k => k = w.heap.size ∨ k = wQ.heap.size)) := by
                    show FlAt _ _ _ _ _ _
                    rw [← HEj.out d2 rfl]
                    first
                      | exact h1
                      | (rw [r2] at h1; exact h1)
                  have HK4 : Hid (Kp w.heap.size (fun k => k = w.heap.size ∨ k = wQ.heap.size) wn we) := HKm.out.trans h2
                  clear h1 h2
                  go_wp2_with fail
                  go_roundw
                  case rel => exact ⟨j + 1, by omega, by go_num, HF4.out, HK4.out⟩
                  case measure => simp [intOf]; omega
                | false =>
                  go_wp2_with fail
                  refine Calls.mono (HAd.out _ _ _ _ _ _ HFm.out (by have := HSn.out; omega)) ?_
                  rintro r we ⟨rfl, h1, h2⟩
                  have HF4 : Hid (FlAt w.heap.size we (w.heap.size + 1) (orE eE (ifE (bindB (bs.take (j + 1)) (sp, nm, ro, wh, us, gs)) 5)) (1 + sO + sk + 1 + 1 + 1 + (j + 1)) (fun k => k = w.heap.size ∨ k = wQ.heap.size)) := by
                    show FlAt _ _ _ _ _ _
                    rw [← HEj.out false rfl]
                    exact h1
                  have HK4 : Hid (Kp w.heap.size (fun k => k = w.heap.size ∨ k = wQ.heap.size) wn we) := HKm.out.trans h2
                  clear h1 h2
                  go_wp2_with fail
                  go_roundw
                  case rel => exact ⟨j + 1, by omega, by go_num, HF4.out, HK4.out⟩
                  case measure => simp [intOf]; omega
              · have HKl : Hid (j = k) := by show _ = _; omega
                obtain ⟨z0, z1, z2, z3, z4, z5⟩ := HBx.out wr HKi.out
                have HU4 : Hid (∀ bad, bad = (decide (sp = []) && !wh) → orE (orE eE (ifE (bindB (bs.take j) (sp, nm, ro, wh, us, gs)) 5)) (ifE bad 1) = orE (orE eE (ifE (bindB (bs.take j) (sp, nm, ro, wh, us, gs)) 5)) (ifE (decide (sp = []) && !wh) 1)) := fun bad hb => by rw [hb]
                have HU5 : Hid (∀ e' bad, bad = (decide (6 < us.length) || decide (6 < gs.length)) → orE e' (ifE bad 2) = orE e' (ifE (decide (6 < us.length) || decide (6 < gs.length)) 2)) := fun e' bad hb => by rw [hb]
                generalize hd3 : decide (sp = []) = d3 at *
                generalize hd4 : decide (6 < us.length) = d4 at *
                generalize hd5 : decide (6 < gs.length) = d5 at *
                clear hd3 hd4 hd5
                generalize hys : Ba sp = ysp at *
                clear hys
                cases d3 with
                | true =>
                  cases d4 with
                  | true =>
                    go_wp2_with fail
                    refine Calls.mono (HAd.out _ _ _ _ _ _ HFi2.out (by have := HSn.out; omega)) ?_
                    rintro r we ⟨rfl, h1, h2⟩
                    have HF5 : Hid (FlAt w.heap.size we (w.heap.size + 1) (orE (orE eE (ifE (bindB (bs.take j) (sp, nm, ro, wh, us, gs)) 5)) (ifE (true && !wh) 1)) (1 + sO + sk + 1 + 1 + 1 + j + 1) (fun k => k = w.heap.size ∨ k = wQ.heap.size)) := by
                      show FlAt _ _ _ _ _ _
                      exact h1
                    have HK5 : Hid (Kp w.heap.size (fun k => k = w.heap.size ∨ k = wQ.heap.size) wn we) := HKi.out.trans h2
                    clear h1 h2 z0 z1 z2 z3 z4 z5
                    obtain ⟨z0, z1, z2, z3, z4, z5⟩ := HBx.out we HK5.out
                    go_wp2_with fail
                    refine Calls.mono (HAd.out _ _ _ _ _ _ HF5.out (by have := HSn.out; omega)) ?_
                    rintro r wf ⟨rfl, h1, h2⟩
                    have HF6 : Hid (FlAt w.heap.size wf (w.heap.size + 1) (orE (orE (orE eE (ifE (bindB (bs.take j) (sp, nm, ro, wh, us, gs)) 5)) (ifE (true && !wh) 1)) (ifE (true || d5) 2)) (1 + sO + sk + 1 + 1 + 1 + j + 1 + 1) (fun k => k = w.heap.size ∨ k = wQ.heap.size)) := by
                      show FlAt _ _ _ _ _ _
                      first
                        | exact h1
                        | (rw [q5] at h1; exact h1)
                    have HK6 : Hid (Kp w.heap.size (fun k => k = w.heap.size ∨ k = wQ.heap.size) wn wf) := HK5.out.trans h2
                    clear h1 h2 z0 z1 z2 z3 z4 z5
                    obtain ⟨z0, z1, z2, z3, z4, z5⟩ := HBx.out wf HK6.out
                    go_wp2_with fail
                    refine Calls.mono (HNs.out _ _ _ _ _ us HS4.out HFit.out.2.2.2.1 (HBl.out wf HK6.out) HF6.out (by have := HSn.out; have := HKl.out; omega)) ?_
                    rintro r wh' ⟨rfl, h1, h2⟩
                    have HF7 : Hid (_) := h1
                    have HK7 : Hid (Kp w.heap.size (fun k => k = w.heap.size ∨ k = wQ.heap.size) wn wh') := HK6.out.trans h2
                    clear h1 h2 z0 z1 z2 z3 z4 z5
                    obtain ⟨z0, z1, z2, z3, z4, z5⟩ := HBx.out wh' HK7.out
                    go_wp2_with fail
                    refine Calls.mono (HNs.out _ _ _ _ _ gs HS5.out HFit.out.2.2.2.2 (HBl.out wh' HK7.out) HF7.out (by have := HSn.out; have := HKl.out; omega)) ?_
                    rintro r wj ⟨rfl, h1, h2⟩
                    have HF8 : Hid (FlAt w.heap.size wj (w.heap.size + 1) ek1 (1 + sO + sk1) (fun k => k = w.heap.size)) := by
                      show FlAt _ _ _ _ _ _
                      rw [HKl.out, ← HEE.out] at h1
                      have hh := HRC.out ek
                      rw [hh] at h1
                      rw [HTk.out, HSn.out.1]
                      exact (h1.less (fun k hk => Or.inl hk)).more (by omega)
                    have HK8 : Hid (Kp w.heap.size (fun k => k = w.heap.size) w0 wj) := HKx.out wj (HK7.out.trans h2)
                    clear h1 h2 z0 z1 z2 z3 z4 z5
                    go_wp2_with fail
                    go_roundw
                    case rel => exact ⟨k + 1, by omega, by go_num, by rw [HE1.out, HS1.out]; exact HF8.out, HK8.out⟩
                    case measure => simp [intOf]; omega
                  | false =>
                    go_wp2_with fail
                    refine Calls.mono (HAd.out _ _ _ _ _ _ HFi2.out (by have := HSn.out; omega)) ?_
                    rintro r we ⟨rfl, h1, h2⟩
                    have HF5 : Hid (FlAt w.heap.size we (w.heap.size + 1) (orE (orE eE (ifE (bindB (bs.take j) (sp, nm, ro, wh, us, gs)) 5)) (ifE (true && !wh) 1)) (1 + sO + sk + 1 + 1 + 1 + j + 1) (fun k => k = w.heap.size ∨ k = wQ.heap.size)) := by
                      show FlAt _ _ _ _ _ _
                      exact h1
                    have HK5 : Hid (Kp w.heap.size (fun k => k = w.heap.size ∨ k = wQ.heap.size) wn we) := HKi.out.trans h2
                    clear h1 h2 z0 z1 z2 z3 z4 z5
                    obtain ⟨z0, z1, z2, z3, z4, z5⟩ := HBx.out we HK5.out
                    go_wp2_with fail
                    refine Calls.mono (HAd.out _ _ _ _ _ _ HF5.out (by have := HSn.out; omega)) ?_
                    rintro r wf ⟨rfl, h1, h2⟩
                    have HF6 : Hid (FlAt w.heap.size wf (w.heap.size + 1) (orE (orE (orE eE (ifE (bindB (bs.take j) (sp, nm, ro, wh, us, gs)) 5)) (ifE (true && !wh) 1)) (ifE (false || d5) 2)) (1 + sO + sk + 1 + 1 + 1 + j + 1 + 1) (fun k => k = w.heap.size ∨ k = wQ.heap.size)) := by
                      show FlAt _ _ _ _ _ _
                      first
                        | exact h1
                        | (rw [q5] at h1; exact h1)
                    have HK6 : Hid (Kp w.heap.size (fun k => k = w.heap.size ∨ k = wQ.heap.size) wn wf) := HK5.out.trans h2
                    clear h1 h2 z0 z1 z2 z3 z4 z5
                    obtain ⟨z0, z1, z2, z3, z4, z5⟩ := HBx.out wf HK6.out
                    go_wp2_with fail
                    refine Calls.mono (HNs.out _ _ _ _ _ us HS4.out HFit.out.2.2.2.1 (HBl.out wf HK6.out) HF6.out (by have := HSn.out; have := HKl.out; omega)) ?_
                    rintro r wh' ⟨rfl, h1, h2⟩
                    have HF7 : Hid (_) := h1
                    have HK7 : Hid (Kp w.heap.size (fun k => k = w.heap.size ∨ k = wQ.heap.size) wn wh') := HK6.out.trans h2
                    clear h1 h2 z0 z1 z2 z3 z4 z5
                    obtain ⟨z0, z1, z2, z3, z4, z5⟩ := HBx.out wh' HK7.out
                    go_wp2_with fail
                    refine Calls.mono (HNs.out _ _ _ _ _ gs HS5.out HFit.out.2.2.2.2 (HBl.out wh' HK7.out) HF7.out (by have := HSn.out; have := HKl.out; omega)) ?_
                    rintro r wj ⟨rfl, h1, h2⟩
                    have HF8 : Hid (FlAt w.heap.size wj (w.heap.size + 1) ek1 (1 + sO + sk1) (fun k => k = w.heap.size)) := by
                      show FlAt _ _ _ _ _ _
                      rw [HKl.out, ← HEE.out] at h1
                      have hh := HRC.out ek
                      rw [hh] at h1
                      rw [HTk.out, HSn.out.1]
                      exact (h1.less (fun k hk => Or.inl hk)).more (by omega)
                    have HK8 : Hid (Kp w.heap.size (fun k => k = w.heap.size) w0 wj) := HKx.out wj (HK7.out.trans h2)
                    clear h1 h2 z0 z1 z2 z3 z4 z5
                    go_wp2_with fail
                    go_roundw
                    case rel => exact ⟨k + 1, by omega, by go_num, by rw [HE1.out, HS1.out]; exact HF8.out, HK8.out⟩
                    case measure => simp [intOf]; omega
                | false =>
                  cases d4 with
                  | true =>
                    go_wp2_with fail
                    refine Calls.mono (HAd.out _ _ _ _ _ _ HFi2.out (by have := HSn.out; omega)) ?_
                    rintro r we ⟨rfl, h1, h2⟩
                    have HF5 : Hid (FlAt w.heap.size we (w.heap.size + 1) (orE (orE eE (ifE (bindB (bs.take j) (sp, nm, ro, wh, us, gs)) 5)) (ifE (false && !wh) 1)) (1 + sO + sk + 1 + 1 + 1 + j + 1) (fun k => k = w.heap.size ∨ k = wQ.heap.size)) := by
                      show FlAt _ _ _ _ _ _
                      exact h1
                    have HK5 : Hid (Kp w.heap.size (fun k => k = w.heap.size ∨ k = wQ.heap.size) wn we) := HKi.out.trans h2
                    clear h1 h2 z0 z1 z2 z3 z4 z5
                    obtain ⟨z0, z1, z2, z3, z4, z5⟩ := HBx.out we HK5.out
                    go_wp2_with fail
                    refine Calls.mono (HAd.out _ _ _ _ _ _ HF5.out (by have := HSn.out; omega)) ?_
                    rintro r wf ⟨rfl, h1, h2⟩
                    have HF6 : Hid (FlAt w.heap.size wf (w.heap.size + 1) (orE (orE (orE eE (ifE (bindB (bs.take j) (sp, nm, ro, wh, us, gs)) 5)) (ifE (false && !wh) 1)) (ifE (true || d5) 2)) (1 + sO + sk + 1 + 1 + 1 + j + 1 + 1) (fun k => k = w.heap.size ∨ k = wQ.heap.size)) := by
                      show FlAt _ _ _ _ _ _
                      first
                        | exact h1
                        | (rw [q5] at h1; exact h1)
                    have HK6 : Hid (Kp w.heap.size (fun k => k = w.heap.size ∨ k = wQ.heap.size) wn wf) := HK5.out.trans h2
                    clear h1 h2 z0 z1 z2 z3 z4 z5
                    obtain ⟨z0, z1, z2, z3, z4, z5⟩ := HBx.out wf HK6.out
                    go_wp2_with fail
                    refine Calls.mono (HNs.out _ _ _ _ _ us HS4.out HFit.out.2.2.2.1 (HBl.out wf HK6.out) HF6.out (by have := HSn.out; have := HKl.out; omega)) ?_
                    rintro r wh' ⟨rfl, h1, h2⟩
                    have HF7 : Hid (_) := h1
                    have HK7 : Hid (Kp w.heap.size (fun k => k = w.heap.size ∨ k = wQ.heap.size) wn wh') := HK6.out.trans h2
                    clear h1 h2 z0 z1 z2 z3 z4 z5
                    obtain ⟨z0, z1, z2, z3, z4, z5⟩ := HBx.out wh' HK7.out
                    go_wp2_with fail
                    refine Calls.mono (HNs.out _ _ _ _ _ gs HS5.out HFit.out.2.2.2.2 (HBl.out wh' HK7.out) HF7.out (by have := HSn.out; have := HKl.out; omega)) ?_
                    rintro r wj ⟨rfl, h1, h2⟩
                    have HF8 : Hid (FlAt w.heap.size wj (w.heap.size + 1) ek1 (1 + sO + sk1) (fun k => k = w.heap.size)) := by
                      show FlAt _ _ _ _ _ _
                      rw [HKl.out, ← HEE.out] at h1
                      have hh := HRC.out ek
                      rw [hh] at h1
                      rw [HTk.out, HSn.out.1]
                      exact (h1.less (fun k hk => Or.inl hk)).more (by omega)
                    have HK8 : Hid (Kp w.heap.size (fun k => k = w.heap.size) w0 wj) := HKx.out wj (HK7.out.trans h2)
                    clear h1 h2 z0 z1 z2 z3 z4 z5
                    go_wp2_with fail
                    go_roundw
                    case rel => exact ⟨k + 1, by omega, by go_num, by rw [HE1.out, HS1.out]; exact HF8.out, HK8.out⟩
                    case measure => simp [intOf]; omega
                  | false =>
                    go_wp2_with fail
                    refine Calls.mono (HAd.out _ _ _ _ _ _ HFi2.out (by have := HSn.out; omega)) ?_
                    rintro r we ⟨rfl, h1, h2⟩
                    have HF5 : Hid (FlAt w.heap.size we (w.heap.size + 1) (orE (orE eE (ifE (bindB (bs.take j) (sp, nm, ro, wh, us, gs)) 5)) (ifE (false && !wh) 1)) (1 + sO + sk + 1 + 1 + 1 + j + 1) (fun k => k = w.heap.size ∨ k = wQ.heap.size)) := by
                      show FlAt _ _ _ _ _ _
                      exact h1
                    have HK5 : Hid (Kp w.heap.size (fun k => k = w.heap.size ∨ k = wQ.heap.size) wn we) := HKi.out.trans h2
                    clear h1 h2 z0 z1 z2 z3 z4 z5
                    obtain ⟨z0, z1, z2, z3, z4, z5⟩ := HBx.out we HK5.out
                    go_wp2_with fail
                    refine Calls.mono (HAd.out _ _ _ _ _ _ HF5.out (by have := HSn.out; omega)) ?_
                    rintro r wf ⟨rfl, h1, h2⟩
                    have HF6 : Hid (FlAt w.heap.size wf (w.heap.size + 1) (orE (orE (orE eE (ifE (bindB (bs.take j) (sp, nm, ro, wh, us, gs)) 5)) (ifE (false && !wh) 1)) (ifE (false || d5) 2)) (1 + sO + sk + 1 + 1 + 1 + j + 1 + 1) (fun k => k = w.heap.size ∨ k = wQ.heap.size)) := by
                      show FlAt _ _ _ _ _ _
                      first
                        | exact h1
                        | (rw [q5] at h1; exact h1)
                    have HK6 : Hid (Kp w.heap.size (fun k => k = w.heap.size ∨ k = wQ.heap.size) wn wf) := HK5.out.trans h2
                    clear h1 h2 z0 z1 z2 z3 z4 z5
                    obtain ⟨z0, z1, z2, z3, z4, z5⟩ := HBx.out wf HK6.out
                    go_wp2_with fail
                    refine Calls.mono (HNs.out _ _ _ _ _ us HS4.out HFit.out.2.2.2.1 (HBl.out wf HK6.out) HF6.out (by have := HSn.out; have := HKl.out; omega)) ?_
                    rintro r wh' ⟨rfl, h1, h2⟩
                    have HF7 : Hid (_) := h1
                    have HK7 : Hid (Kp w.heap.size (fun k => k = w.heap.size ∨ k = wQ.heap.size) wn wh') := HK6.out.trans h2
                    clear h1 h2 z0 z1 z2 z3 z4 z5
                    obtain ⟨z0, z1, z2, z3, z4, z5⟩ := HBx.out wh' HK7.out
                    go_wp2_with fail
                    refine Calls.mono (HNs.out _ _ _ _ _ gs HS5.out HFit.out.2.2.2.2 (HBl.out wh' HK7.out) HF7.out (by have := HSn.out; have := HKl.out; omega)) ?_
                    rintro r wj ⟨rfl, h1, h2⟩
                    have HF8 : Hid (FlAt w.heap.size wj (w.heap.size + 1) ek1 (1 + sO + sk1) (fun k => k = w.heap.size)) := by
                      show FlAt _ _ _ _ _ _
                      rw [HKl.out, ← HEE.out] at h1
                      have hh := HRC.out ek
                      rw [hh] at h1
                      rw [HTk.out, HSn.out.1]
                      exact (h1.less (fun k hk => Or.inl hk)).more (by omega)
                    have HK8 : Hid (Kp w.heap.size (fun k => k = w.heap.size) w0 wj) := HKx.out wj (HK7.out.trans h2)
                    clear h1 h2 z0 z1 z2 z3 z4 z5
                    go_wp2_with fail
                    go_roundw
                    case rel => exact ⟨k + 1, by omega, by go_num, by rw [HE1.out, HS1.out]; exact HF8.out, HK8.out⟩
                    case measure => simp [intOf]; omega
          · have HKl : Hid (k = bs.length) := by show _ = _; omega
            have HFz : Hid (FlAt w.heap.size wQ (w.heap.size + 1) res (1 + sO + sB) (fun k => k = w.heap.size)) := by
              show FlAt _ _ _ _ _ _
              have hx := HFl.out
              rw [HKl.out, List.take_of_length_le (Nat.le_refl _), HSBe.out, HRes.out] at hx
              exact hx
            have HBr : Hid (Below w.heap.size w wQ) := HB0.out.trans HK.out.bel
            obtain ⟨vf, hvf, hcf⟩ := HFi.out wQ _ _ _ HFz.out
            have HCf : Hid (_) := hcf
            clear hcf
            go_wp2_with fail
            refine Calls.mono HCf.out ?_
            rintro r wz ⟨rfl, hwz⟩
            obtain rfl : wQ = wz := hwz.symm
            go_wp2_with fail
            go_ret
            exact ⟨rfl, HBr.out⟩
  · rw [decide_eq_false g1] at q1 hdd
    have HDd : Hid (decide (12 < bs.length) = dd) := hdd
    clear g1
    go_wp2_with fail
    rw [← HW0.out]
    refine Calls.mono (HGo.out _ (by first | rfl | exact HDd.out | exact q2.trans HDd.out)) ?_
    rintro r wa ⟨rfl, h1, h2⟩
    have HFa : Hid (FlAt w.heap.size wa (w.heap.size + 1) (orE (ifE dd 2) (firstA roleI [] (rs.take 0))) (1 + ((rs.take 0).map (roN rs.length)).sum) (fun k => k = w.heap.size)) := by
      show FlAt _ _ _ _ _ _
      have : orE (ifE dd 2) (firstA roleI [] (rs.take 0)) = ifE dd 2 := by
        rw [List.take_zero]
        show orE _ 0 = _
        unfold orE; split <;> simp_all
      rw [this]
      exact h1
    have HKa : Hid (Kp w.heap.size (fun k => k = w.heap.size) w0 wa) := h2
    clear h1 h2 HGo q1 q2 hdd
    obtain ⟨x0, x1⟩ := HBg.out wa HKa.out
    go_wp2_with fail
    clear x0 x1
    go_loopw [26] (fun i wr => ∃ k : Nat, k ≤ rs.length ∧ i = .int .i64 k ∧ FlAt w.heap.size wr (w.heap.size + 1) (orE (ifE dd 2) (firstA roleI [] (rs.take k))) (1 + ((rs.take k).map (roN rs.length)).sum) (fun k => k = w.heap.size) ∧ Kp w.heap.size (fun k => k = w.heap.size) w0 wr) (fun i _ => rs.length - (intOf i).toNat)
    case atStart => exact ⟨0, Nat.zero_le _, rfl, HFa.out, HKa.out⟩
    case round =>
      obtain ⟨k, hk, rfl, hfl, hkp⟩ := hrel
      obtain ⟨wO, hwO⟩ : ∃ x : World, x = wr := ⟨wr, rfl⟩
      subst hwO
      have HK : Hid (Kp w.heap.size (fun k => k = w.heap.size) w0 wO) := hkp
      have HFl : Hid (FlAt w.heap.size wO (w.heap.size + 1) (orE (ifE dd 2) (firstA roleI [] (rs.take k))) (1 + ((rs.take k).map (roN rs.length)).sum) (fun k => k = w.heap.size)) := hfl
      clear hkp hfl HFa HKa
      by_cases hlt : k < rs.length
      · obtain ⟨g, o, p3, c3, rfl, hlc, srl, hc0⟩ := HC.out k hlt
        have HBr : Hid (Below w.heap.size w wO) := HB0.out.trans HK.out.bel
        obtain ⟨i1, i2, i3⟩ := hc0 wO HBr.out
        have HTk : Hid (_) := HTo.out (ifE dd 2) k hlt
        have hfit := HFo.out k hlt
        have HSm : Hid (_) := HSo.out k hlt
        have HRC : Hid (∀ e', orE (orE (orE (orE e' (ifI rs[k].1)) (cI rs[k].2.1)) (ifE (roleB (rs.take k) rs[k]) 5)) (rulesI rs[k].2.2) = orE e' (roleI (rs.take k) rs[k])) := fun e' => role_chainE e' (rs.take k) rs[k]
        have HTw : Hid (∀ j (hj : j < rs.length), roleB (rs.take (j + 1)) rs[k] = (roleB (rs.take j) rs[k] || (decide (rs[j].1 = rs[k].1) && decide (rs[j].2.1 = rs[k].2.1)))) := fun j hj => roleB_take hj
        have HT0 : Hid (roleB (rs.take 0) rs[k] = false) := rfl
        have HRl : Hid (Rls w (.slice p3 rs[k].2.2.length c3) rs[k].2.2) := srl
        have HFit : Hid (FitO rs[k]) := hfit
        clear hc0 hfit srl
        generalize hrk : rs[k] = rk at *
        obtain ⟨sp, nm, rl⟩ := rk
        dsimp only at *
        have HFn : Hid (FlAt w.heap.size (wO.alloc (.cells #[.string (Ba sp), .string (Ba nm), .slice p3 rl.length c3] 47)) (w.heap.size + 1) (orE (ifE dd 2) (firstA roleI [] (rs.take k))) (1 + ((rs.take k).map (roN rs.length)).sum) (fun k => k = w.heap.size ∨ k = wO.heap.size)) := HFl.out.also _
        obtain ⟨wn, hwn⟩ : ∃ wn, wn = wO.alloc (.cells #[.string (Ba sp), .string (Ba nm), .slice p3 rl.length c3] 47) := ⟨_, rfl⟩
        have HBx : Hid (∀ w1, Kp w.heap.size (fun k => k = w.heap.size ∨ k = wO.heap.size) wn w1 → w1.cell? ⟨wO.heap.size, 0, none⟩ = some (.string (Ba sp)) ∧ w1.cell? ⟨wO.heap.size, 1, none⟩ = some (.string (Ba nm)) ∧ w1.cell? ⟨wO.heap.size, 2, none⟩ = some (.slice p3 rl.length c3)) := fun w1 h => by rw [hwn] at h; exact bx3k (av := fun k => k = w.heap.size) h
        rw [← hwn] at HFn
        have hBn : Below wO.heap.size wO wn := by rw [hwn]; exact (Below.refl _ _).alloc (Nat.le_refl _) _
        have HWn : Hid (wn = wO.alloc (.cells #[.string (Ba sp), .string (Ba nm), .slice p3 rl.length c3] 47)) := hwn
        have HKn : Hid (Kp w.heap.size (fun k => k = w.heap.size) w0 wn) := HK.out.trans (Kp.of_below hBn HBr.out.size)
        have HKx : Hid (∀ w1, Kp w.heap.size (fun k => k = w.heap.size ∨ k = wO.heap.size) wn w1 → Kp w.heap.size (fun k => k = w.heap.size) w0 w1) := fun w1 h => HKn.out.trans (h.less (fun k hk => Or.inl hk))
        have HBl : Hid (∀ w1, Kp w.heap.size (fun k => k = w.heap.size ∨ k = wO.heap.size) wn w1 → Below w.heap.size w w1) := fun w1 h => HB0.out.trans (HKx.out w1 h).bel
        have HCn := HNn.out
        clear hBn hwn
        generalize orE (ifE dd 2) (firstA roleI [] (rs.take k)) = ek at *
        generalize hek1 : orE (ifE dd 2) (firstA roleI [] (rs.take (k + 1))) = ek1 at *
        generalize ((rs.take k).map (roN rs.length)).sum = sk at *
        generalize hsk1 : ((rs.take (k + 1)).map (roN rs.length)).sum = sk1 at *
        have HE1 : Hid (orE (ifE dd 2) (firstA roleI [] (rs.take (k + 1))) = ek1) := hek1
        have HS1 : Hid (((rs.take (k + 1)).map (roN rs.length)).sum = sk1) := hsk1
        have HSn : Hid (sk1 = sk + (2 + rs.length + rulesN rl) ∧ sk1 ≤ sO ∧ 1 + sO + sB ≤ 10000000000000) := ⟨HSm.out.1, HSm.out.2, HNn.out⟩
        clear hek1 hsk1 HCn HSm
        go_wp2_with fail
        rw [← HWn.out]
        refine Calls.mono (HSp.out _ _ _ _ sp HFit.out.1 HFn.out (by have := HSn.out; omega)) ?_
        rintro r wb ⟨rfl, h1, h2⟩
        have HF1 : Hid (FlAt w.heap.size wb (w.heap.size + 1) (orE ek (ifI sp)) (1 + sk + 1) (fun k => k = w.heap.size ∨ k = wO.heap.size)) := h1
        have HK1 : Hid (Kp w.heap.size (fun k => k = w.heap.size ∨ k = wO.heap.size) wn wb) := h2
        obtain ⟨z0, z1, z2⟩ := HBx.out wb h2
        clear h1 h2 i1 i2 i3
        go_wp2_with fail
        refine Calls.mono (HNm.out nm _ HFit.out.2.1) ?_
        rintro r wc ⟨rfl, hwc⟩
        obtain rfl : wb = wc := hwc.symm
        go_wp2_with fail
        refine Calls.mono (HSa.out _ _ _ _ _ HF1.out (by have := HSn.out; omega)) ?_
        rintro r wd ⟨rfl, h1, h2⟩
        have HF2 : Hid (FlAt w.heap.size wd (w.heap.size + 1) (orE (orE ek (ifI sp)) (cI nm)) (1 + sk + 1 + 1) (fun k => k = w.heap.size ∨ k = wO.heap.size)) := h1
        have HK2 : Hid (Kp w.heap.size (fun k => k = w.heap.size ∨ k = wO.heap.size) wn wd) := HK1.out.trans h2
        clear h1 h2 z0 z1 z2
        obtain ⟨x0, x1⟩ := HBg.out wd (HKx.out wd HK2.out)
        go_wp2_with fail
        clear x0 x1
        have HF3 : Hid (FlAt w.heap.size wd (w.heap.size + 1) (orE (orE (orE ek (ifI sp)) (cI nm)) (ifE (roleB (rs.take 0) (sp, nm, rl)) 5)) (1 + sk + 1 + 1 + 0) (fun k => k = w.heap.size ∨ k = wO.heap.size)) := by
          show FlAt _ _ _ _ _ _
          have : orE (orE (orE ek (ifI sp)) (cI nm)) (ifE (roleB (rs.take 0) (sp, nm, rl)) 5) = orE (orE ek (ifI sp)) (cI nm) := by
            rw [HT0.out]
            show orE _ 0 = _
            unfold orE; split <;> simp_all
          rw [this]
          exact HF2.out
        go_loopw [43] (fun i wr => ∃ j : Nat, j ≤ k ∧ i = .int .i64 j ∧ FlAt w.heap.size wr (w.heap.size + 1) (orE (orE (orE ek (ifI sp)) (cI nm)) (ifE (roleB (rs.take j) (sp, nm, rl)) 5)) (1 + sk + 1 + 1 + j) (fun k => k = w.heap.size ∨ k = wO.heap.size) ∧ Kp w.heap.size (fun k => k = w.heap.size ∨ k = wO.heap.size) wn wr) (fun i _ => k - (intOf i).toNat)
        case atStart => exact ⟨0, Nat.zero_le _, rfl, HF3.out, HK2.out⟩
        case round =>
          obtain ⟨j, hj, rfl, hfl, hkp⟩ := hrel
          have HKi : Hid (Kp w.heap.size (fun k => k = w.heap.size ∨ k = wO.heap.size) wn wr) := hkp
          have HFi2 : Hid (FlAt w.heap.size wr (w.heap.size + 1) (orE (orE (orE ek (ifI sp)) (cI nm)) (ifE (roleB (rs.take j) (sp, nm, rl)) 5)) (1 + sk + 1 + 1 + j) (fun k => k = w.heap.size ∨ k = wO.heap.size)) := hfl
          clear hkp hfl
          have HBi : Hid (Below w.heap.size w wr) := HBl.out wr HKi.out
          by_cases hjk : j < k
          · have hjl : j < rs.length := by omega
            obtain ⟨g2, o2, p6, c6, hgo, _, _, hc6⟩ := HC.out j hjl
            obtain ⟨rfl, rfl⟩ : g2 = g ∧ o2 = o := by
              injection hgo with hgo
              injection hgo with e1 e2 _
              exact ⟨e1.symm, e2.symm⟩
            obtain ⟨j1, j2, j3⟩ := hc6 wr HBi.out
            have HTj : Hid (_) := HTw.out j hjl
            have r1 := HQ1.out rs[j].1 sp
            have r2 := HQ1.out rs[j].2.1 nm
            generalize rs[j].2.2.length = l6 at *
            generalize rs[j].1 = t1 at *
            generalize rs[j].2.1 = t2 at *
            have hBm : Below wr.heap.size wr (wr.alloc (.cells #[.string (Ba t1), .string (Ba t2), .slice p6 l6 c6] 47)) := (Below.refl _ _).alloc (Nat.le_refl _) _
            have HFm : Hid (FlAt w.heap.size (wr.alloc (.cells #[.string (Ba t1), .string (Ba t2), .slice p6 l6 c6] 47)) (w.heap.size + 1) (orE (orE (orE ek (ifI sp)) (cI nm)) (ifE (roleB (rs.take j) (sp, nm, rl)) 5)) (1 + sk + 1 + 1 + j) (fun k => k = w.heap.size ∨ k = wO.heap.size)) := HFi2.out.below hBm
            have HKm : Hid (Kp w.heap.size (fun k => k = w.heap.size ∨ k = wO.heap.size) wn (wr.alloc (.cells #[.string (Ba t1), .string (Ba t2), .slice p6 l6 c6] 47))) := HKi.out.trans (Kp.of_below hBm HBi.out.size)
            obtain ⟨y0, y1, y2⟩ := HBx.out _ HKm.out
            clear hc6 hgo hBm
            have HEj : Hid (∀ bad, bad = (decide (t1 = sp) && decide (t2 = nm)) → orE (orE (orE (orE ek (ifI sp)) (cI nm)) (ifE (roleB (rs.take j) (sp, nm, rl)) 5)) (ifE bad 5) = orE (orE (orE ek (ifI sp)) (cI nm)) (ifE (roleB (rs.take (j + 1)) (sp, nm, rl)) 5)) := fun bad hb => by
              rw [HTj.out, hb, ifE_or]
            generalize hd1 : decide (t1 = sp) = d1 at *
            generalize hd2 : decide (t2 = nm) = d2 at *
            generalize Ba t1 = yt1 at *
            generalize Ba t2 = yt2 at *
            generalize Ba sp = ysp at *
            generalize Ba nm = ynm at *
            clear hd1 hd2
            cases d1 with
            | true =>
              go_wp2_with fail
              refine Calls.mono (HAd.out _ _ _ _ _ _ HFm.out (by have := HSn.out; omega)) ?_
              rintro r we ⟨rfl, h1, h2⟩
              have HF4 : Hid (FlAt w.heap.size we (w.heap.size + 1) (orE (orE (orE ek (ifI sp)) (cI nm)) (ifE (roleB (rs.take (j + 1)) (sp, nm, rl)) 5)) (1 + sk + 1 + 1 + (j + 1)) (fun k => k = w.heap.size ∨ k = wO.heap.size)) := by
                show FlAt _ _ _ _ _ _
                rw [← HEj.out d2 rfl]
                first
                  | exact h1
                  | (rw [r2] at h1; exact h1)
              have HK4 : Hid (Kp w.heap.size (fun k => k = w.heap.size ∨ k = wO.heap.size) wn we) := HKm.out.trans h2
              clear h1 h2
              go_wp2_with fail
              go_roundw
              case rel => exact ⟨j + 1, by omega, by go_num, HF4.out, HK4.out⟩
              case measure => simp [intOf]; omega
            | false =>
              go_wp2_with fail
              refine Calls.mono (HAd.out _ _ _ _ _ _ HFm.out (by have := HSn.out; omega)) ?_
              rintro r we ⟨rfl, h1, h2⟩
              have HF4 : Hid (FlAt w.heap.size we (w.heap.size + 1) (orE (orE (orE ek (ifI sp)) (cI nm)) (ifE (roleB (rs.take (j + 1)) (sp, nm, rl)) 5)) (1 + sk + 1 + 1 + (j + 1)) (fun k => k = w.heap.size ∨ k = wO.heap.size)) := by
                show FlAt _ _ _ _ _ _
                rw [← HEj.out false rfl]
                exact h1
              have HK4 : Hid (Kp w.heap.size (fun k => k = w.heap.size ∨ k = wO.heap.size) wn we) := HKm.out.trans h2
              clear h1 h2
              go_wp2_with fail
              go_roundw
              case rel => exact ⟨j + 1, by omega, by go_num, HF4.out, HK4.out⟩
              case measure => simp [intOf]; omega
          · have HKl : Hid (j = k) := by show _ = _; omega
            obtain ⟨z0, z1, z2⟩ := HBx.out wr HKi.out
            go_wp2_with fail
            refine Calls.mono (HRu.out _ _ _ _ _ rl HRl.out HFit.out.2.2 HBi.out HFi2.out (by have := HSn.out; omega)) ?_
            rintro r wf ⟨rfl, h1, h2⟩
            have HF5 : Hid (FlAt w.heap.size wf (w.heap.size + 1) ek1 (1 + sk1) (fun k => k = w.heap.size)) := by
              show FlAt _ _ _ _ _ _
              rw [HKl.out, HRC.out] at h1
              rw [HTk.out, HSn.out.1]
              exact (h1.less (fun k hk => Or.inl hk)).more (by omega)
            have HK5 : Hid (Kp w.heap.size (fun k => k = w.heap.size) w0 wf) := HKx.out wf (HKi.out.trans h2)
            clear h1 h2 z0 z1 z2
            go_wp2_with fail
            go_roundw
            case rel => exact ⟨k + 1, by omega, by go_num, by rw [HE1.out, HS1.out]; exact HF5.out, HK5.out⟩
            case measure => simp [intOf]; omega
      · have HKl : Hid (k = rs.length) := by show _ = _; omega
        have HFs : Hid (FlAt w.heap.size wO (w.heap.size + 1) (orE (orE (ifE dd 2) (firstA roleI [] rs)) (firstA bindI [] (bs.take 0))) (1 + sO + ((bs.take 0).map (biN bs.length)).sum) (fun k => k = w.heap.size)) := by
          show FlAt _ _ _ _ _ _
          have hx := HFl.out
          rw [HKl.out, List.take_of_length_le (Nat.le_refl _), HSOe.out] at hx
          have : orE (orE (ifE dd 2) (firstA roleI [] rs)) (firstA bindI [] (bs.take 0)) = orE (ifE dd 2) (firstA roleI [] rs) := by
            rw [List.take_zero]
            show orE _ 0 = _
            unfold orE; split <;> simp_all
          rw [this]
          exact hx
        generalize orE (ifE dd 2) (firstA roleI [] rs) = e0 at *
        obtain ⟨x0, x1⟩ := HBg.out wO HK.out
        have HKs : Hid (Kp w.heap.size (fun k => k = w.heap.size) w0 wO) := HK.out
        clear HFl HK HC HFo HSo HTo HRu
        go_wp2_with fail
        clear x0 x1
        go_loopw [68] (fun i wr => ∃ k : Nat, k ≤ bs.length ∧ i = .int .i64 k ∧ FlAt w.heap.size wr (w.heap.size + 1) (orE e0 (firstA bindI [] (bs.take k))) (1 + sO + ((bs.take k).map (biN bs.length)).sum) (fun k => k = w.heap.size) ∧ Kp w.heap.size (fun k => k = w.heap.size) w0 wr) (fun i _ => bs.length - (intOf i).toNat)
        case atStart => exact ⟨0, Nat.zero_le _, rfl, HFs.out, HKs.out⟩
        case round =>
          clear HFs HKs HKl hk hlt
          obtain ⟨k, hk, rfl, hfl, hkp⟩ := hrel
          obtain ⟨wQ, hwO⟩ : ∃ x : World, x = wr := ⟨wr, rfl⟩
          subst hwO
          have HK : Hid (Kp w.heap.size (fun k => k = w.heap.size) w0 wQ) := hkp
          have HFl : Hid (FlAt w.heap.size wQ (w.heap.size + 1) (orE e0 (firstA bindI [] (bs.take k))) (1 + sO + ((bs.take k).map (biN bs.length)).sum) (fun k => k = w.heap.size)) := hfl
          clear hkp hfl
          by_cases hlt : k < bs.length
          · obtain ⟨g, o, p4, c4, p5, c5, rfl, hlc, s4, s5, hc0⟩ := HC2.out k hlt
            have HBr : Hid (Below w.heap.size w wQ) := HB0.out.trans HK.out.bel
            obtain ⟨i1, i2, i3, i4, i5, i6⟩ := hc0 wQ HBr.out
            have HTk : Hid (_) := HTb.out e0 k hlt
            have HFit : Hid (FitB bs[k]) := HFb.out k hlt
            have HSm : Hid (_) := HSb.out k hlt
            have HRC : Hid (∀ e', orE (orE (orE (orE (orE (orE (orE (orE e' (ifI bs[k].1)) (cI bs[k].2.1)) (cI bs[k].2.2.1)) (ifE (bindB (bs.take k) bs[k]) 5)) (ifE (decide (bs[k].1 = []) && !bs[k].2.2.2.1) 1)) (ifE (decide (6 < bs[k].2.2.2.2.1.length) || decide (6 < bs[k].2.2.2.2.2.length)) 2)) (firstE (starI false) bs[k].2.2.2.2.1)) (firstE (starI false) bs[k].2.2.2.2.2) = orE e' (bindI (bs.take k) bs[k])) := fun e' => bind_chainE e' (bs.take k) bs[k]
            have HTw : Hid (∀ j (hj : j < bs.length), bindB (bs.take (j + 1)) bs[k] = (bindB (bs.take j) bs[k] || (decide (bs[j].1 = bs[k].1) && decide (bs[j].2.1 = bs[k].2.1)))) := fun j hj => bindB_take hj
            have HT0 : Hid (bindB (bs.take 0) bs[k] = false) := rfl
            have HS4 : Hid (Strs w (.slice p4 bs[k].2.2.2.2.1.length c4) bs[k].2.2.2.2.1) := s4
            have HS5 : Hid (Strs w (.slice p5 bs[k].2.2.2.2.2.length c5) bs[k].2.2.2.2.2) := s5
            have m4 := s4.form.choose_spec.choose_spec.2
            have m5 := s5.form.choose_spec.choose_spec.2
            clear hc0 s4 s5
            generalize hrk : bs[k] = rk at *
            obtain ⟨sp, nm, ro, wh, us, gs⟩ := rk
            dsimp only at *
            unfold maxLen at m4 m5
            have HFn : Hid (FlAt w.heap.size (wQ.alloc (.cells #[.string (Ba sp), .string (Ba nm), .string (Ba ro), .bool wh, .slice p4 us.length c4, .slice p5 gs.length c5] 49)) (w.heap.size + 1) (orE e0 (firstA bindI [] (bs.take k))) (1 + sO + ((bs.take k).map (biN bs.length)).sum) (fun k => k = w.heap.size ∨ k = wQ.heap.size)) := HFl.out.also _
            obtain ⟨wn, hwn⟩ : ∃ wn, wn = wQ.alloc (.cells #[.string (Ba sp), .string (Ba nm), .string (Ba ro), .bool wh, .slice p4 us.length c4, .slice p5 gs.length c5] 49) := ⟨_, rfl⟩
            have HBx : Hid (∀ w1, Kp w.heap.size (fun k => k = w.heap.size ∨ k = wQ.heap.size) wn w1 → w1.cell? ⟨wQ.heap.size, 0, none⟩ = some (.string (Ba sp)) ∧ w1.cell? ⟨wQ.heap.size, 1, none⟩ = some (.string (Ba nm)) ∧ w1.cell? ⟨wQ.heap.size, 2, none⟩ = some (.string (Ba ro)) ∧ w1.cell? ⟨wQ.heap.size, 3, none⟩ = some (.bool wh) ∧ w1.cell? ⟨wQ.heap.size, 4, none⟩ = some (.slice p4 us.length c4) ∧ w1.cell? ⟨wQ.heap.size, 5, none⟩ = some (.slice p5 gs.length c5)) := fun w1 h => by rw [hwn] at h; exact bx6k (av := fun k => k = w.heap.size) h
            rw [← hwn] at HFn
            have hBn : Below wQ.heap.size wQ wn := by rw [hwn]; exact (Below.refl _ _).alloc (Nat.le_refl _) _
            have HWn : Hid (wn = wQ.alloc (.cells #[.string (Ba sp), .string (Ba nm), .string (Ba ro), .bool wh, .slice p4 us.length c4, .slice p5 gs.length c5] 49)) := hwn
            have HKn : Hid (Kp w.heap.size (fun k => k = w.heap.size) w0 wn) := HK.out.trans (Kp.of_below hBn HBr.out.size)
            have HKx : Hid (∀ w1, Kp w.heap.size (fun k => k = w.heap.size ∨ k = wQ.heap.size) wn w1 → Kp w.heap.size (fun k => k = w.heap.size) w0 w1) := fun w1 h => HKn.out.trans (h.less (fun k hk => Or.inl hk))
            have HBl : Hid (∀ w1, Kp w.heap.size (fun k => k = w.heap.size ∨ k = wQ.heap.size) wn w1 → Below w.heap.size w w1) := fun w1 h => HB0.out.trans (HKx.out w1 h).bel
            clear hBn hwn
            generalize orE e0 (firstA bindI [] (bs.take k)) = ek at *
            generalize hek1 : orE e0 (firstA bindI [] (bs.take (k + 1))) = ek1 at *
            generalize ((bs.take k).map (biN bs.length)).sum = sk at *
            generalize hsk1 : ((bs.take (k + 1)).map (biN bs.length)).sum = sk1 at *
            have HE1 : Hid (orE e0 (firstA bindI [] (bs.take (k + 1))) = ek1) := hek1
            have HS1 : Hid (((bs.take (k + 1)).map (biN bs.length)).sum = sk1) := hsk1
            have HSn : Hid (sk1 = sk + (6 + bs.length + us.length + gs.length) ∧ sk1 ≤ sB ∧ 1 + sO + sB ≤ 10000000000000) := ⟨HSm.out.1, HSm.out.2, HNn.out⟩
            have q4 : decide ((6 : Int) < (us.length : Int)) = decide (6 < us.length) := by rw [Bool.eq_iff_iff, decide_eq_true_iff, decide_eq_true_iff]; omega
            have q5 : decide ((6 : Int) < (gs.length : Int)) = decide (6 < gs.length) := by rw [Bool.eq_iff_iff, decide_eq_true_iff, decide_eq_true_iff]; omega
            have q6 := HQ0.out sp
            clear hek1 hsk1 HSm
            go_wp2_with fail
            rw [← HWn.out]
            refine Calls.mono (HSp.out _ _ _ _ sp HFit.out.1 HFn.out (by have := HSn.out; omega)) ?_
            rintro r wb ⟨rfl, h1, h2⟩
            have HF1 : Hid (FlAt w.heap.size wb (w.heap.size + 1) (orE ek (ifI sp)) (1 + sO + sk + 1) (fun k => k = w.heap.size ∨ k = wQ.heap.size)) := h1
            have HK1 : Hid (Kp w.heap.size (fun k => k = w.heap.size ∨ k = wQ.heap.size) wn wb) := h2
            obtain ⟨z0, z1, z2, z3, z4, z5⟩ := HBx.out wb h2
            clear h1 h2 i1 i2 i3 i4 i5 i6
            go_wp2_with fail
            refine Calls.mono (HNm.out nm _ HFit.out.2.1) ?_
            rintro r wc ⟨rfl, hwc⟩
            obtain rfl : wb = wc := hwc.symm
            go_wp2_with fail
            refine Calls.mono (HSa.out _ _ _ _ _ HF1.out (by have := HSn.out; omega)) ?_
            rintro r wd ⟨rfl, h1, h2⟩
            have HF2 : Hid (FlAt w.heap.size wd (w.heap.size + 1) (orE (orE ek (ifI sp)) (cI nm)) (1 + sO + sk + 1 + 1) (fun k => k = w.heap.size ∨ k = wQ.heap.size)) := h1
            have HK2 : Hid (Kp w.heap.size (fun k => k = w.heap.size ∨ k = wQ.heap.size) wn wd) := HK1.out.trans h2
            clear h1 h2 z0 z1 z2 z3 z4 z5
            obtain ⟨z0, z1, z2, z3, z4, z5⟩ := HBx.out wd HK2.out
            go_wp2_with fail
            refine Calls.mono (HNm.out ro _ HFit.out.2.2.1) ?_
            rintro r wc ⟨rfl, hwc⟩
            obtain rfl : wd = wc := hwc.symm
            go_wp2_with fail
            refine Calls.mono (HSa.out _ _ _ _ _ HF2.out (by have := HSn.out; omega)) ?_
            rintro r wo ⟨rfl, h1, h2⟩
            have HF2b : Hid (FlAt w.heap.size wo (w.heap.size + 1) (orE (orE (orE ek (ifI sp)) (cI nm)) (cI ro)) (1 + sO + sk + 1 + 1 + 1) (fun k => k = w.heap.size ∨ k = wQ.heap.size)) := h1
            have HK2b : Hid (Kp w.heap.size (fun k => k = w.heap.size ∨ k = wQ.heap.size) wn wo) := HK2.out.trans h2
            clear h1 h2 z0 z1 z2 z3 z4 z5
            obtain ⟨x0, x1⟩ := HBg.out wo (HKx.out wo HK2b.out)
            go_wp2_with fail
            clear x0 x1
            generalize hEE : orE (orE (orE ek (ifI sp)) (cI nm)) (cI ro) = eE at *
            have HEE : Hid (orE (orE (orE ek (ifI sp)) (cI nm)) (cI ro) = eE) := hEE
            have HF3 : Hid (FlAt w.heap.size wo (w.heap.size + 1) (orE eE (ifE (bindB (bs.take 0) (sp, nm, ro, wh, us, gs)) 5)) (1 + sO + sk + 1 + 1 + 1 + 0) (fun k => k = w.heap.size ∨ k = wQ.heap.size)) := by
              show FlAt _ _ _ _ _ _
              have : orE eE (ifE (bindB (bs.take 0) (sp, nm, ro, wh, us, gs)) 5) = eE := by
                rw [HT0.out]
                show orE _ 0 = _
                unfold orE; split <;> simp_all
              rw [this]
              exact HF2b.out
            clear hEE
            go_loopw [89] (fun i wr => ∃ j : Nat, j ≤ k ∧ i = .int .i64 j ∧ FlAt w.heap.size wr (w.heap.size + 1) (orE eE (ifE (bindB (bs.take j) (sp, nm, ro, wh, us, gs)) 5)) (1 + sO + sk + 1 + 1 + 1 + j) (fun k => k = w.heap.size ∨ k = wQ.heap.size) ∧ Kp w.heap.size (fun k => k = w.heap.size ∨ k = wQ.heap.size) wn wr) (fun i _ => k - (intOf i).toNat)
            case atStart => exact ⟨0, Nat.zero_le _, rfl, HF3.out, HK2b.out⟩
            case round =>
              obtain ⟨j, hj, rfl, hfl, hkp⟩ := hrel
              have HKi : Hid (Kp w.heap.size (fun k => k = w.heap.size ∨ k = wQ.heap.size) wn wr) := hkp
              have HFi2 : Hid (FlAt w.heap.size wr (w.heap.size + 1) (orE eE (ifE (bindB (bs.take j) (sp, nm, ro, wh, us, gs)) 5)) (1 + sO + sk + 1 + 1 + 1 + j) (fun k => k = w.heap.size ∨ k = wQ.heap.size)) := hfl
              clear hkp hfl
              have HBi : Hid (Below w.heap.size w wr) := HBl.out wr HKi.out
              by_cases hjk : j < k
              · have hjl : j < bs.length := by omega
                obtain ⟨g2, o2, p6, c6, p7, c7, hgo, _, _, _, hc6⟩ := HC2.out j hjl
                obtain ⟨rfl, rfl⟩ : g2 = g ∧ o2 = o := by
                  injection hgo with hgo
                  injection hgo with e1 e2 _
                  exact ⟨e1.symm, e2.symm⟩
                obtain ⟨j1, j2, j3, j4, j5, j6⟩ := hc6 wr HBi.out
                have HTj : Hid (_) := HTw.out j hjl
                have r1 := HQ1.out bs[j].1 sp
                have r2 := HQ1.out bs[j].2.1 nm
                generalize bs[j].2.2.2.2.1.length = l6 at *
                generalize bs[j].2.2.2.2.2.length = l7 at *
                generalize bs[j].2.2.2.1 = b3 at *
                generalize Ba bs[j].2.2.1 = b2 at *
                generalize bs[j].1 = t1 at *
                generalize bs[j].2.1 = t2 at *
                have hBm : Below wr.heap.size wr (wr.alloc (.cells #[.string (Ba t1), .string (Ba t2), .string b2, .bool b3, .slice p6 l6 c6, .slice p7 l7 c7] 49)) := (Below.refl _ _).alloc (Nat.le_refl _) _
                have HFm : Hid (FlAt w.heap.size (wr.alloc (.cells #[.string (Ba t1), .string (Ba t2), .string b2, .bool b3, .slice p6 l6 c6, .slice p7 l7 c7] 49)) (w.heap.size + 1) (orE eE (ifE (bindB (bs.take j) (sp, nm, ro, wh, us, gs)) 5)) (1 + sO + sk + 1 + 1 + 1 + j) (fun k => k = w.heap.size ∨ k = wQ.heap.size)) := HFi2.out.below hBm
                have HKm : Hid (Kp w.heap.size (fun k => k = w.heap.size ∨ k = wQ.heap.size) wn (wr.alloc (.cells #[.string (Ba t1), .string (Ba t2), .string b2, .bool b3, .slice p6 l6 c6, .slice p7 l7 c7] 49))) := HKi.out.trans (Kp.of_below hBm HBi.out.size)
                obtain ⟨y0, y1, y2, y3, y4, y5⟩ := HBx.out _ HKm.out
                clear hc6 hgo hBm
                have HEj : Hid (∀ bad, bad = (decide (t1 = sp) && decide (t2 = nm)) → orE (orE eE (ifE (bindB (bs.take j) (sp, nm, ro, wh, us, gs)) 5)) (ifE bad 5) = orE eE (ifE (bindB (bs.take (j + 1)) (sp, nm, ro, wh, us, gs)) 5)) := fun bad hb => by
                  rw [HTj.out, hb, ifE_or]
                generalize hd1 : decide (t1 = sp) = d1 at *
                generalize hd2 : decide (t2 = nm) = d2 at *
                generalize Ba t1 = yt1 at *
                generalize Ba t2 = yt2 at *
                generalize Ba sp = ysp at *
                generalize Ba nm = ynm at *
                clear hd1 hd2 q4 q5 q6
                cases d1 with
                | true =>
                  go_wp2_with fail
                  refine Calls.mono (HAd.out _ _ _ _ _ _ HFm.out (by have := HSn.out; omega)) ?_
                  rintro r we ⟨rfl, h1, h2⟩
                  have HF4 : Hid (FlAt w.heap.size we (w.heap.size + 1) (orE eE (ifE (bindB (bs.take (j + 1)) (sp, nm, ro, wh, us, gs)) 5)) (1 + sO + sk + 1 + 1 + 1 + (j + 1)) (fun k => k = w.heap.size ∨ k = wQ.heap.size)) := by
                    show FlAt _ _ _ _ _ _
                    rw [← HEj.out d2 rfl]
                    first
                      | exact h1
                      | (rw [r2] at h1; exact h1)
                  have HK4 : Hid (Kp w.heap.size (fun k => k = w.heap.size ∨ k = wQ.heap.size) wn we) := HKm.out.trans h2
                  clear h1 h2
                  go_wp2_with fail
                  go_roundw
                  case rel => exact ⟨j + 1, by omega, by go_num, HF4.out, HK4.out⟩
                  case measure => simp [intOf]; omega
                | false =>
                  go_wp2_with fail
                  refine Calls.mono (HAd.out _ _ _ _ _ _ HFm.out (by have := HSn.out; omega)) ?_
                  rintro r we ⟨rfl, h1, h2⟩
                  have HF4 : Hid (FlAt w.heap.size we (w.heap.size + 1) (orE eE (ifE (bindB (bs.take (j + 1)) (sp, nm, ro, wh, us, gs)) 5)) (1 + sO + sk + 1 + 1 + 1 + (j + 1)) (fun k => k = w.heap.size ∨ k = wQ.heap.size)) := by
                    show FlAt _ _ _ _ _ _
                    rw [← HEj.out false rfl]
                    exact h1
                  have HK4 : Hid (Kp w.heap.size (fun k => k = w.heap.size ∨ k = wQ.heap.size) wn we) := HKm.out.trans h2
                  clear h1 h2
                  go_wp2_with fail
                  go_roundw
                  case rel => exact ⟨j + 1, by omega, by go_num, HF4.out, HK4.out⟩
                  case measure => simp [intOf]; omega
              · have HKl : Hid (j = k) := by show _ = _; omega
                obtain ⟨z0, z1, z2, z3, z4, z5⟩ := HBx.out wr HKi.out
                have HU4 : Hid (∀ bad, bad = (decide (sp = []) && !wh) → orE (orE eE (ifE (bindB (bs.take j) (sp, nm, ro, wh, us, gs)) 5)) (ifE bad 1) = orE (orE eE (ifE (bindB (bs.take j) (sp, nm, ro, wh, us, gs)) 5)) (ifE (decide (sp = []) && !wh) 1)) := fun bad hb => by rw [hb]
                have HU5 : Hid (∀ e' bad, bad = (decide (6 < us.length) || decide (6 < gs.length)) → orE e' (ifE bad 2) = orE e' (ifE (decide (6 < us.length) || decide (6 < gs.length)) 2)) := fun e' bad hb => by rw [hb]
                generalize hd3 : decide (sp = []) = d3 at *
                generalize hd4 : decide (6 < us.length) = d4 at *
                generalize hd5 : decide (6 < gs.length) = d5 at *
                clear hd3 hd4 hd5
                generalize hys : Ba sp = ysp at *
                clear hys
                cases d3 with
                | true =>
                  cases d4 with
                  | true =>
                    go_wp2_with fail
                    refine Calls.mono (HAd.out _ _ _ _ _ _ HFi2.out (by have := HSn.out; omega)) ?_
                    rintro r we ⟨rfl, h1, h2⟩
                    have HF5 : Hid (FlAt w.heap.size we (w.heap.size + 1) (orE (orE eE (ifE (bindB (bs.take j) (sp, nm, ro, wh, us, gs)) 5)) (ifE (true && !wh) 1)) (1 + sO + sk + 1 + 1 + 1 + j + 1) (fun k => k = w.heap.size ∨ k = wQ.heap.size)) := by
                      show FlAt _ _ _ _ _ _
                      exact h1
                    have HK5 : Hid (Kp w.heap.size (fun k => k = w.heap.size ∨ k = wQ.heap.size) wn we) := HKi.out.trans h2
                    clear h1 h2 z0 z1 z2 z3 z4 z5
                    obtain ⟨z0, z1, z2, z3, z4, z5⟩ := HBx.out we HK5.out
                    go_wp2_with fail
                    refine Calls.mono (HAd.out _ _ _ _ _ _ HF5.out (by have := HSn.out; omega)) ?_
                    rintro r wf ⟨rfl, h1, h2⟩
                    have HF6 : Hid (FlAt w.heap.size wf (w.heap.size + 1) (orE (orE (orE eE (ifE (bindB (bs.take j) (sp, nm, ro, wh, us, gs)) 5)) (ifE (true && !wh) 1)) (ifE (true || d5) 2)) (1 + sO + sk + 1 + 1 + 1 + j + 1 + 1) (fun k => k = w.heap.size ∨ k = wQ.heap.size)) := by
                      show FlAt _ _ _ _ _ _
                      first
                        | exact h1
                        | (rw [q5] at h1; exact h1)
                    have HK6 : Hid (Kp w.heap.size (fun k => k = w.heap.size ∨ k = wQ.heap.size) wn wf) := HK5.out.trans h2
                    clear h1 h2 z0 z1 z2 z3 z4 z5
                    obtain ⟨z0, z1, z2, z3, z4, z5⟩ := HBx.out wf HK6.out
                    go_wp2_with fail
                    refine Calls.mono (HNs.out _ _ _ _ _ us HS4.out HFit.out.2.2.2.1 (HBl.out wf HK6.out) HF6.out (by have := HSn.out; have := HKl.out; omega)) ?_
                    rintro r wh' ⟨rfl, h1, h2⟩
                    have HF7 : Hid (_) := h1
                    have HK7 : Hid (Kp w.heap.size (fun k => k = w.heap.size ∨ k = wQ.heap.size) wn wh') := HK6.out.trans h2
                    clear h1 h2 z0 z1 z2 z3 z4 z5
                    obtain ⟨z0, z1, z2, z3, z4, z5⟩ := HBx.out wh' HK7.out
                    go_wp2_with fail
                    refine Calls.mono (HNs.out _ _ _ _ _ gs HS5.out HFit.out.2.2.2.2 (HBl.out wh' HK7.out) HF7.out (by have := HSn.out; have := HKl.out; omega)) ?_
                    rintro r wj ⟨rfl, h1, h2⟩
                    have HF8 : Hid (FlAt w.heap.size wj (w.heap.size + 1) ek1 (1 + sO + sk1) (fun k => k = w.heap.size)) := by
                      show FlAt _ _ _ _ _ _
                      rw [HKl.out, ← HEE.out] at h1
                      have hh := HRC.out ek
                      rw [hh] at h1
                      rw [HTk.out, HSn.out.1]
                      exact (h1.less (fun k hk => Or.inl hk)).more (by omega)
                    have HK8 : Hid (Kp w.heap.size (fun k => k = w.heap.size) w0 wj) := HKx.out wj (HK7.out.trans h2)
                    clear h1 h2 z0 z1 z2 z3 z4 z5
                    go_wp2_with fail
                    go_roundw
                    case rel => exact ⟨k + 1, by omega, by go_num, by rw [HE1.out, HS1.out]; exact HF8.out, HK8.out⟩
                    case measure => simp [intOf]; omega
                  | false =>
                    go_wp2_with fail
                    refine Calls.mono (HAd.out _ _ _ _ _ _ HFi2.out (by have := HSn.out; omega)) ?_
                    rintro r we ⟨rfl, h1, h2⟩
                    have HF5 : Hid (FlAt w.heap.size we (w.heap.size + 1) (orE (orE eE (ifE (bindB (bs.take j) (sp, nm, ro, wh, us, gs)) 5)) (ifE (true && !wh) 1)) (1 + sO + sk + 1 + 1 + 1 + j + 1) (fun k => k = w.heap.size ∨ k = wQ.heap.size)) := by
                      show FlAt _ _ _ _ _ _
                      exact h1
                    have HK5 : Hid (Kp w.heap.size (fun k => k = w.heap.size ∨ k = wQ.heap.size) wn we) := HKi.out.trans h2
                    clear h1 h2 z0 z1 z2 z3 z4 z5
                    obtain ⟨z0, z1, z2, z3, z4, z5⟩ := HBx.out we HK5.out
                    go_wp2_with fail
                    refine Calls.mono (HAd.out _ _ _ _ _ _ HF5.out (by have := HSn.out; omega)) ?_
                    rintro r wf ⟨rfl, h1, h2⟩
                    have HF6 : Hid (FlAt w.heap.size wf (w.heap.size + 1) (orE (orE (orE eE (ifE (bindB (bs.take j) (sp, nm, ro, wh, us, gs)) 5)) (ifE (true && !wh) 1)) (ifE (false || d5) 2)) (1 + sO + sk + 1 + 1 + 1 + j + 1 + 1) (fun k => k = w.heap.size ∨ k = wQ.heap.size)) := by
                      show FlAt _ _ _ _ _ _
                      first
                        | exact h1
                        | (rw [q5] at h1; exact h1)
                    have HK6 : Hid (Kp w.heap.size (fun k => k = w.heap.size ∨ k = wQ.heap.size) wn wf) := HK5.out.trans h2
                    clear h1 h2 z0 z1 z2 z3 z4 z5
                    obtain ⟨z0, z1, z2, z3, z4, z5⟩ := HBx.out wf HK6.out
                    go_wp2_with fail
                    refine Calls.mono (HNs.out _ _ _ _ _ us HS4.out HFit.out.2.2.2.1 (HBl.out wf HK6.out) HF6.out (by have := HSn.out; have := HKl.out; omega)) ?_
                    rintro r wh' ⟨rfl, h1, h2⟩
                    have HF7 : Hid (_) := h1
                    have HK7 : Hid (Kp w.heap.size (fun k => k = w.heap.size ∨ k = wQ.heap.size) wn wh') := HK6.out.trans h2
                    clear h1 h2 z0 z1 z2 z3 z4 z5
                    obtain ⟨z0, z1, z2, z3, z4, z5⟩ := HBx.out wh' HK7.out
                    go_wp2_with fail
                    refine Calls.mono (HNs.out _ _ _ _ _ gs HS5.out HFit.out.2.2.2.2 (HBl.out wh' HK7.out) HF7.out (by have := HSn.out; have := HKl.out; omega)) ?_
                    rintro r wj ⟨rfl, h1, h2⟩
                    have HF8 : Hid (FlAt w.heap.size wj (w.heap.size + 1) ek1 (1 + sO + sk1) (fun k => k = w.heap.size)) := by
                      show FlAt _ _ _ _ _ _
                      rw [HKl.out, ← HEE.out] at h1
                      have hh := HRC.out ek
                      rw [hh] at h1
                      rw [HTk.out, HSn.out.1]
                      exact (h1.less (fun k hk => Or.inl hk)).more (by omega)
                    have HK8 : Hid (Kp w.heap.size (fun k => k = w.heap.size) w0 wj) := HKx.out wj (HK7.out.trans h2)
                    clear h1 h2 z0 z1 z2 z3 z4 z5
                    go_wp2_with fail
                    go_roundw
                    case rel => exact ⟨k + 1, by omega, by go_num, by rw [HE1.out, HS1.out]; exact HF8.out, HK8.out⟩
                    case measure => simp [intOf]; omega
                | false =>
                  cases d4 with
                  | true =>
                    go_wp2_with fail
                    refine Calls.mono (HAd.out _ _ _ _ _ _ HFi2.out (by have := HSn.out; omega)) ?_
                    rintro r we ⟨rfl, h1, h2⟩
                    have HF5 : Hid (FlAt w.heap.size we (w.heap.size + 1) (orE (orE eE (ifE (bindB (bs.take j) (sp, nm, ro, wh, us, gs)) 5)) (ifE (false && !wh) 1)) (1 + sO + sk + 1 + 1 + 1 + j + 1) (fun k => k = w.heap.size ∨ k = wQ.heap.size)) := by
                      show FlAt _ _ _ _ _ _
                      exact h1
                    have HK5 : Hid (Kp w.heap.size (fun k => k = w.heap.size ∨ k = wQ.heap.size) wn we) := HKi.out.trans h2
                    clear h1 h2 z0 z1 z2 z3 z4 z5
                    obtain ⟨z0, z1, z2, z3, z4, z5⟩ := HBx.out we HK5.out
                    go_wp2_with fail
                    refine Calls.mono (HAd.out _ _ _ _ _ _ HF5.out (by have := HSn.out; omega)) ?_
                    rintro r wf ⟨rfl, h1, h2⟩
                    have HF6 : Hid (FlAt w.heap.size wf (w.heap.size + 1) (orE (orE (orE eE (ifE (bindB (bs.take j) (sp, nm, ro, wh, us, gs)) 5)) (ifE (false && !wh) 1)) (ifE (true || d5) 2)) (1 + sO + sk + 1 + 1 + 1 + j + 1 + 1) (fun k => k = w.heap.size ∨ k = wQ.heap.size)) := by
                      show FlAt _ _ _ _ _ _
                      first
                        | exact h1
                        | (rw [q5] at h1; exact h1)
                    have HK6 : Hid (Kp w.heap.size (fun k => k = w.heap.size ∨ k = wQ.heap.size) wn wf) := HK5.out.trans h2
                    clear h1 h2 z0 z1 z2 z3 z4 z5
                    obtain ⟨z0, z1, z2, z3, z4, z5⟩ := HBx.out wf HK6.out
                    go_wp2_with fail
                    refine Calls.mono (HNs.out _ _ _ _ _ us HS4.out HFit.out.2.2.2.1 (HBl.out wf HK6.out) HF6.out (by have := HSn.out; have := HKl.out; omega)) ?_
                    rintro r wh' ⟨rfl, h1, h2⟩
                    have HF7 : Hid (_) := h1
                    have HK7 : Hid (Kp w.heap.size (fun k => k = w.heap.size ∨ k = wQ.heap.size) wn wh') := HK6.out.trans h2
                    clear h1 h2 z0 z1 z2 z3 z4 z5
                    obtain ⟨z0, z1, z2, z3, z4, z5⟩ := HBx.out wh' HK7.out
                    go_wp2_with fail
                    refine Calls.mono (HNs.out _ _ _ _ _ gs HS5.out HFit.out.2.2.2.2 (HBl.out wh' HK7.out) HF7.out (by have := HSn.out; have := HKl.out; omega)) ?_
                    rintro r wj ⟨rfl, h1, h2⟩
                    have HF8 : Hid (FlAt w.heap.size wj (w.heap.size + 1) ek1 (1 + sO + sk1) (fun k => k = w.heap.size)) := by
                      show FlAt _ _ _ _ _ _
                      rw [HKl.out, ← HEE.out] at h1
                      have hh := HRC.out ek
                      rw [hh] at h1
                      rw [HTk.out, HSn.out.1]
                      exact (h1.less (fun k hk => Or.inl hk)).more (by omega)
                    have HK8 : Hid (Kp w.heap.size (fun k => k = w.heap.size) w0 wj) := HKx.out wj (HK7.out.trans h2)
                    clear h1 h2 z0 z1 z2 z3 z4 z5
                    go_wp2_with fail
                    go_roundw
                    case rel => exact ⟨k + 1, by omega, by go_num, by rw [HE1.out, HS1.out]; exact HF8.out, HK8.out⟩
                    case measure => simp [intOf]; omega
                  | false =>
                    go_wp2_with fail
                    refine Calls.mono (HAd.out _ _ _ _ _ _ HFi2.out (by have := HSn.out; omega)) ?_
                    rintro r we ⟨rfl, h1, h2⟩
                    have HF5 : Hid (FlAt w.heap.size we (w.heap.size + 1) (orE (orE eE (ifE (bindB (bs.take j) (sp, nm, ro, wh, us, gs)) 5)) (ifE (false && !wh) 1)) (1 + sO + sk + 1 + 1 + 1 + j + 1) (fun k => k = w.heap.size ∨ k = wQ.heap.size)) := by
                      show FlAt _ _ _ _ _ _
                      exact h1
                    have HK5 : Hid (Kp w.heap.size (fun k => k = w.heap.size ∨ k = wQ.heap.size) wn we) := HKi.out.trans h2
                    clear h1 h2 z0 z1 z2 z3 z4 z5
                    obtain ⟨z0, z1, z2, z3, z4, z5⟩ := HBx.out we HK5.out
                    go_wp2_with fail
                    refine Calls.mono (HAd.out _ _ _ _ _ _ HF5.out (by have := HSn.out; omega)) ?_
                    rintro r wf ⟨rfl, h1, h2⟩
                    have HF6 : Hid (FlAt w.heap.size wf (w.heap.size + 1) (orE (orE (orE eE (ifE (bindB (bs.take j) (sp, nm, ro, wh, us, gs)) 5)) (ifE (false && !wh) 1)) (ifE (false || d5) 2)) (1 + sO + sk + 1 + 1 + 1 + j + 1 + 1) (fun k => k = w.heap.size ∨ k = wQ.heap.size)) := by
                      show FlAt _ _ _ _ _ _
                      first
                        | exact h1
                        | (rw [q5] at h1; exact h1)
                    have HK6 : Hid (Kp w.heap.size (fun k => k = w.heap.size ∨ k = wQ.heap.size) wn wf) := HK5.out.trans h2
                    clear h1 h2 z0 z1 z2 z3 z4 z5
                    obtain ⟨z0, z1, z2, z3, z4, z5⟩ := HBx.out wf HK6.out
                    go_wp2_with fail
                    refine Calls.mono (HNs.out _ _ _ _ _ us HS4.out HFit.out.2.2.2.1 (HBl.out wf HK6.out) HF6.out (by have := HSn.out; have := HKl.out; omega)) ?_
                    rintro r wh' ⟨rfl, h1, h2⟩
                    have HF7 : Hid (_) := h1
                    have HK7 : Hid (Kp w.heap.size (fun k => k = w.heap.size ∨ k = wQ.heap.size) wn wh') := HK6.out.trans h2
                    clear h1 h2 z0 z1 z2 z3 z4 z5
                    obtain ⟨z0, z1, z2, z3, z4, z5⟩ := HBx.out wh' HK7.out
                    go_wp2_with fail
                    refine Calls.mono (HNs.out _ _ _ _ _ gs HS5.out HFit.out.2.2.2.2 (HBl.out wh' HK7.out) HF7.out (by have := HSn.out; have := HKl.out; omega)) ?_
                    rintro r wj ⟨rfl, h1, h2⟩
                    have HF8 : Hid (FlAt w.heap.size wj (w.heap.size + 1) ek1 (1 + sO + sk1) (fun k => k = w.heap.size)) := by
                      show FlAt _ _ _ _ _ _
                      rw [HKl.out, ← HEE.out] at h1
                      have hh := HRC.out ek
                      rw [hh] at h1
                      rw [HTk.out, HSn.out.1]
                      exact (h1.less (fun k hk => Or.inl hk)).more (by omega)
                    have HK8 : Hid (Kp w.heap.size (fun k => k = w.heap.size) w0 wj) := HKx.out wj (HK7.out.trans h2)
                    clear h1 h2 z0 z1 z2 z3 z4 z5
                    go_wp2_with fail
                    go_roundw
                    case rel => exact ⟨k + 1, by omega, by go_num, by rw [HE1.out, HS1.out]; exact HF8.out, HK8.out⟩
                    case measure => simp [intOf]; omega
          · have HKl : Hid (k = bs.length) := by show _ = _; omega
            have HFz : Hid (FlAt w.heap.size wQ (w.heap.size + 1) res (1 + sO + sB) (fun k => k = w.heap.size)) := by
              show FlAt _ _ _ _ _ _
              have hx := HFl.out
              rw [HKl.out, List.take_of_length_le (Nat.le_refl _), HSBe.out, HRes.out] at hx
              exact hx
            have HBr : Hid (Below w.heap.size w wQ) := HB0.out.trans HK.out.bel
            obtain ⟨vf, hvf, hcf⟩ := HFi.out wQ _ _ _ HFz.out
            have HCf : Hid (_) := hcf
            clear hcf
            go_wp2_with fail
            refine Calls.mono HCf.out ?_
            rintro r wz ⟨rfl, hwz⟩
            obtain rfl : wQ = wz := hwz.symm
            go_wp2_with fail
            go_ret
            exact ⟨rfl, HBr.out⟩
end Go.Proofs.Ytnjjlnhchfoigaa
