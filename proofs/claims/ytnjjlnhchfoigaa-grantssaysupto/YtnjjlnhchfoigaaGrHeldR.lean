/- Contract over this translation of the document's held. -/
import Derived.Test.YtnjjlnhchfoigaaGrHas
import Derived.Test.YtnjjlnhchfoigaaGrHeld
import Derived.Test.YtnjjlnhchfoigaaGrTop
namespace Go.Proofs.Ytnjjlnhchfoigaa
open Go.RowKit
set_option linter.unusedVariables false
set_option linter.unusedSimpArgs false
/-- the rules of all roles that a bind means -/
def matchL (b : Bi) (rs : List Ro) : List Rl := rs.flatMap fun r => if isRole b r then r.2.2 else []
theorem matchL_none {b : Bi} : ∀ {rs : List Ro}, (∀ r ∈ rs, isRole b r = false) → matchL b rs = []
  | [], _ => rfl
  | y :: l, h => by
    have ih := matchL_none (b := b) (rs := l) (fun r hr => h r (by simp [hr]))
    show (if isRole b y then y.2.2 else []) ++ matchL b l = []
    rw [ih, h y (by simp)]; rfl
theorem apart_of : ∀ {l q : List Ro} {y : Ro}, firstA roleI q l = 0 → y ∈ q → ∀ r ∈ l, ¬ (y.1 = r.1 ∧ y.2.1 = r.2.1)
  | [], _, _, _, _, r, hr => by simp at hr
  | x :: l, q, y, h, hy, r, hr => by
    rw [firstA] at h
    by_cases hx : roleI q x = 0
    · rw [if_pos hx] at h
      rcases List.mem_cons.1 hr with rfl | hr
      · have h2 := (orE_zero.1 (orE_zero.1 hx).2).1
        intro ⟨e1, e2⟩
        have hb : roleB q r = true := by
          unfold roleB
          rw [List.any_eq_true]
          exact ⟨y, hy, by simp [e1, e2]⟩
        rw [hb] at h2; cases h2
      · exact apart_of h (by simp [hy]) r hr
    · rw [if_neg hx] at h
      exact absurd h hx
theorem match_role {b : Bi} : ∀ {rs q : List Ro}, firstA roleI q rs = 0 → matchL b rs = roleOf rs b
  | [], _, _ => rfl
  | y :: l, q, h => by
    have h' : roleI q y = 0 ∧ firstA roleI (q ++ [y]) l = 0 := by
      rw [firstA] at h
      by_cases hx : roleI q y = 0
      · rw [if_pos hx] at h; exact ⟨hx, h⟩
      · rw [if_neg hx] at h; exact absurd h hx
    show (if isRole b y then y.2.2 else []) ++ matchL b l = roleOf (y :: l) b
    rw [roleOf]
    by_cases hy : isRole b y = true
    · rw [if_pos hy, if_pos hy, matchL_none (fun r hr => ?_), List.append_nil]
      cases hb : isRole b r with
      | false => rfl
      | true =>
        have hap := apart_of h'.2 (show y ∈ q ++ [y] by simp) r hr
        unfold isRole at hy hb
        simp only [Bool.and_eq_true, decide_eq_true_eq] at hy hb
        exact absurd ⟨hy.1.trans hb.1.symm, hy.2.trans hb.2.symm⟩ hap
    · rw [if_neg hy, if_neg hy]
      exact match_role h'.2
theorem match_take {b : Bi} {rs : List Ro} {k : Nat} (hk : k < rs.length) : matchL b (rs.take (k + 1)) = matchL b (rs.take k) ++ (if isRole b rs[k] then rs[k].2.2 else []) := by
  unfold matchL
  rw [List.take_succ_eq_append_getElem hk, List.flatMap_append]
  simp
theorem match_len (b : Bi) (rs : List Ro) (k : Nat) : (matchL b (rs.take k)).length ≤ (matchL b rs).length := by
  have e : matchL b rs = matchL b (rs.take k) ++ matchL b (rs.drop k) := by
    unfold matchL
    rw [← List.flatMap_append, List.take_append_drop]
  rw [e, List.length_append]
  omega
def gotL (b : Bi) (rs : List Ro) (n : Bs) (gs : List Bs) (sp : Bs) : List Rl := if countsB b n gs sp then matchL b rs else []
theorem got_held {rs : List Ro} {b : Bi} {n : Bs} {gs : List Bs} {sp : Bs} (h : firstA roleI [] rs = 0) : gotL b rs n gs sp = heldOf rs n gs sp b := by
  unfold gotL heldOf
  rw [match_role h]
theorem any_take {gs bg : List Bs} {k : Nat} (hk : k < gs.length) : anyB (gs.take (k + 1)) bg = (anyB (gs.take k) bg || decide (gs[k] ∈ bg)) := by
  unfold anyB
  rw [List.take_succ_eq_append_getElem hk, List.any_append]
  simp
theorem own_ne {w : World} {B : Nat} {v : Value} {n b : Nat} {xs : List Value} {cs : Array Value} (h : w.ownsRow B 42 3 v n xs) (hb : w.heap[b]? = some (.cells cs 49 (0, 0))) : v.ownBlock ≠ some b := by
  intro e
  rcases h.2 with ⟨rfl, _⟩ | ⟨g, cap, cur, rfl, _, hg, _⟩
  · cases e
  · have e' : g = b := Option.some.inj e
    subst e'
    rw [hb] at hg
    injection hg with hg
    injection hg with _ hg _
    exact absurd hg (by decide)
theorem got_take {b : Bi} {rs : List Ro} {n : Bs} {gs : List Bs} {sp : Bs} {k : Nat} (hk : k < rs.length) (cv : Bool) (h : (countsB b n gs sp && isRole b rs[k]) = cv) :
    (if countsB b n gs sp then matchL b (rs.take (k + 1)) else []) = (if countsB b n gs sp then matchL b (rs.take k) else []) ++ (if cv then rs[k].2.2 else []) := by
  rw [← h]
  cases hc : countsB b n gs sp with
  | false => rfl
  | true =>
    simp only [if_true, Bool.true_and]
    exact match_take hk
set_option maxRecDepth 100000 in
set_option maxHeartbeats 16000000 in
theorem heldR_any (u v x : Value) (rs : List Ro) (bs : List Bi) (n : Bs) (gs : List Bs) (sp : Bs) (w : World) (hg : Grs w u v rs bs) (hx : Strs w x gs) (hgr : grI rs bs = 0) :
    Calls Try.prog 37 #[.agg #[u, v], .agg #[.string (Ba n), x], .string (Ba sp)] w fun e w' => ∃ (y : Value) (L : List RV), e = .returned y ∧ L.map (·.1) = heldP rs bs n gs sp ∧ w'.ownsRow w.heap.size 42 3 y L.length (flatG L) ∧ StG w L ∧ L.length ≤ 96 ∧ Below w.heap.size w w' := by
  obtain ⟨i0, hi, hz0, hz1, hz2⟩ := info_parts info_rule
  obtain ⟨hb12, _, h8⟩ := gr_ok hgr
  have hap : firstA roleI [] rs = 0 := (orE_zero.1 (orE_zero.1 hgr).2).1
  obtain ⟨hu, hv, hfo, hfb⟩ := hg
  obtain ⟨p, c, rfl, hn, hcell⟩ := Sq.open roAt_stays hu
  obtain ⟨p2, c2, rfl, hn2, hcell2⟩ := bis_open hv
  obtain ⟨px, cx, rfl, hnx, hcellx⟩ := hx.open
  have HC : Hid (∀ k (hk : k < rs.length), ∃ g o p3 c3, p = some ⟨g, o, none⟩ ∧ rs.length ≤ c ∧ Rls w (.slice p3 rs[k].2.2.length c3) rs[k].2.2 ∧ ∀ w1, Below w.heap.size w w1 →
      w1.cell? ⟨g, o + k * 3, none⟩ = some (.string (Ba rs[k].1)) ∧ w1.cell? ⟨g, o + k * 3 + 1, none⟩ = some (.string (Ba rs[k].2.1)) ∧ w1.cell? ⟨g, o + k * 3 + 2, none⟩ = some (.slice p3 rs[k].2.2.length c3)) := fun k hk => by
    obtain ⟨g, o, h1, h2, h3, h4⟩ := hcell k hk
    obtain ⟨k1, k2, d, k3, s3⟩ := h4 w (Below.refl _ _)
    obtain ⟨p3, c3, rfl, _⟩ := Sq.form s3
    exact ⟨g, o, p3, c3, h1, h2, s3, fun w1 hb => ⟨cell_stays k1 hb, cell_stays k2 hb, cell_stays k3 hb⟩⟩
  have HC2 : Hid (∀ k (hk : k < bs.length), ∃ g o p4 n4 c4 p5 n5 c5, p2 = some ⟨g, o, none⟩ ∧ bs.length ≤ c2 ∧ (∀ w1, Below w.heap.size w w1 →
      w1.cell? ⟨g, o + k * 6, none⟩ = some (.string (Ba bs[k].1)) ∧ w1.cell? ⟨g, o + k * 6 + 1, none⟩ = some (.string (Ba bs[k].2.1)) ∧ w1.cell? ⟨g, o + k * 6 + 2, none⟩ = some (.string (Ba bs[k].2.2.1)) ∧ w1.cell? ⟨g, o + k * 6 + 3, none⟩ = some (.bool bs[k].2.2.2.1) ∧
      w1.cell? ⟨g, o + k * 6 + 4, none⟩ = some (.slice p4 n4 c4) ∧ w1.cell? ⟨g, o + k * 6 + 5, none⟩ = some (.slice p5 n5 c5)) ∧
      (∀ w2, Below w.heap.size w w2 → Calls Try.prog 41 #[.slice p4 n4 c4, .string (Ba n)] w2 fun e w' => e = .returned (.bool (decide (n ∈ bs[k].2.2.2.2.1))) ∧ w' = w2) ∧
      (∀ w2, Below w.heap.size w w2 → ∀ s, Calls Try.prog 41 #[.slice p5 n5 c5, .string (Ba s)] w2 fun e w' => e = .returned (.bool (decide (s ∈ bs[k].2.2.2.2.2))) ∧ w' = w2)) := fun k hk => by
    obtain ⟨g, o, h1, h2, h3, h4⟩ := hcell2 k hk
    obtain ⟨p4, c4, p5, c5, k1, k2, k3, k4, k5, k6, k7, k8⟩ := h4 w (Below.refl _ _)
    exact ⟨g, o, p4, _, c4, p5, _, c5, h1, h2, fun w1 hb => ⟨cell_stays k1 hb, cell_stays k2 hb, cell_stays k3 hb, cell_stays k4 hb, cell_stays k5 hb, cell_stays k6 hb⟩, fun w2 hb2 => hasL_any _ _ n w2 (k7.below hb2), fun w2 hb2 s => hasL_any _ _ s w2 (k8.below hb2)⟩
  have HCx : Hid (∀ k (hk : k < gs.length), ∃ g o, px = some ⟨g, o, none⟩ ∧ gs.length ≤ cx ∧ ∀ w1, Below w.heap.size w w1 → w1.cell? ⟨g, o + k, none⟩ = some (.string (Ba gs[k]))) := hcellx
  have HGot : Hid (∀ k (hk : k < bs.length), heldP rs (bs.take (k + 1)) n gs sp = heldP rs (bs.take k) n gs sp ++ gotL bs[k] rs n gs sp ∧ (matchL bs[k] rs).length ≤ 8) := fun k hk => ⟨by rw [held_step hk, got_held hap], by rw [match_role hap]; exact roleOf_len h8⟩
  have HEnd : Hid (∀ k, bs.length ≤ k → heldP rs (bs.take k) n gs sp = heldP rs bs n gs sp) := fun k hk => held_all hk
  have HBx : Hid (∀ w1, Below ((w.alloc (.cells #[.slice p rs.length c, .slice p2 bs.length c2] 25)).alloc (.cells #[.string (Ba n), .slice px gs.length cx] 34)).heap.size ((w.alloc (.cells #[.slice p rs.length c, .slice p2 bs.length c2] 25)).alloc (.cells #[.string (Ba n), .slice px gs.length cx] 34)) w1 →
      w1.cell? ⟨w.heap.size, 0, none⟩ = some (.slice p rs.length c) ∧ w1.cell? ⟨w.heap.size, 1, none⟩ = some (.slice p2 bs.length c2) ∧ w1.cell? ⟨w.heap.size + 1, 0, none⟩ = some (.string (Ba n)) ∧ w1.cell? ⟨w.heap.size + 1, 1, none⟩ = some (.slice px gs.length cx)) := fun w1 h => bxs2 h
  obtain ⟨w0, hw0⟩ : ∃ w0, w0 = (w.alloc (.cells #[.slice p rs.length c, .slice p2 bs.length c2] 25)).alloc (.cells #[.string (Ba n), .slice px gs.length cx] 34) := ⟨_, rfl⟩
  have hB0 : Below w.heap.size w w0 := by rw [hw0]; exact ((Below.refl _ _).alloc (Nat.le_refl _) _).alloc (by simp) _
  have HB0 : Hid (Below w.heap.size w w0) := hB0
  rw [← hw0] at HBx
  have HW0 : Hid (w0 = (w.alloc (.cells #[.slice p rs.length c, .slice p2 bs.length c2] 25)).alloc (.cells #[.string (Ba n), .slice px gs.length cx] 34)) := hw0
  have HSz : Hid (w.heap.size ≤ w0.heap.size) := hB0.size
  have HQ : Hid (∀ s t, ((Ba s).toList == (Ba t).toList) = decide (s = t)) := fun s t => ba_beq s t
  have HQe : Hid (∀ s, ((Ba s).toList == []) = decide (s = [])) := fun s => ba_is s []
  clear hcell hcell2 hcellx hu hv hx hw0 hB0 hfo hfb h8 hap hgr
  unfold maxLen at hn hn2 hnx
  go_enter Try.func37, Try.ntmps37
  go_wp2_with fail
  rw [← HW0.out]
  go_loopw [7, 19] (fun sv i wr => ∃ (k : Nat) (L : List RV), k ≤ bs.length ∧ i = .int .i64 k ∧ L.map (·.1) = heldP rs (bs.take k) n gs sp ∧ wr.ownsRow w0.heap.size 42 3 sv L.length (flatG L) ∧ StG w L ∧ L.length ≤ 8 * k ∧ Below w0.heap.size w0 wr) (fun _ i _ => bs.length - (intOf i).toNat)
  case atStart => exact ⟨0, [], Nat.zero_le _, rfl, rfl, World.ownsRow_nil _ _ _ _, fun p hp => by simp at hp, Nat.zero_le _, Below.refl _ _⟩
  case round =>
    obtain ⟨k, L, hk, rfl, hmap, hown, hst, hlen, hbel⟩ := hrel
    obtain ⟨wO, hwO⟩ : ∃ x : World, x = wr := ⟨wr, rfl⟩
    subst hwO
    obtain ⟨sv, hsv⟩ : ∃ x : Value, x = u7 := ⟨u7, rfl⟩
    subst hsv
    have HM : Hid (L.map (·.1) = heldP rs (bs.take k) n gs sp) := hmap
    have HO : Hid (wO.ownsRow w0.heap.size 42 3 sv L.length (flatG L)) := hown
    have HSt : Hid (StG w L) := hst
    have HB : Hid (Below w0.heap.size w0 wO) := hbel
    have HBw : Hid (Below w.heap.size w wO) := HB0.out.trans (hbel.mono HB0.out.size)
    clear hmap hown hst hbel
    by_cases hlt : k < bs.length
    · obtain ⟨g, o, p4, n4, c4, p5, n5, c5, rfl, hlc, hc0, hcA, hcB⟩ := HC2.out k hlt
      obtain ⟨e1, e2, e3, e4, e5, e6⟩ := hc0 wO HBw.out
      have HGk : Hid (_) := HGot.out k hlt
      have hcnt : countsB bs[k] n gs sp = ((decide (n ∈ bs[k].2.2.2.2.1) || anyB gs bs[k].2.2.2.2.2) && (decide (bs[k].1 = sp) || decide (bs[k].1 = []))) := rfl
      have hspo : spOf bs[k] = if bs[k].2.2.2.1 then [] else bs[k].1 := rfl
      generalize hbk : bs[k] = bk at *
      obtain ⟨bsp, bnm, bro, bwh, bus, bgs⟩ := bk
      dsimp only at *
      have HHa : Hid (_) := hcA
      have HHb : Hid (_) := hcB
      have HBb : Hid (∀ w1, Below (wO.alloc (.cells #[.string (Ba bsp), .string (Ba bnm), .string (Ba bro), .bool bwh, .slice p4 n4 c4, .slice p5 n5 c5] 49)).heap.size (wO.alloc (.cells #[.string (Ba bsp), .string (Ba bnm), .string (Ba bro), .bool bwh, .slice p4 n4 c4, .slice p5 n5 c5] 49)) w1 → w1.cell? ⟨wO.heap.size, 0, none⟩ = some (.string (Ba bsp)) ∧ w1.cell? ⟨wO.heap.size, 1, none⟩ = some (.string (Ba bnm)) ∧ w1.cell? ⟨wO.heap.size, 2, none⟩ = some (.string (Ba bro)) ∧ w1.cell? ⟨wO.heap.size, 3, none⟩ = some (.bool bwh) ∧ w1.cell? ⟨wO.heap.size, 4, none⟩ = some (.slice p4 n4 c4) ∧ w1.cell? ⟨wO.heap.size, 5, none⟩ = some (.slice p5 n5 c5)) := fun w1 h => bx6 h
      obtain ⟨wn, hwn⟩ : ∃ wn, wn = wO.alloc (.cells #[.string (Ba bsp), .string (Ba bnm), .string (Ba bro), .bool bwh, .slice p4 n4 c4, .slice p5 n5 c5] 49) := ⟨_, rfl⟩
      have hBn : Below wO.heap.size wO wn := by rw [hwn]; exact (Below.refl _ _).alloc (Nat.le_refl _) _
      have HBn : Hid (Below wO.heap.size wO wn) := hBn
      have HWn : Hid (wn = wO.alloc (.cells #[.string (Ba bsp), .string (Ba bnm), .string (Ba bro), .bool bwh, .slice p4 n4 c4, .slice p5 n5 c5] 49)) := hwn
      have HBm : Hid (Below w0.heap.size w0 wn) := HB.out.trans (hBn.mono HB.out.size)
      have HBmw : Hid (Below w.heap.size w wn) := HB0.out.trans (HBm.out.mono HB0.out.size)
      have HOn : Hid (wn.ownsRow w0.heap.size 42 3 sv L.length (flatG L)) := own_belowG HO.out hBn
      have HOlt : Hid (∀ b, sv.ownBlock = some b → b < wO.heap.size) := fun b hb => (World.ownsRow.lt HO.out b hb).2
      rw [← hwn] at HBb
      obtain ⟨z0, z1, z2, z3⟩ := hwn ▸ HBx.out wn HBm.out
      have HCnt : Hid (_) := hcnt
      have HSpo : Hid (_) := hspo
      clear hc0 hcA hcB hBn hwn hcnt hspo
      generalize hd1 : decide (n ∈ bus) = d1 at *
      clear hd1
      go_wp2_with fail
      rw [← HWn.out]
      refine Calls.mono (HHa.out _ HBmw.out) ?_
      rintro e w2 ⟨rfl, hw2⟩
      obtain rfl : wn = w2 := hw2.symm
      clear z0 z1 z2 z3 e1 e2 e3 e4 e5 e6
      obtain ⟨z0, z1, z2, z3⟩ := HBx.out wn HBm.out
      obtain ⟨f0, f1, f2, f3, f4, f5⟩ := HBb.out wn (Below.refl _ _)
      go_wp2_with fail
      go_loop [10, 31] (fun isv i => ∃ j : Nat, j ≤ gs.length ∧ i = .int .i64 j ∧ isv = .bool (d1 || anyB (gs.take j) bgs)) (fun _ i => gs.length - (intOf i).toNat)
      case atStart => exact ⟨0, Nat.zero_le _, rfl, by simp [anyB]⟩
      case round =>
        obtain ⟨j, hj, rfl, rfl⟩ := hrel
        by_cases hjl : j < gs.length
        · obtain ⟨g2, o2, rfl, hlc2, hc2⟩ := HCx.out j hjl
          have hc := hc2 wn HBmw.out
          have HCh : Hid (_) := HHb.out wn HBmw.out gs[j]
          have HT : Hid (_) := any_take (bg := bgs) hjl
          clear hc2
          generalize decide (gs[j] ∈ bgs) = d at *
          generalize Ba gs[j] = z at *
          generalize anyB (gs.take j) bgs = aj at *
          generalize hib : (d1 || aj) = ib at *
          have HIb : Hid ((d1 || aj) = ib) := hib
          clear hib
          cases ib with
          | true =>
            go_wp2_with fail
            go_round
            case rel => exact ⟨j + 1, by omega, by go_num, by rw [HT.out, ← Bool.or_assoc, HIb.out]; rfl⟩
            case measure => simp [intOf]; omega
          | false =>
            go_wp2_with fail
            refine Calls.mono HCh.out ?_
            rintro e w2 ⟨rfl, hw2⟩
            obtain rfl : wn = w2 := hw2.symm
            go_wp2_with fail
            go_round
            case rel => exact ⟨j + 1, by omega, by go_num, by rw [HT.out, ← Bool.or_assoc, HIb.out]; rfl⟩
            case measure => simp [intOf]; omega
        · have hje : j = gs.length := by omega
          rw [hje, List.take_of_length_le (Nat.le_refl _)]
          clear hje hjl hj
          generalize hcb : (d1 || anyB gs bgs) = cb at *
          have HCn2 : Hid (countsB (bsp, bnm, bro, bwh, bus, bgs) n gs sp = (cb && (decide (bsp = sp) || decide (bsp = [])))) := by
            show _ = _
            rw [HCnt.out]
          clear hcb HCnt
          have HBk0 : Hid (wn.heap[wO.heap.size]? = some (.cells #[.string (Ba bsp), .string (Ba bnm), .string (Ba bro), .bool bwh, .slice p4 n4 c4, .slice p5 n5 c5] 49 (0, 0))) := by show _ = _; rw [HWn.out]; exact heap_alloc_new _ _
          have HStart : Hid (wn.ownsRow w0.heap.size 42 3 sv (L ++ []).length (flatG (L ++ []))) := by rw [List.append_nil]; exact HOn.out
          go_wp2_with fail
          clear z0 z1 z2 z3 f0 f1 f2 f3 f4 f5
          go_loopw [7, 46] (fun tv i wr => ∃ (j : Nat) (M : List RV), j ≤ rs.length ∧ i = .int .i64 j ∧ M.map (·.1) = (if countsB (bsp, bnm, bro, bwh, bus, bgs) n gs sp then matchL (bsp, bnm, bro, bwh, bus, bgs) (rs.take j) else []) ∧ wr.ownsRow w0.heap.size 42 3 tv (L ++ M).length (flatG (L ++ M)) ∧ StG w M ∧ Below w0.heap.size w0 wr ∧ wr.heap[wO.heap.size]? = some (.cells #[.string (Ba bsp), .string (Ba bnm), .string (Ba bro), .bool bwh, .slice p4 n4 c4, .slice p5 n5 c5] 49 (0, 0))) (fun _ i _ => rs.length - (intOf i).toNat)
          case atStart => exact ⟨0, [], Nat.zero_le _, rfl, by simp [matchL], HStart.out, fun p hp => by simp at hp, HBm.out, HBk0.out⟩
          case round =>
            obtain ⟨j, M, hj, rfl, hmap, hown, hst, hbel, hbk⟩ := hrel
            have HMm : Hid (M.map (·.1) = (if countsB (bsp, bnm, bro, bwh, bus, bgs) n gs sp then matchL (bsp, bnm, bro, bwh, bus, bgs) (rs.take j) else [])) := hmap
            have HMo : Hid (wr.ownsRow w0.heap.size 42 3 u7 (L ++ M).length (flatG (L ++ M))) := hown
            have HMs : Hid (StG w M) := hst
            have HMb : Hid (Below w0.heap.size w0 wr) := hbel
            have HMw : Hid (Below w.heap.size w wr) := HB0.out.trans (hbel.mono HB0.out.size)
            have HMk : Hid (wr.heap[wO.heap.size]? = some (.cells #[.string (Ba bsp), .string (Ba bnm), .string (Ba bro), .bool bwh, .slice p4 n4 c4, .slice p5 n5 c5] 49 (0, 0))) := hbk
            have HMl : Hid ((if countsB (bsp, bnm, bro, bwh, bus, bgs) n gs sp then matchL (bsp, bnm, bro, bwh, bus, bgs) (rs.take j) else []).length ≤ 8) := by
              show _ ≤ _
              have h1 := match_len (bsp, bnm, bro, bwh, bus, bgs) rs j
              have h2 := HGk.out.2
              split
              · omega
              · simp
            clear hmap hown hst hbel hbk HStart
            by_cases hjl : j < rs.length
            · obtain ⟨g3, o3, p3, c3, rfl, hlc3, hrl, hc3⟩ := HC.out j hjl
              obtain ⟨i1, i2, i3⟩ := hc3 wr HMw.out
              have hgt := fun cv h => got_take (b := (bsp, bnm, bro, bwh, bus, bgs)) (rs := rs) (n := n) (gs := gs) (sp := sp) hjl cv h
              have hml1 := match_len (bsp, bnm, bro, bwh, bus, bgs) rs (j + 1)
              have hir : isRole (bsp, bnm, bro, bwh, bus, bgs) rs[j] = (decide (rs[j].1 = spOf (bsp, bnm, bro, bwh, bus, bgs)) && decide (rs[j].2.1 = bro)) := rfl
              have r0 := HQ.out rs[j].1 bsp
              have r3 := HQe.out rs[j].1
              have r2 := HQ.out rs[j].2.1 bro
              have r4 := HQe.out bsp
              have r5 := HQ.out bsp sp
              rw [HSpo.out] at hir
              have HRl : Hid (_) := hrl
              have HGt : Hid (_) := hgt
              have HMl1 : Hid (_) := hml1
              clear hc3 hrl hgt hml1
              generalize hrj : rs[j] = rj at *
              obtain ⟨t1, t2, rl⟩ := rj
              dsimp only at *
              have HIr : Hid (_) := hir
              clear hir hrj
              have q0 : wr.cell? ⟨wO.heap.size, 0, none⟩ = some (.string (Ba bsp)) := by rw [cell_of_row _ _ _ _ _ _ HMk.out]; rfl
              have q2 : wr.cell? ⟨wO.heap.size, 2, none⟩ = some (.string (Ba bro)) := by rw [cell_of_row _ _ _ _ _ _ HMk.out]; rfl
              have q3 : wr.cell? ⟨wO.heap.size, 3, none⟩ = some (.bool bwh) := by rw [cell_of_row _ _ _ _ _ _ HMk.out]; rfl
              obtain ⟨wm, hwm⟩ : ∃ wm, wm = wr.alloc (.cells #[.string (Ba t1), .string (Ba t2), .slice p3 rl.length c3] 47) := ⟨_, rfl⟩
              have hBq : Below wr.heap.size wr wm := by rw [hwm]; exact (Below.refl _ _).alloc (Nat.le_refl _) _
              have HBq : Hid (Below wr.heap.size wr wm) := hBq
              have HWm : Hid (wm = wr.alloc (.cells #[.string (Ba t1), .string (Ba t2), .slice p3 rl.length c3] 47)) := hwm
              have hOlt : wO.heap.size < wr.heap.size := lt_of_block HMk.out
              have HMk2 : Hid (wm.heap[wO.heap.size]? = some (.cells #[.string (Ba bsp), .string (Ba bnm), .string (Ba bro), .bool bwh, .slice p4 n4 c4, .slice p5 n5 c5] 49 (0, 0))) := (hBq.block _ hOlt).trans HMk.out
              have HMb2 : Hid (Below w0.heap.size w0 wm) := HMb.out.trans (hBq.mono HMb.out.size)
              have HMw2 : Hid (Below w.heap.size w wm) := HB0.out.trans (HMb2.out.mono HB0.out.size)
              have HMo2 : Hid (wm.ownsRow w0.heap.size 42 3 u7 (L ++ M).length (flatG (L ++ M))) := own_belowG HMo.out hBq
              have HQ0 : Hid (wm.cell? ⟨wO.heap.size, 0, none⟩ = some (.string (Ba bsp)) ∧ wm.cell? ⟨wO.heap.size, 2, none⟩ = some (.string (Ba bro)) ∧ wm.cell? ⟨wO.heap.size, 3, none⟩ = some (.bool bwh)) := by
                refine ⟨?_, ?_, ?_⟩
                all_goals (rw [cell_of_row _ _ _ _ _ _ HMk2.out]; rfl)
              obtain ⟨s0, s2, s3⟩ := hwm ▸ HQ0.out
              clear hwm hBq hOlt HWn HBk0
              have HLen : Hid (L.length ≤ 88) := by show _ ≤ _; omega
              generalize hds : decide (bsp = sp) = ds at *
              generalize hde : decide (bsp = []) = de at *
              generalize hd2 : decide (t2 = bro) = d2 at *
              clear hds hde hd2
              cases bwh with
              | true =>
                have HIr2 : Hid (isRole (bsp, bnm, bro, true, bus, bgs) (t1, t2, rl) = (decide (t1 = []) && d2)) := HIr.out
                clear HIr
                have HIr := HIr2
                clear HIr2
                generalize hd1 : decide (t1 = []) = e1 at *
                generalize hdx : decide (t1 = bsp) = dx at *
                clear hd1 hdx
                cases cb with
                | false =>
                  have HCv : Hid ((if countsB (bsp, bnm, bro, true, bus, bgs) n gs sp then matchL (bsp, bnm, bro, true, bus, bgs) (rs.take (j + 1)) else []) = (if countsB (bsp, bnm, bro, true, bus, bgs) n gs sp then matchL (bsp, bnm, bro, true, bus, bgs) (rs.take j) else [])) := by
                    show _ = _
                    rw [HGt.out false (by rw [HCn2.out, HIr.out]; simp)]
                    exact List.append_nil _
                  clear HGt HCn2 HIr
                  generalize Ba t1 = yt1 at *
                  generalize Ba t2 = yt2 at *
                  generalize Ba bsp = yb at *
                  generalize Ba bro = yro at *
                  generalize Ba sp = ysp at *
                  go_wp2_with fail
                  go_roundw
                  case rel => exact ⟨j + 1, M, by omega, by go_num, by rw [HCv.out]; exact HMm.out, by rw [← HWm.out]; exact HMo2.out, HMs.out, by rw [← HWm.out]; exact HMb2.out, by rw [← HWm.out]; exact HMk2.out⟩
                  case measure => simp [intOf]; omega
                | true =>
                  cases e1 with
                  | false =>
                    have HCv : Hid ((if countsB (bsp, bnm, bro, true, bus, bgs) n gs sp then matchL (bsp, bnm, bro, true, bus, bgs) (rs.take (j + 1)) else []) = (if countsB (bsp, bnm, bro, true, bus, bgs) n gs sp then matchL (bsp, bnm, bro, true, bus, bgs) (rs.take j) else [])) := by
                      show _ = _
                      rw [HGt.out false (by rw [HCn2.out, HIr.out]; simp)]
                      exact List.append_nil _
                    clear HGt HCn2 HIr
                    generalize Ba t1 = yt1 at *
                    generalize Ba t2 = yt2 at *
                    generalize Ba bsp = yb at *
                    generalize Ba bro = yro at *
                    generalize Ba sp = ysp at *
                    go_wp2_with fail
                    go_roundw
                    case rel => exact ⟨j + 1, M, by omega, by go_num, by rw [HCv.out]; exact HMm.out, by rw [← HWm.out]; exact HMo2.out, HMs.out, by rw [← HWm.out]; exact HMb2.out, by rw [← HWm.out]; exact HMk2.out⟩
                    case measure => simp [intOf]; omega
                  | true =>
                    cases d2 with
                    | false =>
                      have HCv : Hid ((if countsB (bsp, bnm, bro, true, bus, bgs) n gs sp then matchL (bsp, bnm, bro, true, bus, bgs) (rs.take (j + 1)) else []) = (if countsB (bsp, bnm, bro, true, bus, bgs) n gs sp then matchL (bsp, bnm, bro, true, bus, bgs) (rs.take j) else [])) := by
                        show _ = _
                        rw [HGt.out false (by rw [HCn2.out, HIr.out]; simp)]
                        exact List.append_nil _
                      clear HGt HCn2 HIr
                      generalize Ba t1 = yt1 at *
                      generalize Ba t2 = yt2 at *
                      generalize Ba bsp = yb at *
                      generalize Ba bro = yro at *
                      generalize Ba sp = ysp at *
                      go_wp2_with fail
                      go_roundw
                      case rel => exact ⟨j + 1, M, by omega, by go_num, by rw [HCv.out]; exact HMm.out, by rw [← HWm.out]; exact HMo2.out, HMs.out, by rw [← HWm.out]; exact HMb2.out, by rw [← HWm.out]; exact HMk2.out⟩
                      case measure => simp [intOf]; omega
                    | true =>
                      cases de with
                      | true =>
                        have HCv : Hid ((if countsB (bsp, bnm, bro, true, bus, bgs) n gs sp then matchL (bsp, bnm, bro, true, bus, bgs) (rs.take (j + 1)) else []) = (if countsB (bsp, bnm, bro, true, bus, bgs) n gs sp then matchL (bsp, bnm, bro, true, bus, bgs) (rs.take j) else []) ++ rl) := by
                          show _ = _
                          rw [HGt.out true (by rw [HCn2.out, HIr.out]; simp)]
                          rfl
                        have HLn1 : Hid ((if countsB (bsp, bnm, bro, true, bus, bgs) n gs sp then matchL (bsp, bnm, bro, true, bus, bgs) (rs.take (j + 1)) else []).length ≤ 8) := by
                          show _ ≤ _
                          have h1 := HMl1.out
                          have h2 := HGk.out.2
                          split
                          · omega
                          · simp
                        clear HGt HCn2 HIr
                        obtain ⟨_, hcase⟩ := rls_vals HRl.out
                        generalize Ba t1 = yt1 at *
                        generalize Ba t2 = yt2 at *
                        generalize Ba bsp = yb at *
                        generalize Ba bro = yro at *
                        generalize Ba sp = ysp at *
                        rcases hcase with ⟨rfl, rfl, hrn⟩ | ⟨ad, rfl, M2, hM1, hM2, hM3⟩
                        · subst hrn
                          have HCv2 : Hid (M.map (·.1) = (if countsB (bsp, bnm, bro, true, bus, bgs) n gs sp then matchL (bsp, bnm, bro, true, bus, bgs) (rs.take (j + 1)) else [])) := by show _ = _; rw [HCv.out, List.append_nil]; exact HMm.out
                          clear HCv HLn1
                          dsimp only [List.length_nil] at *
                          go_wp2_with (at_builtin; (try rw [← HWm.out]); refine wpList_append_own_none rfl _ _ 35 rfl w0.heap.size 42 i0 3 Try.underlying35 hi _ _ _ rfl HMo2.out rfl ?_)
                          go_wp2_with fail
                          go_roundw
                          case rel => exact ⟨j + 1, M, by omega, by go_num, HCv2.out, HMo2.out, HMs.out, HMb2.out, HMk2.out⟩
                          case measure => simp [intOf]; omega
                        · have hlM : M2.length = rl.length := by rw [← hM1, List.length_map]
                          have HCv2 : Hid ((M ++ M2).map (·.1) = (if countsB (bsp, bnm, bro, true, bus, bgs) n gs sp then matchL (bsp, bnm, bro, true, bus, bgs) (rs.take (j + 1)) else [])) := by
                            show _ = _
                            rw [HCv.out, List.map_append, hM1, HMm.out]
                          have HLn2 : Hid (M.length + M2.length ≤ 8) := by
                            have := HLn1.out
                            rw [← HCv2.out, List.length_map, List.length_append] at this
                            exact this
                          have HSt2 : Hid (StG w (M ++ M2)) := HMs.out.append hM2
                          have HM3 : Hid (∀ j u, (flatG M2)[j]? = some u → wm.cell? (ad.add j) = some u) := fun j u h => cell_stays (hM3 j u h) HMw2.out
                          have HM4 : Hid (∀ u ∈ flatG M2, u.oneCell' = true) := flatG_one hM2
                          have HM5 : Hid ((flatG M2).length = M2.length * 3) := flatG_len M2
                          have HFa : Hid (flatG (L ++ (M ++ M2)) = flatG (L ++ M) ++ flatG M2) := by show _ = _; rw [← List.append_assoc, flatG_append]
                          have HLe : Hid ((L ++ (M ++ M2)).length = (L ++ M).length + M2.length) := by show _ = _; simp only [List.length_append]; omega
                          have HB2s : Hid (w0.heap.size ≤ wm.heap.size) := HMb2.out.size
                          have HLM : Hid ((L ++ M).length + M2.length ≤ 96) := by show _ ≤ _; have := HLen.out; have := HLn2.out; simp only [List.length_append]; omega
                          clear hM1 hM2 hM3 HCv HLn1
                          generalize rl.length = lr2 at *
                          subst hlM
                          generalize hLM : (L ++ M).length = lm at *
                          generalize hM2l : M2.length = m2 at *
                          have hb96 : lm + m2 ≤ 96 := HLM.out
                          go_wp2_with (at_builtin; (try rw [← HWm.out]); refine wpList_append_own _ rfl _ _ 35 rfl w0.heap.size 42 i0 (.agg #[.slice none 0 0, .slice none 0 0, .slice none 0 0]) 3 72 Try.underlying35 hi hz0 hz1 hz2 rfl (by decide) _ _ _ rfl HMo2.out ad m2 c3 (flatG M2) rfl HM5.out HM3.out HM4.out (by unfold maxLen; omega) (by omega) HB2s.out ?_)
                          intro v' w3 hown' hgrow _
                          have HO3 : Hid (w3.ownsRow w0.heap.size 42 3 v' (L ++ (M ++ M2)).length (flatG (L ++ (M ++ M2)))) := by
                            show w3.ownsRow _ _ _ _ _ _
                            rw [HFa.out, HLe.out]
                            exact hown'
                          have HB3 : Hid (Below w0.heap.size w0 w3) := HMb2.out.grown hgrow HB2s.out (fun b hb => (World.ownsRow.lt HMo2.out b hb).1)
                          have HK3 : Hid (w3.heap[wO.heap.size]? = some (.cells #[.string yb, .string (Ba bnm), .string yro, .bool true, .slice p4 n4 c4, .slice p5 n5 c5] 49 (0, 0))) := (hgrow.block _ (lt_of_block HMk2.out) (fun e => own_ne HMo2.out HMk2.out e.symm)).trans HMk2.out
                          clear hown' hgrow
                          go_wp2_with fail
                          go_roundw
                          case rel => exact ⟨j + 1, M ++ M2, by omega, by go_num, HCv2.out, HO3.out, HSt2.out, HB3.out, HK3.out⟩
                          case measure => simp [intOf]; omega
                      | false =>
                        cases ds with
                        | true =>
                          have HCv : Hid ((if countsB (bsp, bnm, bro, true, bus, bgs) n gs sp then matchL (bsp, bnm, bro, true, bus, bgs) (rs.take (j + 1)) else []) = (if countsB (bsp, bnm, bro, true, bus, bgs) n gs sp then matchL (bsp, bnm, bro, true, bus, bgs) (rs.take j) else []) ++ rl) := by
                            show _ = _
                            rw [HGt.out true (by rw [HCn2.out, HIr.out]; simp)]
                            rfl
                          have HLn1 : Hid ((if countsB (bsp, bnm, bro, true, bus, bgs) n gs sp then matchL (bsp, bnm, bro, true, bus, bgs) (rs.take (j + 1)) else []).length ≤ 8) := by
                            show _ ≤ _
                            have h1 := HMl1.out
                            have h2 := HGk.out.2
                            split
                            · omega
                            · simp
                          clear HGt HCn2 HIr
                          obtain ⟨_, hcase⟩ := rls_vals HRl.out
                          generalize Ba t1 = yt1 at *
                          generalize Ba t2 = yt2 at *
                          generalize Ba bsp = yb at *
                          generalize Ba bro = yro at *
                          generalize Ba sp = ysp at *
                          rcases hcase with ⟨rfl, rfl, hrn⟩ | ⟨ad, rfl, M2, hM1, hM2, hM3⟩
                          · subst hrn
                            have HCv2 : Hid (M.map (·.1) = (if countsB (bsp, bnm, bro, true, bus, bgs) n gs sp then matchL (bsp, bnm, bro, true, bus, bgs) (rs.take (j + 1)) else [])) := by show _ = _; rw [HCv.out, List.append_nil]; exact HMm.out
                            clear HCv HLn1
                            dsimp only [List.length_nil] at *
                            go_wp2_with (at_builtin; (try rw [← HWm.out]); refine wpList_append_own_none rfl _ _ 35 rfl w0.heap.size 42 i0 3 Try.underlying35 hi _ _ _ rfl HMo2.out rfl ?_)
                            go_wp2_with fail
                            go_roundw
                            case rel => exact ⟨j + 1, M, by omega, by go_num, HCv2.out, HMo2.out, HMs.out, HMb2.out, HMk2.out⟩
                            case measure => simp [intOf]; omega
                          · have hlM : M2.length = rl.length := by rw [← hM1, List.length_map]
                            have HCv2 : Hid ((M ++ M2).map (·.1) = (if countsB (bsp, bnm, bro, true, bus, bgs) n gs sp then matchL (bsp, bnm, bro, true, bus, bgs) (rs.take (j + 1)) else [])) := by
                              show _ = _
                              rw [HCv.out, List.map_append, hM1, HMm.out]
                            have HLn2 : Hid (M.length + M2.length ≤ 8) := by
                              have := HLn1.out
                              rw [← HCv2.out, List.length_map, List.length_append] at this
                              exact this
                            have HSt2 : Hid (StG w (M ++ M2)) := HMs.out.append hM2
                            have HM3 : Hid (∀ j u, (flatG M2)[j]? = some u → wm.cell? (ad.add j) = some u) := fun j u h => cell_stays (hM3 j u h) HMw2.out
                            have HM4 : Hid (∀ u ∈ flatG M2, u.oneCell' = true) := flatG_one hM2
                            have HM5 : Hid ((flatG M2).length = M2.length * 3) := flatG_len M2
                            have HFa : Hid (flatG (L ++ (M ++ M2)) = flatG (L ++ M) ++ flatG M2) := by show _ = _; rw [← List.append_assoc, flatG_append]
                            have HLe : Hid ((L ++ (M ++ M2)).length = (L ++ M).length + M2.length) := by show _ = _; simp only [List.length_append]; omega
                            have HB2s : Hid (w0.heap.size ≤ wm.heap.size) := HMb2.out.size
                            have HLM : Hid ((L ++ M).length + M2.length ≤ 96) := by show _ ≤ _; have := HLen.out; have := HLn2.out; simp only [List.length_append]; omega
                            clear hM1 hM2 hM3 HCv HLn1
                            generalize rl.length = lr2 at *
                            subst hlM
                            generalize hLM : (L ++ M).length = lm at *
                            generalize hM2l : M2.length = m2 at *
                            have hb96 : lm + m2 ≤ 96 := HLM.out
                            go_wp2_with (at_builtin; (try rw [← HWm.out]); refine wpList_append_own _ rfl _ _ 35 rfl w0.heap.size 42 i0 (.agg #[.slice none 0 0, .slice none 0 0, .slice none 0 0]) 3 72 Try.underlying35 hi hz0 hz1 hz2 rfl (by decide) _ _ _ rfl HMo2.out ad m2 c3 (flatG M2) rfl HM5.out HM3.out HM4.out (by unfold maxLen; omega) (by omega) HB2s.out ?_)
                            intro v' w3 hown' hgrow _
                            have HO3 : Hid (w3.ownsRow w0.heap.size 42 3 v' (L ++ (M ++ M2)).length (flatG (L ++ (M ++ M2)))) := by
                              show w3.ownsRow _ _ _ _ _ _
                              rw [HFa.out, HLe.out]
                              exact hown'
                            have HB3 : Hid (Below w0.heap.size w0 w3) := HMb2.out.grown hgrow HB2s.out (fun b hb => (World.ownsRow.lt HMo2.out b hb).1)
                            have HK3 : Hid (w3.heap[wO.heap.size]? = some (.cells #[.string yb, .string (Ba bnm), .string yro, .bool true, .slice p4 n4 c4, .slice p5 n5 c5] 49 (0, 0))) := (hgrow.block _ (lt_of_block HMk2.out) (fun e => own_ne HMo2.out HMk2.out e.symm)).trans HMk2.out
                            clear hown' hgrow
                            go_wp2_with fail
                            go_roundw
                            case rel => exact ⟨j + 1, M ++ M2, by omega, by go_num, HCv2.out, HO3.out, HSt2.out, HB3.out, HK3.out⟩
                            case measure => simp [intOf]; omega
                        | false =>
                          have HCv : Hid ((if countsB (bsp, bnm, bro, true, bus, bgs) n gs sp then matchL (bsp, bnm, bro, true, bus, bgs) (rs.take (j + 1)) else []) = (if countsB (bsp, bnm, bro, true, bus, bgs) n gs sp then matchL (bsp, bnm, bro, true, bus, bgs) (rs.take j) else [])) := by
                            show _ = _
                            rw [HGt.out false (by rw [HCn2.out, HIr.out]; simp)]
                            exact List.append_nil _
                          clear HGt HCn2 HIr
                          generalize Ba t1 = yt1 at *
                          generalize Ba t2 = yt2 at *
                          generalize Ba bsp = yb at *
                          generalize Ba bro = yro at *
                          generalize Ba sp = ysp at *
                          go_wp2_with fail
                          go_roundw
                          case rel => exact ⟨j + 1, M, by omega, by go_num, by rw [HCv.out]; exact HMm.out, by rw [← HWm.out]; exact HMo2.out, HMs.out, by rw [← HWm.out]; exact HMb2.out, by rw [← HWm.out]; exact HMk2.out⟩
                          case measure => simp [intOf]; omega
              | false =>
                have HIr2 : Hid (isRole (bsp, bnm, bro, false, bus, bgs) (t1, t2, rl) = (decide (t1 = bsp) && d2)) := HIr.out
                clear HIr
                have HIr := HIr2
                clear HIr2 r3
                generalize hd1 : decide (t1 = bsp) = e1 at *
                clear hd1
                cases cb with
                | false =>
                  have HCv : Hid ((if countsB (bsp, bnm, bro, false, bus, bgs) n gs sp then matchL (bsp, bnm, bro, false, bus, bgs) (rs.take (j + 1)) else []) = (if countsB (bsp, bnm, bro, false, bus, bgs) n gs sp then matchL (bsp, bnm, bro, false, bus, bgs) (rs.take j) else [])) := by
                    show _ = _
                    rw [HGt.out false (by rw [HCn2.out, HIr.out]; simp)]
                    exact List.append_nil _
                  clear HGt HCn2 HIr
                  generalize Ba t1 = yt1 at *
                  generalize Ba t2 = yt2 at *
                  generalize Ba bsp = yb at *
                  generalize Ba bro = yro at *
                  generalize Ba sp = ysp at *
                  go_wp2_with fail
                  go_roundw
                  case rel => exact ⟨j + 1, M, by omega, by go_num, by rw [HCv.out]; exact HMm.out, by rw [← HWm.out]; exact HMo2.out, HMs.out, by rw [← HWm.out]; exact HMb2.out, by rw [← HWm.out]; exact HMk2.out⟩
                  case measure => simp [intOf]; omega
                | true =>
                  cases e1 with
                  | false =>
                    have HCv : Hid ((if countsB (bsp, bnm, bro, false, bus, bgs) n gs sp then matchL (bsp, bnm, bro, false, bus, bgs) (rs.take (j + 1)) else []) = (if countsB (bsp, bnm, bro, false, bus, bgs) n gs sp then matchL (bsp, bnm, bro, false, bus, bgs) (rs.take j) else [])) := by
                      show _ = _
                      rw [HGt.out false (by rw [HCn2.out, HIr.out]; simp)]
                      exact List.append_nil _
                    clear HGt HCn2 HIr
                    generalize Ba t1 = yt1 at *
                    generalize Ba t2 = yt2 at *
                    generalize Ba bsp = yb at *
                    generalize Ba bro = yro at *
                    generalize Ba sp = ysp at *
                    go_wp2_with fail
                    go_roundw
                    case rel => exact ⟨j + 1, M, by omega, by go_num, by rw [HCv.out]; exact HMm.out, by rw [← HWm.out]; exact HMo2.out, HMs.out, by rw [← HWm.out]; exact HMb2.out, by rw [← HWm.out]; exact HMk2.out⟩
                    case measure => simp [intOf]; omega
                  | true =>
                    cases d2 with
                    | false =>
                      have HCv : Hid ((if countsB (bsp, bnm, bro, false, bus, bgs) n gs sp then matchL (bsp, bnm, bro, false, bus, bgs) (rs.take (j + 1)) else []) = (if countsB (bsp, bnm, bro, false, bus, bgs) n gs sp then matchL (bsp, bnm, bro, false, bus, bgs) (rs.take j) else [])) := by
                        show _ = _
                        rw [HGt.out false (by rw [HCn2.out, HIr.out]; simp)]
                        exact List.append_nil _
                      clear HGt HCn2 HIr
                      generalize Ba t1 = yt1 at *
                      generalize Ba t2 = yt2 at *
                      generalize Ba bsp = yb at *
                      generalize Ba bro = yro at *
                      generalize Ba sp = ysp at *
                      go_wp2_with fail
                      go_roundw
                      case rel => exact ⟨j + 1, M, by omega, by go_num, by rw [HCv.out]; exact HMm.out, by rw [← HWm.out]; exact HMo2.out, HMs.out, by rw [← HWm.out]; exact HMb2.out, by rw [← HWm.out]; exact HMk2.out⟩
                      case measure => simp [intOf]; omega
                    | true =>
                      cases de with
                      | true =>
                        have HCv : Hid ((if countsB (bsp, bnm, bro, false, bus, bgs) n gs sp then matchL (bsp, bnm, bro, false, bus, bgs) (rs.take (j + 1)) else []) = (if countsB (bsp, bnm, bro, false, bus, bgs) n gs sp then matchL (bsp, bnm, bro, false, bus, bgs) (rs.take j) else []) ++ rl) := by
                          show _ = _
                          rw [HGt.out true (by rw [HCn2.out, HIr.out]; simp)]
                          rfl
                        have HLn1 : Hid ((if countsB (bsp, bnm, bro, false, bus, bgs) n gs sp then matchL (bsp, bnm, bro, false, bus, bgs) (rs.take (j + 1)) else []).length ≤ 8) := by
                          show _ ≤ _
                          have h1 := HMl1.out
                          have h2 := HGk.out.2
                          split
                          · omega
                          · simp
                        clear HGt HCn2 HIr
                        obtain ⟨_, hcase⟩ := rls_vals HRl.out
                        generalize Ba t1 = yt1 at *
                        generalize Ba t2 = yt2 at *
                        generalize Ba bsp = yb at *
                        generalize Ba bro = yro at *
                        generalize Ba sp = ysp at *
                        rcases hcase with ⟨rfl, rfl, hrn⟩ | ⟨ad, rfl, M2, hM1, hM2, hM3⟩
                        · subst hrn
                          have HCv2 : Hid (M.map (·.1) = (if countsB (bsp, bnm, bro, false, bus, bgs) n gs sp then matchL (bsp, bnm, bro, false, bus, bgs) (rs.take (j + 1)) else [])) := by show _ = _; rw [HCv.out, List.append_nil]; exact HMm.out
                          clear HCv HLn1
                          dsimp only [List.length_nil] at *
                          go_wp2_with (at_builtin; (try rw [← HWm.out]); refine wpList_append_own_none rfl _ _ 35 rfl w0.heap.size 42 i0 3 Try.underlying35 hi _ _ _ rfl HMo2.out rfl ?_)
                          go_wp2_with fail
                          go_roundw
                          case rel => exact ⟨j + 1, M, by omega, by go_num, HCv2.out, HMo2.out, HMs.out, HMb2.out, HMk2.out⟩
                          case measure => simp [intOf]; omega
                        · have hlM : M2.length = rl.length := by rw [← hM1, List.length_map]
                          have HCv2 : Hid ((M ++ M2).map (·.1) = (if countsB (bsp, bnm, bro, false, bus, bgs) n gs sp then matchL (bsp, bnm, bro, false, bus, bgs) (rs.take (j + 1)) else [])) := by
                            show _ = _
                            rw [HCv.out, List.map_append, hM1, HMm.out]
                          have HLn2 : Hid (M.length + M2.length ≤ 8) := by
                            have := HLn1.out
                            rw [← HCv2.out, List.length_map, List.length_append] at this
                            exact this
                          have HSt2 : Hid (StG w (M ++ M2)) := HMs.out.append hM2
                          have HM3 : Hid (∀ j u, (flatG M2)[j]? = some u → wm.cell? (ad.add j) = some u) := fun j u h => cell_stays (hM3 j u h) HMw2.out
                          have HM4 : Hid (∀ u ∈ flatG M2, u.oneCell' = true) := flatG_one hM2
                          have HM5 : Hid ((flatG M2).length = M2.length * 3) := flatG_len M2
                          have HFa : Hid (flatG (L ++ (M ++ M2)) = flatG (L ++ M) ++ flatG M2) := by show _ = _; rw [← List.append_assoc, flatG_append]
                          have HLe : Hid ((L ++ (M ++ M2)).length = (L ++ M).length + M2.length) := by show _ = _; simp only [List.length_append]; omega
                          have HB2s : Hid (w0.heap.size ≤ wm.heap.size) := HMb2.out.size
                          have HLM : Hid ((L ++ M).length + M2.length ≤ 96) := by show _ ≤ _; have := HLen.out; have := HLn2.out; simp only [List.length_append]; omega
                          clear hM1 hM2 hM3 HCv HLn1
                          generalize rl.length = lr2 at *
                          subst hlM
                          generalize hLM : (L ++ M).length = lm at *
                          generalize hM2l : M2.length = m2 at *
                          have hb96 : lm + m2 ≤ 96 := HLM.out
                          go_wp2_with (at_builtin; (try rw [← HWm.out]); refine wpList_append_own _ rfl _ _ 35 rfl w0.heap.size 42 i0 (.agg #[.slice none 0 0, .slice none 0 0, .slice none 0 0]) 3 72 Try.underlying35 hi hz0 hz1 hz2 rfl (by decide) _ _ _ rfl HMo2.out ad m2 c3 (flatG M2) rfl HM5.out HM3.out HM4.out (by unfold maxLen; omega) (by omega) HB2s.out ?_)
                          intro v' w3 hown' hgrow _
                          have HO3 : Hid (w3.ownsRow w0.heap.size 42 3 v' (L ++ (M ++ M2)).length (flatG (L ++ (M ++ M2)))) := by
                            show w3.ownsRow _ _ _ _ _ _
                            rw [HFa.out, HLe.out]
                            exact hown'
                          have HB3 : Hid (Below w0.heap.size w0 w3) := HMb2.out.grown hgrow HB2s.out (fun b hb => (World.ownsRow.lt HMo2.out b hb).1)
                          have HK3 : Hid (w3.heap[wO.heap.size]? = some (.cells #[.string yb, .string (Ba bnm), .string yro, .bool false, .slice p4 n4 c4, .slice p5 n5 c5] 49 (0, 0))) := (hgrow.block _ (lt_of_block HMk2.out) (fun e => own_ne HMo2.out HMk2.out e.symm)).trans HMk2.out
                          clear hown' hgrow
                          go_wp2_with fail
                          go_roundw
                          case rel => exact ⟨j + 1, M ++ M2, by omega, by go_num, HCv2.out, HO3.out, HSt2.out, HB3.out, HK3.out⟩
                          case measure => simp [intOf]; omega
                      | false =>
                        cases ds with
                        | true =>
                          have HCv : Hid ((if countsB (bsp, bnm, bro, false, bus, bgs) n gs sp then matchL (bsp, bnm, bro, false, bus, bgs) (rs.take (j + 1)) else []) = (if countsB (bsp, bnm, bro, false, bus, bgs) n gs sp then matchL (bsp, bnm, bro, false, bus, bgs) (rs.take j) else []) ++ rl) := by
                            show _ = _
                            rw [HGt.out true (by rw [HCn2.out, HIr.out]; simp)]
                            rfl
                          have HLn1 : Hid ((if countsB (bsp, bnm, bro, false, bus, bgs) n gs sp then matchL (bsp, bnm, bro, false, bus, bgs) (rs.take (j + 1)) else []).length ≤ 8) := by
                            show _ ≤ _
                            have h1 := HMl1.out
                            have h2 := HGk.out.2
                            split
                            · omega
                            · simp
                          clear HGt HCn2 HIr
                          obtain ⟨_, hcase⟩ := rls_vals HRl.out
                          generalize Ba t1 = yt1 at *
                          generalize Ba t2 = yt2 at *
                          generalize Ba bsp = yb at *
                          generalize Ba bro = yro at *
                          generalize Ba sp = ysp at *
                          rcases hcase with ⟨rfl, rfl, hrn⟩ | ⟨ad, rfl, M2, hM1, hM2, hM3⟩
                          · subst hrn
                            have HCv2 : Hid (M.map (·.1) = (if countsB (bsp, bnm, bro, false, bus, bgs) n gs sp then matchL (bsp, bnm, bro, false, bus, bgs) (rs.take (j + 1)) else [])) := by show _ = _; rw [HCv.out, List.append_nil]; exact HMm.out
                            clear HCv HLn1
                            dsimp only [List.length_nil] at *
                            go_wp2_with (at_builtin; (try rw [← HWm.out]); refine wpList_append_own_none rfl _ _ 35 rfl w0.heap.size 42 i0 3 Try.underlying35 hi _ _ _ rfl HMo2.out rfl ?_)
                            go_wp2_with fail
                            go_roundw
                            case rel => exact ⟨j + 1, M, by omega, by go_num, HCv2.out, HMo2.out, HMs.out, HMb2.out, HMk2.out⟩
                            case measure => simp [intOf]; omega
                          · have hlM : M2.length = rl.length := by rw [← hM1, List.length_map]
                            have HCv2 : Hid ((M ++ M2).map (·.1) = (if countsB (bsp, bnm, bro, false, bus, bgs) n gs sp then matchL (bsp, bnm, bro, false, bus, bgs) (rs.take (j + 1)) else [])) := by
                              show _ = _
                              rw [HCv.out, List.map_append, hM1, HMm.out]
                            have HLn2 : Hid (M.length + M2.length ≤ 8) := by
                              have := HLn1.out
                              rw [← HCv2.out, List.length_map, List.length_append] at this
                              exact this
                            have HSt2 : Hid (StG w (M ++ M2)) := HMs.out.append hM2
                            have HM3 : Hid (∀ j u, (flatG M2)[j]? = some u → wm.cell? (ad.add j) = some u) := fun j u h => cell_stays (hM3 j u h) HMw2.out
                            have HM4 : Hid (∀ u ∈ flatG M2, u.oneCell' = true) := flatG_one hM2
                            have HM5 : Hid ((flatG M2).length = M2.length * 3) := flatG_len M2
                            have HFa : Hid (flatG (L ++ (M ++ M2)) = flatG (L ++ M) ++ flatG M2) := by show _ = _; rw [← List.append_assoc, flatG_append]
                            have HLe : Hid ((L ++ (M ++ M2)).length = (L ++ M).length + M2.length) := by show _ = _; simp only [List.length_append]; omega
                            have HB2s : Hid (w0.heap.size ≤ wm.heap.size) := HMb2.out.size
                            have HLM : Hid ((L ++ M).length + M2.length ≤ 96) := by show _ ≤ _; have := HLen.out; have := HLn2.out; simp only [List.length_append]; omega
                            clear hM1 hM2 hM3 HCv HLn1
                            generalize rl.length = lr2 at *
                            subst hlM
                            generalize hLM : (L ++ M).length = lm at *
                            generalize hM2l : M2.length = m2 at *
                            have hb96 : lm + m2 ≤ 96 := HLM.out
                            go_wp2_with (at_builtin; (try rw [← HWm.out]); refine wpList_append_own _ rfl _ _ 35 rfl w0.heap.size 42 i0 (.agg #[.slice none 0 0, .slice none 0 0, .slice none 0 0]) 3 72 Try.underlying35 hi hz0 hz1 hz2 rfl (by decide) _ _ _ rfl HMo2.out ad m2 c3 (flatG M2) rfl HM5.out HM3.out HM4.out (by unfold maxLen; omega) (by omega) HB2s.out ?_)
                            intro v' w3 hown' hgrow _
                            have HO3 : Hid (w3.ownsRow w0.heap.size 42 3 v' (L ++ (M ++ M2)).length (flatG (L ++ (M ++ M2)))) := by
                              show w3.ownsRow _ _ _ _ _ _
                              rw [HFa.out, HLe.out]
                              exact hown'
                            have HB3 : Hid (Below w0.heap.size w0 w3) := HMb2.out.grown hgrow HB2s.out (fun b hb => (World.ownsRow.lt HMo2.out b hb).1)
                            have HK3 : Hid (w3.heap[wO.heap.size]? = some (.cells #[.string yb, .string (Ba bnm), .string yro, .bool false, .slice p4 n4 c4, .slice p5 n5 c5] 49 (0, 0))) := (hgrow.block _ (lt_of_block HMk2.out) (fun e => own_ne HMo2.out HMk2.out e.symm)).trans HMk2.out
                            clear hown' hgrow
                            go_wp2_with fail
                            go_roundw
                            case rel => exact ⟨j + 1, M ++ M2, by omega, by go_num, HCv2.out, HO3.out, HSt2.out, HB3.out, HK3.out⟩
                            case measure => simp [intOf]; omega
                        | false =>
                          have HCv : Hid ((if countsB (bsp, bnm, bro, false, bus, bgs) n gs sp then matchL (bsp, bnm, bro, false, bus, bgs) (rs.take (j + 1)) else []) = (if countsB (bsp, bnm, bro, false, bus, bgs) n gs sp then matchL (bsp, bnm, bro, false, bus, bgs) (rs.take j) else [])) := by
                            show _ = _
                            rw [HGt.out false (by rw [HCn2.out, HIr.out]; simp)]
                            exact List.append_nil _
                          clear HGt HCn2 HIr
                          generalize Ba t1 = yt1 at *
                          generalize Ba t2 = yt2 at *
                          generalize Ba bsp = yb at *
                          generalize Ba bro = yro at *
                          generalize Ba sp = ysp at *
                          go_wp2_with fail
                          go_roundw
                          case rel => exact ⟨j + 1, M, by omega, by go_num, by rw [HCv.out]; exact HMm.out, by rw [← HWm.out]; exact HMo2.out, HMs.out, by rw [← HWm.out]; exact HMb2.out, by rw [← HWm.out]; exact HMk2.out⟩
                          case measure => simp [intOf]; omega
            · have HJe : Hid (j = rs.length) := by show _ = _; omega
              have HFin : Hid ((L ++ M).map (·.1) = heldP rs (bs.take (k + 1)) n gs sp ∧ (L ++ M).length ≤ 8 * (k + 1)) := by
                have hl := HMl.out
                rw [← HMm.out, List.length_map] at hl
                refine ⟨?_, by rw [List.length_append]; omega⟩
                rw [List.map_append, HM.out, HMm.out, HJe.out, List.take_of_length_le (Nat.le_refl _), HGk.out.1]
                rfl
              have HStF : Hid (StG w (L ++ M)) := HSt.out.append HMs.out
              go_wp2_with fail
              go_roundw
              case rel => exact ⟨k + 1, L ++ M, by omega, by go_num, HFin.out.1, HMo.out, HStF.out, HFin.out.2, HMb.out⟩
              case measure => simp [intOf]; omega
    · have HN : Hid (L.map (·.1) = heldP rs bs n gs sp) := HM.out.trans (HEnd.out k (by omega))
      have hl96 : L.length ≤ 96 := by omega
      have HOw : Hid (wO.ownsRow w.heap.size 42 3 sv L.length (flatG L)) := own_low HO.out HSz.out
      go_wp2_with fail
      go_ret
      exact ⟨sv, L, rfl, HN.out, HOw.out, HSt.out, hl96, HBw.out⟩
end Go.Proofs.Ytnjjlnhchfoigaa
