/- Contracts over this translation: query.readParts, query.Parse. -/
import Derived.Test.YtgaopmdpcjcooaaGreatDoorQParsePu
namespace Go.Proofs.YtgaopmdpcjcooaaGreatDoor
open Go.RowKit
set_option linter.unusedVariables false
set_option linter.unusedSimpArgs false
/-- parts of one's own, whose values are one's own -/
def PartsN (B : Nat) (w : World) (v : Value) (l : List Rq) : Prop := ∃ L : List (Rq × Value), L.map (·.1) = l ∧ (∀ p ∈ L, OwnN B w p.2 p.1.2.2) ∧ w.ownsRow B 35 3 v L.length (flatR L)
theorem partsN_nil (B : Nat) (w : World) : PartsN B w (.slice none 0 0) [] := ⟨[], rfl, (fun p hp => absurd hp (by simp)), World.ownsRow_nil _ _ _ _⟩
theorem PartsN.g {B b : Nat} {w w' : World} {v : Value} {l : List Rq} (h : PartsN B w v l) (g : G b w w') (hb : b < B) : PartsN B w' v l := by
  obtain ⟨L, h1, h2, h3⟩ := h
  exact ⟨L, h1, fun p hp => (h2 p hp).g g hb, World.ownsRow.kept h3 g (own_block h3 hb)⟩
theorem OwnN.strs {B : Nat} {w : World} {v : Value} {l : List Bs} (h : OwnN B w v l) : Strs w v l := by
  rcases owns_at h with ⟨rfl, h0⟩ | ⟨g, cap, rfl, hB, hg, hc, hm, hcell⟩
  · have : l = [] := List.eq_nil_of_length_eq_zero h0
    subst this
    exact Or.inl ⟨rfl, _, _, rfl⟩
  · refine Or.inr ⟨g, 0, cap, rfl, hc, hm, hg, fun i s hi => ?_⟩
    rw [Nat.zero_add]
    exact hcell i _ (by rw [List.getElem?_map, hi]; rfl)
theorem PartsN.reqs {B : Nat} {w : World} {v : Value} {l : List Rq} (h : PartsN B w v l) : Reqs w v l := by
  obtain ⟨L, h1, h2, h3⟩ := h
  rw [← h1]
  exact reqs_of_owns h3 fun p hp => (h2 p hp).strs
theorem PartsN.good {B : Nat} {w : World} {v : Value} {l : List Rq} (h : PartsN B w v l) : GoodV v := by
  obtain ⟨L, h1, h2, h3⟩ := h
  rcases owns_at h3 with ⟨rfl, h0⟩ | ⟨g, cap, rfl, _⟩
  · exact Or.inl rfl
  · exact Or.inr ⟨_, _, _, rfl⟩
/-- two rows of different types lie apart -/
theorem rows_apart {w : World} {B1 B2 s1 s2 n1 n2 : Nat} {e1 e2 : TypeId} {v1 v2 : Value} {x1 x2 : List Value} (h1 : w.ownsRow B1 e1 s1 v1 n1 x1) (h2 : w.ownsRow B2 e2 s2 v2 n2 x2) (hne : e1 ≠ e2) : v1.ownBlock = none ∨ v1.ownBlock ≠ v2.ownBlock := by
  rcases h1.2 with ⟨rfl, _⟩ | ⟨g, cap, cur, rfl, _, hg, _⟩
  · exact Or.inl rfl
  · refine Or.inr (fun e => ?_)
    rcases h2.2 with ⟨rfl, _⟩ | ⟨g2, cap2, cur2, rfl, _, hg2, _⟩
    · cases e
    · have e3 : g = g2 := by injection e
      subst e3
      rw [hg] at hg2
      injection hg2 with hg2
      injection hg2 with _ h3 _
      exact hne h3
theorem PartsN.snoc {B : Nat} {w w' : World} {v v' u : Value} {l : List Rq} {r : Rq} {L : List (Rq × Value)} (h1 : L.map (·.1) = l) (h2 : ∀ p ∈ L, OwnN B w p.2 p.1.2.2) (h3 : w.ownsRow B 35 3 v L.length (flatR L))
    (hu : OwnN B w u r.2.2) (hg : w.grownBy w' v.ownBlock) (hown : w'.ownsRow B 35 3 v' (L.length + 1) (flatR L ++ [.string (Ba r.1), .int .i64 r.2.1, u])) : PartsN B w' v' (l ++ [r]) := by
  refine ⟨L ++ [(r, u)], by rw [List.map_append, h1]; rfl, fun p hp => ?_, ?_⟩
  · rcases List.mem_append.1 hp with hp | hp
    · exact World.ownsRow.kept (h2 p hp) hg (rows_apart (h2 p hp) h3 (by decide))
    · simp only [List.mem_singleton] at hp
      subst hp
      exact World.ownsRow.kept hu hg (rows_apart hu h3 (by decide))
  · rw [List.length_append, flatR_snoc]
    exact hown
theorem PartsN.low {B B' : Nat} {w : World} {v : Value} {l : List Rq} (h : PartsN B w v l) (hb : B' ≤ B) : PartsN B' w v l := by
  obtain ⟨L, h1, h2, h3⟩ := h
  refine ⟨L, h1, fun p hp => (h2 p hp).low hb, h3.1, ?_⟩
  rcases h3.2 with h2 | ⟨g, cap, cur, e, hB, rest⟩
  · exact Or.inl h2
  · exact Or.inr ⟨g, cap, cur, e, Nat.le_trans hb hB, rest⟩
theorem moreV_len : ∀ (n : Nat) (s : Bs), (moreV n s).2.length ≤ s.length
  | 0, s => Nat.le_refl _
  | n + 1, s => by
    rw [moreV]
    cases h : tk [44] s with
    | none => exact Nat.le_refl _
    | some s1 =>
      have h1 := tk_len h (by decide)
      have h2 := rr_len s1
      have h3 := moreV_len n (rr s1)
      show (moreV n (rr s1)).2.length ≤ _
      omega
theorem valsP_len {N : Nat} {s t : Bs} {vs : List Bs} (h : valsP N s = some (vs, t)) : t.length ≤ s.length := by
  rw [valsP] at h
  cases h1 : tk [40] s with
  | none => rw [h1] at h; cases h
  | some s1 =>
    rw [h1] at h
    cases h2 : tk [41] (moreV N (rr s1)).2 with
    | none => simp only [h2] at h; cases h
    | some s2 =>
      simp only [h2] at h
      injection h with h
      have h3 := tk_len h1 (by decide)
      have h4 := rr_len s1
      have h5 := moreV_len N (rr s1)
      have h6 := tk_len h2 (by decide)
      have h7 : s2 = t := by injection h
      rw [← h7]
      omega
theorem wordP_len {N : Nat} {key s t : Bs} {r : Rq} (h : wordP N key s = some (r, t)) : t.length ≤ s.length := by
  unfold wordP at h
  have h0 := rr_len s
  by_cases h1 : rn s = []
  · rw [if_pos h1] at h
    injection h with h
    have : rr s = t := by injection h
    rw [← this]
    exact h0
  · rw [if_neg h1] at h
    by_cases h2 : rn s = [105, 110]
    · rw [if_pos h2] at h
      obtain ⟨⟨vs, t'⟩, hv, e⟩ := Option.map_eq_some_iff.1 h
      have := valsP_len hv
      have e2 : t' = t := by injection e
      rw [← e2]
      omega
    · rw [if_neg h2] at h
      by_cases h3 : rn s = [110, 111, 116, 105, 110]
      · rw [if_pos h3] at h
        obtain ⟨⟨vs, t'⟩, hv, e⟩ := Option.map_eq_some_iff.1 h
        have := valsP_len hv
        have e2 : t' = t := by injection e
        rw [← e2]
        omega
      · rw [if_neg h3] at h
        cases h
theorem part_len {N : Nat} {s t : Bs} {r : Rq} (h : partP N s = some (r, t)) : t.length ≤ s.length := by
  unfold partP at h
  have h0 := rr_len s
  have key : ∀ (g s2 : Bs), g ≠ [] → tk g (rr s) = some s2 → (rr s2).length ≤ s.length := fun g s2 hg hk => by
    have h1 := tk_len hk hg
    have h2 := rr_len s2
    omega
  cases h1 : tk [61, 61] (rr s) with
  | some s2 =>
    simp only [h1] at h
    injection h with h
    have e : rr s2 = t := by injection h
    rw [← e]
    exact key _ _ (by decide) h1
  | none =>
    cases h2 : tk [61] (rr s) with
    | some s2 =>
      simp only [h1, h2] at h
      injection h with h
      have e : rr s2 = t := by injection h
      rw [← e]
      exact key _ _ (by decide) h2
    | none =>
      cases h3 : tk [33, 61] (rr s) with
      | some s2 =>
        simp only [h1, h2, h3] at h
        injection h with h
        have e : rr s2 = t := by injection h
        rw [← e]
        exact key _ _ (by decide) h3
      | none =>
        simp only [h1, h2, h3] at h
        unfold notP at h
        by_cases hk : rn s = []
        · rw [if_pos hk] at h
          cases h4 : tk [33] (rr s) with
          | some s2 =>
            simp only [h4] at h
            injection h with h
            have e : rr s2 = t := by injection h
            rw [← e]
            exact key _ _ (by decide) h4
          | none =>
            simp only [h4] at h
            have := wordP_len h
            omega
        · rw [if_neg hk] at h
          have := wordP_len h
          omega
theorem moreP_bad {N n : Nat} {t : Bs} (h : partP N t = none) : moreP N n t = none := by
  cases n with
  | zero => rfl
  | succ n => rw [moreP, h]
theorem moreP_last {N n : Nat} {t : Bs} {r : Rq} (h : partP N t = some (r, [])) (hn : 0 < n) : moreP N n t = some [r] := by
  cases n with
  | zero => omega
  | succ n => rw [moreP, h]; simp
theorem moreP_stop {N n : Nat} {t t1 : Bs} {r : Rq} (h : partP N t = some (r, t1)) (h1 : t1 ≠ []) (h2 : tk [44] t1 = none) : moreP N n t = none := by
  cases n with
  | zero => rfl
  | succ n => rw [moreP, h]; simp [h1, h2]
theorem moreP_more {N n : Nat} {t t1 t2 : Bs} {r : Rq} (h : partP N t = some (r, t1)) (h1 : t1 ≠ []) (h2 : tk [44] t1 = some t2) (hn : 0 < n) : ∃ m, n = m + 1 ∧ moreP N n t = (moreP N m t2).map (r :: ·) := by
  cases n with
  | zero => omega
  | succ n => exact ⟨n, rfl, by rw [moreP, h]; simp [h1, h2]⟩
theorem info_req2 : (Tryz.prog.info? 35).map (fun i => (i.zero, i.size, i.bytes)) = some (some (.agg #[.string ⟨#[]⟩, .int .i64 0, .slice none 0 0]), 3, 48) := by kernel_rfl
theorem three_parts {p : Option Addr} {a : ByteArray} {k : Int} {n c : Nat} : ∀ u ∈ [Value.string a, .int .i64 k, .slice p n c], u.oneCell' = true := one3
set_option maxRecDepth 100000 in
set_option maxHeartbeats 4000000 in
theorem readParts_any (N : Nat) (s : Bs) (w : World) (hs : s.length ≤ 300) (hN : 310 ≤ N) :
    Calls Tryz.prog 31 #[.string (Ba s)] w fun e w' => Below w.heap.size w w' ∧
      ((∃ l v, readP N s = some l ∧ e = .returned (.tuple #[v, .bool true]) ∧ PartsN w.heap.size w' v l) ∨ (readP N s = none ∧ e = .returned (.tuple #[.slice none 0 0, .bool false]))) := by
  obtain ⟨i0, hi, hz0, hz1, hz2⟩ := info_parts info_req2
  have HR0 : Hid (Rdr w.heap.size [] (w.alloc (.cells #[.string ⟨#[]⟩] 92))) := heap_alloc_new _ _
  have HLv : Hid (∀ w1, Rdr w.heap.size [] w1 → Calls Tryz.prog 55 #[.pointer (some ⟨w.heap.size, 0, none⟩), .string (Ba s)] w1 fun e w' => e = .returned (.tuple #[]) ∧ G w.heap.size w1 w' ∧ Rdr w.heap.size (lv s) w') := fun w1 h1 => by
    have := leave_any w.heap.size [] (Ba s) w1 h1
    rw [ba_data] at this
    exact this
  have hll := lv_len s
  have HRd : Hid (readP N s = if lv s = [] then some [] else moreP N N (lv s)) := rfl
  have HBel : Hid (∀ w', G w.heap.size (w.alloc (.cells #[.string ⟨#[]⟩] 92)) w' → Below w.heap.size w w') := fun w' h => below_of_new h
  have HSz : Hid ((w.alloc (.cells #[.string ⟨#[]⟩] 92)).heap.size = w.heap.size + 1) := by show _ = _; simp
  generalize readP N s = res at *
  generalize Ba s = y at *
  go_enter Tryz.func31, Tryz.ntmps31
  go_wp2_with fail
  refine Calls.mono (HLv.out _ HR0.out) ?_
  rintro e w1 ⟨rfl, g1, r1⟩
  have HG1 : Hid (G w.heap.size (w.alloc (.cells #[.string ⟨#[]⟩] 92)) w1) := g1
  have HR1 : Hid (Rdr w.heap.size (lv s) w1) := r1
  have hc1 := r1.text
  clear g1 r1
  by_cases hlv : lv s = []
  · have hyb : ((Ba (lv s)).toList == []) = true := beq_nil' rfl hlv
    have HX : Hid (res = some []) := by show _ = _; rw [HRd.out, if_pos hlv]
    clear hlv
    generalize Ba (lv s) = z at *
    go_wp2_with fail
    go_ret2
    exact ⟨HBel.out _ HG1.out, Or.inl ⟨[], .slice none 0 0, HX.out, rfl, partsN_nil _ _⟩⟩
  · have hyb : ((Ba (lv s)).toList == []) = false := beq_nil rfl hlv
    have HX : Hid (res = moreP N N (lv s)) := by show _ = _; rw [HRd.out, if_neg hlv]
    clear hlv
    have HLl : Hid ((lv s).length ≤ 300) := by show _ ≤ _; omega
    clear hll
    generalize hlvs : lv s = t0 at *
    clear hlvs
    generalize Ba t0 = z at *
    generalize hb : w.heap.size = b at *
    go_wp2_with fail
    go_loopw [5] (fun v wr => ∃ (n : Nat) (t : Bs) (l : List Rq), moreP N N t0 = (moreP N n t).map (l ++ ·) ∧ t.length < n ∧ t.length ≤ 300 ∧ l.length + t.length ≤ 300 ∧ PartsN (b + 1) wr v l ∧ Rdr b t wr ∧ G b (w.alloc (.cells #[.string ⟨#[]⟩] 92)) wr) (fun _ wr => restOf b wr)
    case atStart => exact ⟨N, t0, [], by cases moreP N N t0 <;> simp, by have := HLl.out; omega, HLl.out, by have := HLl.out; simpa using this, partsN_nil _ _, HR1.out, HG1.out⟩
    case round =>
      obtain ⟨n, t, l, hmp, htn, ht3, hlt, hpn, hR, hG⟩ := hrel
      have HM : Hid (moreP N N t0 = (moreP N n t).map (l ++ ·)) := hmp
      have HPn : Hid (PartsN (b + 1) wr u5 l) := hpn
      have HR : Hid (Rdr b t wr) := hR
      have HG : Hid (G b (w.alloc (.cells #[.string ⟨#[]⟩] 92)) wr) := hG
      have HSr : Hid (b + 1 ≤ wr.heap.size) := by have := hG.size; have h9 := HSz.out; show _ ≤ _; omega
      clear hmp hpn hR hG
      have hbw : b < wr.heap.size := HR.out.lt
      go_wp2_with fail
      refine Calls.mono (rpart_any N b t wr HR.out ht3 hN) ?_
      rintro e w2 ⟨g2, hr⟩
      have HG2 : Hid (G b (w.alloc (.cells #[.string ⟨#[]⟩] 92)) w2) := HG.out.trans g2
      have HPn2 : Hid (PartsN (b + 1) w2 u5 l) := HPn.out.g g2 (by omega)
      have hsz2 := g2.size
      clear g2
      rcases hr with ⟨⟨rk, rd, rv⟩, t1, p, n', c, hp, hn', rfl, hown, hrd⟩ | ⟨hp, a, k, p, n', c, rfl⟩
      · have HP : Hid (partP N t = some ((rk, rd, rv), t1)) := hp
        have hpl := part_len hp
        have HO : Hid (OwnN (b + 1) w2 (.slice p n' c) rv) := hown.low HSr.out
        have HR2 : Hid (Rdr b t1 w2) := hrd
        obtain ⟨L, hL1, hL2, hL3⟩ := HPn2.out
        have hLl : L.length = l.length := by rw [← hL1, List.length_map]
        have hLl2 : L.length ≤ 300 := by omega
        have HL1 : Hid (L.map (·.1) = l) := hL1
        clear hLl
        clear hp hn' hown hrd
        dsimp only
        generalize hz : Ba rk = zk at *
        have HZ : Hid (zk = Ba rk) := hz.symm
        clear hz
        have HB2 : Hid (Below w2.heap.size w2 (w2.alloc (.cells #[.string zk, .int .i64 rd, .slice p n' c] 35))) := (Below.refl _ _).alloc (Nat.le_refl _) _
        have HL2 : Hid (∀ q ∈ L, OwnN (b + 1) ((w2.alloc (.cells #[.string zk, .int .i64 rd, .slice p n' c] 35)).alloc (.cells #[.string zk, .int .i64 rd, .slice p n' c] 35)) q.2 q.1.2.2) := fun q hq => World.ownsRow.alloc (World.ownsRow.alloc (hL2 q hq) _) _
        have HOa : Hid (OwnN (b + 1) ((w2.alloc (.cells #[.string zk, .int .i64 rd, .slice p n' c] 35)).alloc (.cells #[.string zk, .int .i64 rd, .slice p n' c] 35)) (.slice p n' c) rv) := World.ownsRow.alloc (World.ownsRow.alloc HO.out _) _
        have HL3 : Hid ((w2.alloc (.cells #[.string zk, .int .i64 rd, .slice p n' c] 35)).ownsRow (b + 1) 35 3 u5 L.length (flatR L)) := World.ownsRow.alloc hL3 _
        have HRa : Hid (Rdr b t1 ((w2.alloc (.cells #[.string zk, .int .i64 rd, .slice p n' c] 35)).alloc (.cells #[.string zk, .int .i64 rd, .slice p n' c] 35))) := (HR2.out.below HB2.out).below ((Below.refl _ _).alloc (Nat.le_refl _) _)
        have HGa : Hid (G b (w.alloc (.cells #[.string ⟨#[]⟩] 92)) ((w2.alloc (.cells #[.string zk, .int .i64 rd, .slice p n' c] 35)).alloc (.cells #[.string zk, .int .i64 rd, .slice p n' c] 35))) := (HG2.out.alloc _).alloc _
        have hs1 : (w2.alloc (.cells #[.string zk, .int .i64 rd, .slice p n' c] 35)).heap.size = w2.heap.size + 1 := by simp
        clear hL2 hL3 hL1
        have hb2 : b < w2.heap.size := by omega
        go_wp2_with (at_builtin; refine wpList_append_own _ rfl _ _ 22 rfl (b + 1) 35 i0 (.agg #[.string ⟨#[]⟩, .int .i64 0, .slice none 0 0]) 3 48 Tryz.underlying22 hi hz0 hz1 hz2 rfl (by decide) _ _ _ rfl (HL3.out.alloc _) ⟨w2.heap.size + 1, 0, none⟩ 1 1 [.string zk, .int .i64 rd, .slice p n' c] rfl rfl (new3 hs1.symm) one3 (by unfold maxLen; omega) (by omega) (by simp; omega) ?_)
        intro v' w3 hown' hgrow _
        have hrow := fun k hk => World.ownsRow.lt HL3.out k hk
        have HPn3 : Hid (PartsN (b + 1) w3 v' (l ++ [(rk, rd, rv)])) := by
          have h9 := HZ.out
          subst h9
          exact PartsN.snoc HL1.out HL2.out (HL3.out.alloc _) HOa.out hgrow hown'
        have HG3 : Hid (G b (w.alloc (.cells #[.string ⟨#[]⟩] 92)) w3) := HGa.out.grown hgrow (fun k hk => by have := (hrow k hk).1; have h9 := HSz.out; omega)
        have HR3 : Hid (Rdr b t1 w3) := HRa.out.kept hgrow (fun e => by have := (hrow b e.symm).1; omega)
        have hc3 := HR3.out.text
        clear hown' hgrow hrow
        by_cases ht1 : t1 = []
        · have hyb3 : ((Ba t1).toList == []) = true := beq_nil' rfl ht1
          have HF : Hid (res = some (l ++ [(rk, rd, rv)])) := by
            show _ = _
            have := HP.out
            rw [ht1] at this
            rw [HX.out, HM.out, moreP_last this (by omega)]
            rfl
          clear ht1
          generalize Ba t1 = z1 at *
          go_wp2_with fail
          go_ret2
          exact ⟨by rw [hb]; exact HBel.out _ HG3.out, Or.inl ⟨_, v', HF.out, rfl, HPn3.out.low (by omega)⟩⟩
        · have hyb3 : ((Ba t1).toList == []) = false := beq_nil rfl ht1
          cases h44 : tk [44] t1 with
          | none =>
            have HF : Hid (res = none) := by
              show _ = _
              rw [HX.out, HM.out, moreP_stop HP.out ht1 h44]
              rfl
            have HT : Hid (∀ w', Rdr b t1 w' → Calls Tryz.prog 57 #[.pointer (some ⟨b, 0, none⟩), .string ⟨#[44]⟩] w' fun e w'' => e = .returned (.bool false) ∧ G b w' w'' ∧ Rdr b t1 w'') := fun w' h => take_no b t1 ⟨#[44]⟩ w' h h44
            clear ht1 h44
            generalize Ba t1 = z1 at *
            go_wp2_with fail
            refine Calls.mono (HT.out _ HR3.out) ?_
            rintro e w4 ⟨rfl, g4, r4⟩
            have HG4 : Hid (G b (w.alloc (.cells #[.string ⟨#[]⟩] 92)) w4) := HG3.out.trans g4
            clear g4 r4
            go_wp2_with fail
            go_ret2
            exact ⟨by rw [hb]; exact HBel.out _ HG4.out, Or.inr ⟨HF.out, rfl⟩⟩
          | some t2 =>
            obtain ⟨m, hm1, hm2⟩ := moreP_more (n := n) HP.out ht1 h44 (by omega)
            have htl := tk_len h44 (by decide)
            have HM2 : Hid (moreP N N t0 = (moreP N m t2).map ((l ++ [(rk, rd, rv)]) ++ ·)) := by
              show _ = _
              rw [HM.out, hm2, Option.map_map]
              congr 1
              funext x
              simp
            have HT : Hid (∀ w', Rdr b t1 w' → Calls Tryz.prog 57 #[.pointer (some ⟨b, 0, none⟩), .string ⟨#[44]⟩] w' fun e w'' => e = .returned (.bool true) ∧ G b w' w'' ∧ Rdr b t2 w'') := fun w' h => take_yes b t1 t2 ⟨#[44]⟩ w' h h44
            clear ht1 h44 hm2 HM
            generalize Ba t1 = z1 at *
            go_wp2_with fail
            refine Calls.mono (HT.out _ HR3.out) ?_
            rintro e w4 ⟨rfl, g4, r4⟩
            have HG4 : Hid (G b (w.alloc (.cells #[.string ⟨#[]⟩] 92)) w4) := HG3.out.trans g4
            have HPn4 : Hid (PartsN (b + 1) w4 v' (l ++ [(rk, rd, rv)])) := HPn3.out.g g4 (by omega)
            have HR4 : Hid (Rdr b t2 w4) := r4
            clear g4 r4
            go_wp2_with fail
            go_roundw
            case rel => exact ⟨m, t2, l ++ [(rk, rd, rv)], HM2.out, by omega, by omega, by rw [List.length_append]; simp; omega, HPn4.out, HR4.out, HG4.out⟩
            case measure => rw [restOf_eq HR4.out, restOf_eq HR.out]; omega
      · have HF : Hid (res = none) := by
          show _ = _
          rw [HX.out, HM.out, moreP_bad hp]
          rfl
        clear hp
        go_wp2_with fail
        go_ret2
        exact ⟨by rw [hb]; exact HBel.out _ (HG2.out.alloc _), Or.inr ⟨HF.out, rfl⟩⟩
/-- .. in words of what lies in memory -/
def ParseR (N B : Nat) (s : Bs) (w : World) (v : Value) (er : Int) : Prop :=
  er = (parseE N s).2 ∧ (((parseE N s).2 ≠ 0 ∧ v = .slice none 0 0) ∨ ((parseE N s).2 = 0 ∧ PartsN B w v (parseE N s).1))
theorem parse_large {N : Nat} {s : Bs} (h : 300 < s.length) : parseE N s = ([], 2) := by unfold parseE; rw [if_pos h]
theorem parse_syntax {N : Nat} {s : Bs} (h : ¬ 300 < s.length) (g : readP N s = none) : parseE N s = ([], 3) := by unfold parseE; rw [if_neg h, g]
theorem parse_chk {N : Nat} {s : Bs} {l : List Rq} (h : ¬ 300 < s.length) (g : readP N s = some l) (k : chkI l ≠ 0) : parseE N s = ([], chkI l) := by unfold parseE; rw [if_neg h, g]; simp [k]
theorem parse_ok {N : Nat} {s : Bs} {l : List Rq} (h : ¬ 300 < s.length) (g : readP N s = some l) (k : chkI l = 0) : parseE N s = (l, 0) := by unfold parseE; rw [if_neg h, g]; simp [k]
theorem PartsN.fit {B : Nat} {w : World} {v : Value} {l : List Rq} (h : PartsN B w v l) : True := trivial
set_option maxHeartbeats 2000000 in
theorem parse_any (N : Nat) (s : Bs) (w : World) (hN : 310 ≤ N) (hs : s.length ≤ maxLen) (hR : Room w) (hF : ∀ l, readP N s = some l → s.length ≤ 300 → ∀ r ∈ l, Fit r) :
    Calls Tryz.prog 18 #[.string (Ba s)] w fun e w' => ∃ v er, e = .returned (.tuple #[v, .int .i64 er]) ∧ ParseR N w.heap.size s w' v er ∧ Below w.heap.size w w' := by
  have hsz := ba_size s
  by_cases h1 : 300 < s.length
  · have hI : (300 : Int) < ((Ba s).size : Int) := by omega
    have HE : Hid (parseE N s = ([], 2)) := parse_large h1
    clear h1 hsz hF
    generalize hy : Ba s = y at *
    clear hy
    go_enter Tryz.func18, Tryz.ntmps18
    go_wp2_with fail
    go_ret2
    exact ⟨_, _, rfl, ⟨by rw [HE.out], Or.inl ⟨by rw [HE.out]; decide, rfl⟩⟩, Below.refl _ _⟩
  · have hI : ¬ (300 : Int) < ((Ba s).size : Int) := by omega
    have H1 : Hid (¬ 300 < s.length) := h1
    have HRd : Hid (Calls Tryz.prog 31 #[.string (Ba s)] w fun e w' => Below w.heap.size w w' ∧
      ((∃ l v, readP N s = some l ∧ e = .returned (.tuple #[v, .bool true]) ∧ PartsN w.heap.size w' v l) ∨ (readP N s = none ∧ e = .returned (.tuple #[.slice none 0 0, .bool false])))) := readParts_any N s w (by omega) hN
    have HF : Hid (∀ l, readP N s = some l → ∀ r ∈ l, Fit r) := fun l h => hF l h (by omega)
    clear h1 hsz hF
    generalize hy : Ba s = y at *
    clear hy
    go_enter Tryz.func18, Tryz.ntmps18
    go_wp2_with fail
    refine Calls.mono HRd.out ?_
    rintro e w1 ⟨b1, ⟨l, v, hr, rfl, hp⟩ | ⟨hr, rfl⟩⟩
    · have HB1 : Hid (Below w.heap.size w w1) := b1
      have HP : Hid (PartsN w.heap.size w1 v l) := hp
      have HC : Hid (Calls Tryz.prog 20 #[v] w1 fun e w' => e = .returned (.int .i64 (chkI l)) ∧ Below w1.heap.size w1 w') := chk_any v l w1 hp.reqs (HF.out l hr) (hR.below b1)
      have hgd := hp.good
      have HRp : Hid (readP N s = some l) := hr
      clear b1 hp hr
      obtain ⟨pp, nn, cc, hv⟩ : ∃ p n c, v = .slice p n c := by
        rcases hgd with rfl | ⟨_, _, _, rfl⟩
        · exact ⟨_, _, _, rfl⟩
        · exact ⟨_, _, _, rfl⟩
      clear hgd
      by_cases hk : chkI l = 0
      · have HE : Hid (parseE N s = (l, 0)) := parse_ok H1.out HRp.out hk
        rw [hk] at HC
        clear hk
        subst hv
        go_wp2_with fail
        refine Calls.mono HC.out ?_
        rintro e w2 ⟨rfl, b2⟩
        have HB2 : Hid (Below w.heap.size w w2) := HB1.out.trans (b2.mono HB1.out.size)
        have HP2 : Hid (PartsN w.heap.size w2 (.slice pp nn cc) l) := by
          obtain ⟨L, e1, e2, e3⟩ := HP.out
          have g0 : w1.grownBy w2 none := ⟨b2.os, b2.tape, b2.output, b2.size, fun k hk _ => b2.block k hk⟩
          have nn0 : ∀ v : Value, v.ownBlock = none ∨ v.ownBlock ≠ none := fun v => by cases v.ownBlock <;> simp
          exact ⟨L, e1, fun p hp => World.ownsRow.kept (e2 p hp) g0 (nn0 _), World.ownsRow.kept e3 g0 (nn0 _)⟩
        clear b2
        go_wp2_with fail
        go_ret2
        exact ⟨_, _, rfl, ⟨by rw [HE.out], Or.inr ⟨by rw [HE.out], by rw [HE.out]; exact HP2.out⟩⟩, HB2.out⟩
      · have HE : Hid (parseE N s = ([], chkI l)) := parse_chk H1.out HRp.out hk
        have hkb : (chkI l != 0) = true := by simpa using hk
        have HK : Hid (chkI l ≠ 0) := hk
        clear hk
        generalize chkI l = ce at *
        subst hv
        go_wp2_with fail
        refine Calls.mono HC.out ?_
        rintro e w2 ⟨rfl, b2⟩
        have HB2 : Hid (Below w.heap.size w w2) := HB1.out.trans (b2.mono HB1.out.size)
        clear b2
        go_wp2_with fail
        go_ret2
        exact ⟨_, _, rfl, ⟨by rw [HE.out], Or.inl ⟨by rw [HE.out]; exact HK.out, rfl⟩⟩, HB2.out⟩
    · have HB1 : Hid (Below w.heap.size w w1) := b1
      have HE : Hid (parseE N s = ([], 3)) := parse_syntax H1.out hr
      clear b1 hr
      go_wp2_with fail
      go_ret2
      exact ⟨_, _, rfl, ⟨by rw [HE.out], Or.inl ⟨by rw [HE.out]; decide, rfl⟩⟩, HB1.out⟩
end Go.Proofs.YtgaopmdpcjcooaaGreatDoor
