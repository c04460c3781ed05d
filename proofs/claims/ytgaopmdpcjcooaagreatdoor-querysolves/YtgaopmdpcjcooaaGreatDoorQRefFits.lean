/- Contracts over this translation: the document's Has, Fits, QueryMatch. -/
import Derived.Test.YtgaopmdpcjcooaaGreatDoorQRefChk
import Derived.Test.YtgaopmdpcjcooaaGreatDoorQHolds
namespace Go.Proofs.YtgaopmdpcjcooaaGreatDoor
open Go.RowKit
set_option linter.unusedVariables false
set_option linter.unusedSimpArgs false
set_option maxHeartbeats 1000000 in
theorem has_of (v : Value) (l : List Bs) (s : Bs) (w : World) (hv : Strs w v l) :
    Calls Tryz.prog 41 #[v, .string (Ba s)] w fun e w' => e = .returned (.bool (decide (s ∈ l))) ∧ w' = w := by
  obtain ⟨p, c, rfl, hn, hcell⟩ := hv.open
  have HC : Hid (∀ k (hk : k < l.length), ∃ g o, p = some ⟨g, o, none⟩ ∧ l.length ≤ c ∧ w.cell? ⟨g, o + k, none⟩ = some (.string (Ba l[k]))) := fun k hk => by
    obtain ⟨g, o, h1, h2, h3⟩ := hcell k hk
    exact ⟨g, o, h1, h2, h3 w (Below.refl _ _)⟩
  have HT : Hid (∀ k (hk : k < l.length), s = l[k] → decide (s ∈ l) = true) := fun k hk h => by
    have : s ∈ l := by rw [h]; exact List.getElem_mem hk
    simp [this]
  have HF : Hid ((∀ k (hk : k < l.length), s ≠ l[k]) → decide (s ∈ l) = false) := fun h => by
    have : s ∉ l := fun hm => by
      obtain ⟨k, hk, he⟩ := List.getElem_of_mem hm
      exact h k hk he.symm
    simp [this]
  clear hcell hv
  generalize hr : decide (s ∈ l) = r at *
  clear hr
  unfold maxLen at hn
  go_enter Tryz.func41, Tryz.ntmps41
  go_wp2_with fail
  go_loop [9] (fun i => ∃ k : Nat, k ≤ l.length ∧ i = .int .i64 k ∧ ∀ j (hj : j < l.length), j < k → s ≠ l[j]) (fun i => l.length - (intOf i).toNat)
  case atStart => exact ⟨0, Nat.zero_le _, rfl, fun j _ h => absurd h (Nat.not_lt_zero _)⟩
  case round =>
    obtain ⟨k, hk, rfl, hall⟩ := hrel
    have HA : Hid (∀ j (hj : j < l.length), j < k → s ≠ l[j]) := hall
    clear hall
    by_cases hlt : k < l.length
    · obtain ⟨g, o, rfl, hlc, hc⟩ := HC.out k hlt
      have hb := ba_beq s l[k]
      by_cases hx : s = l[k]
      · have HX : Hid (r = true) := HT.out k hlt hx
        rw [decide_eq_true hx] at hb
        clear hx HA HF HT
        generalize Ba l[k] = y at *
        generalize Ba s = z at *
        go_wp2_with fail
        go_ret
        exact ⟨by rw [HX.out]; rfl, rfl⟩
      · have HX : Hid (s ≠ l[k]) := hx
        rw [decide_eq_false hx] at hb
        clear hx HF HT
        generalize Ba l[k] = y at *
        generalize Ba s = z at *
        go_wp2_with fail
        go_round
        case rel => exact ⟨k + 1, by omega, by go_num, (fun j hj h => by
          rcases Nat.lt_succ_iff_lt_or_eq.1 h with h | h
          · exact HA.out j hj h
          · subst h; exact HX.out)⟩
        case measure => simp [intOf]; omega
    · have HX : Hid (r = false) := HF.out (fun j hj => HA.out j hj (by omega))
      go_wp2_with fail
      go_ret
      exact ⟨by rw [HX.out]; rfl, rfl⟩
/-- what the last label with a key has -/
def lastS (ls : List Lb) (key : Bs) : Option Bs := (ls.reverse.find? fun x => decide (x.1 = key)).map (·.2)
theorem lastS_nil (key : Bs) : lastS [] key = none := rfl
theorem lastS_snoc (ls : List Lb) (x : Lb) (key : Bs) : lastS (ls ++ [x]) key = if x.1 = key then some x.2 else lastS ls key := by
  unfold lastS
  rw [List.reverse_append, List.reverse_singleton, List.singleton_append, List.find?_cons]
  by_cases h : x.1 = key
  · simp [h]
  · simp [h]
theorem lastS_take {ls : List Lb} {key : Bs} {j : Nat} (hj : j < ls.length) : lastS (ls.take (j + 1)) key = if ls[j].1 = key then some ls[j].2 else lastS (ls.take j) key := by
  rw [List.take_add_one, List.getElem?_eq_getElem hj]
  exact lastS_snoc _ _ _
theorem lastS_state : ∀ {ls : List Lb} {key : Bs}, ls.Pairwise (fun a b => a.1 ≠ b.1) → lastS ls key = stateB ls key
  | [], _, _ => rfl
  | x :: r, key, h => by
    rw [List.pairwise_cons] at h
    have ih := lastS_state (key := key) h.2
    unfold lastS stateB at ih ⊢
    rw [List.reverse_cons, List.find?_append, List.find?_cons]
    by_cases hx : x.1 = key
    · have : r.reverse.find? (fun y => decide (y.1 = key)) = none := by
        rw [List.find?_eq_none]
        intro y hy
        have := h.1 y (by simpa using hy)
        simp only [decide_eq_true_eq]
        intro e
        exact this (hx.trans e.symm)
      simp [this, hx]
    · rw [← List.head?_filter] at ih ⊢
      cases hq : r.reverse.find? (fun y => decide (y.1 = key)) with
      | none =>
        rw [← List.head?_filter] at hq
        rw [hq] at ih ⊢
        simpa [hx] using ih
      | some q =>
        rw [← List.head?_filter] at hq
        rw [hq] at ih ⊢
        simpa [hx] using ih
theorem labs_rising : ∀ {l : List Lb} {p : Option Bs}, labsI l p = 0 → l.Pairwise (fun a b => a.1 < b.1) ∧ ∀ q, p = some q → ∀ y ∈ l, q < y.1
  | [], _, _ => ⟨List.Pairwise.nil, fun q _ y hy => by simp at hy⟩
  | x :: r, p, h => by
    unfold labsI at h
    by_cases h1 : kI x.1 = 0
    · by_cases h2 : vI x.2 = 0
      · rw [if_neg (by simp [h1]), if_neg (by simp [h2])] at h
        by_cases h3 : above p x.1 = false
        · rw [if_pos h3] at h
          exact absurd h (by decide)
        · rw [if_neg h3] at h
          obtain ⟨i1, i2⟩ := labs_rising h
          refine ⟨List.pairwise_cons.2 ⟨fun y hy => i2 _ rfl y hy, i1⟩, fun q hq y hy => ?_⟩
          subst hq
          have hb : q < x.1 := (bless_iff _ _).1 (by simpa [above] using h3)
          rcases List.mem_cons.1 hy with rfl | hy
          · exact hb
          · exact List.lt_trans hb (i2 _ rfl y hy)
      · rw [if_neg (by simp [h1]), if_pos h2] at h
        exact absurd h h2
    · rw [if_pos h1] at h
      exact absurd h h1
theorem labels_apart {l : List Lb} (h : labelsI l = 0) : l.Pairwise (fun a b => a.1 ≠ b.1) := by
  unfold labelsI at h
  by_cases h10 : 10 < l.length
  · rw [if_pos h10] at h
    exact absurd h (by decide)
  · rw [if_neg h10] at h
    exact (labs_rising h).1.imp fun hab e => by rw [e] at hab; exact List.lt_irrefl _ hab
def amB (vs : List Bs) (o : Option Bs) : Bool := match o with | some v => decide (v ∈ vs) | none => false
theorem holds_1 (a : Bs) (vs : List Bs) (o : Option Bs) : holdsB (a, 1, vs) o = amB vs o := by cases o <;> rfl
theorem holds_2 (a : Bs) (vs : List Bs) (o : Option Bs) : holdsB (a, 2, vs) o = !amB vs o := by cases o <;> rfl
theorem holds_3 (a : Bs) (vs : List Bs) (o : Option Bs) : holdsB (a, 3, vs) o = o.isSome := by cases o <;> rfl
theorem holds_4 (a : Bs) (vs : List Bs) (o : Option Bs) : holdsB (a, 4, vs) o = !o.isSome := by cases o <;> rfl
/-- where the loop over labels stands -/
def FitS (ls : List Lb) (key : Bs) (vs : List Bs) (j : Nat) (x y : Value) : Prop := ∃ th am : Bool, x = .bool th ∧ y = .bool am ∧ th = (lastS (ls.take j) key).isSome ∧ am = amB vs (lastS (ls.take j) key)
theorem fitS_zero (ls : List Lb) (key : Bs) (vs : List Bs) : FitS ls key vs 0 (.bool false) (.bool false) := ⟨false, false, rfl, rfl, rfl, rfl⟩
theorem fitS_hit {ls : List Lb} {key : Bs} {vs : List Bs} {j : Nat} (hj : j < ls.length) (h : ls[j].1 = key) : FitS ls key vs (j + 1) (.bool true) (.bool (decide (ls[j].2 ∈ vs))) := by
  refine ⟨_, _, rfl, rfl, ?_, ?_⟩
  · rw [lastS_take hj, if_pos h]; rfl
  · rw [lastS_take hj, if_pos h]; rfl
theorem fitS_step {ls : List Lb} {key : Bs} {vs : List Bs} {j : Nat} {x y : Value} (hj : j < ls.length) (h : ls[j].1 ≠ key) (hf : FitS ls key vs j x y) : FitS ls key vs (j + 1) x y := by
  obtain ⟨th, am, h1, h2, h3, h4⟩ := hf
  refine ⟨th, am, h1, h2, ?_, ?_⟩
  · rw [lastS_take hj, if_neg h]; exact h3
  · rw [lastS_take hj, if_neg h]; exact h4
theorem fitS_end {ls : List Lb} {key : Bs} {vs : List Bs} {j : Nat} {x y : Value} (hj : ls.length ≤ j) (hp : ls.Pairwise (fun a b => a.1 ≠ b.1)) (hf : FitS ls key vs j x y) : ∃ th am : Bool, x = .bool th ∧ y = .bool am ∧ th = (stateB ls key).isSome ∧ am = amB vs (stateB ls key) := by
  obtain ⟨th, am, h1, h2, h3, h4⟩ := hf
  rw [List.take_of_length_le hj, lastS_state hp] at h3 h4
  exact ⟨th, am, h1, h2, h3, h4⟩
theorem match_no {l : List Rq} {ls : List Lb} {k : Nat} (hk : k < l.length) (h : holdsB l[k] (stateB ls l[k].1) = false) : matchB l ls = false := by
  unfold matchB
  rw [List.all_eq_false]
  exact ⟨l[k], List.getElem_mem hk, by rw [h]; simp⟩
theorem match_yes {l : List Rq} {ls : List Lb} (h : ∀ k (hk : k < l.length), holdsB l[k] (stateB ls l[k].1) = true) : matchB l ls = true := by
  unfold matchB
  rw [List.all_eq_true]
  intro x hx
  obtain ⟨k, hk, rfl⟩ := List.getElem_of_mem hx
  exact h k hk
set_option maxRecDepth 100000 in
set_option maxHeartbeats 8000000 in
theorem fitsR_any (v vl : Value) (l : List Rq) (ls : List Lb) (w : World) (hv : Reqs w v l) (hl : Labs w vl ls) (hkd : ∀ r ∈ l, r.2.1 = 1 ∨ r.2.1 = 2 ∨ r.2.1 = 3 ∨ r.2.1 = 4) (hpw : ls.Pairwise (fun a b => a.1 ≠ b.1)) :
    Calls Tryz.prog 44 #[v, vl] w fun e w' => e = .returned (.bool (matchB l ls)) ∧ Below w.heap.size w w' := by
  obtain ⟨p, c, rfl, hn, hcell⟩ := hv.open
  obtain ⟨p2, c2, rfl, hn2, hcell2⟩ := hl.open
  have HC : Hid (∀ k (hk : k < l.length), ∃ g o q d, p = some ⟨g, o, none⟩ ∧ l.length ≤ c ∧ ∀ w1, Below w.heap.size w w1 → w1.cell? ⟨g, o + k * 3, none⟩ = some (.string (Ba l[k].1)) ∧ w1.cell? ⟨g, o + k * 3 + 1, none⟩ = some (.int .i64 l[k].2.1) ∧ w1.cell? ⟨g, o + k * 3 + 2, none⟩ = some (.slice q l[k].2.2.length d) ∧ Strs w1 (.slice q l[k].2.2.length d) l[k].2.2) := hcell
  have HL : Hid (∀ k (hk : k < ls.length), ∃ g o, p2 = some ⟨g, o, none⟩ ∧ ls.length ≤ c2 ∧ ∀ w1, Below w.heap.size w w1 → ∀ j (hj : j < ls.length), w1.cell? ⟨g, o + j * 2, none⟩ = some (.string (Ba ls[j].1)) ∧ w1.cell? ⟨g, o + j * 2 + 1, none⟩ = some (.string (Ba ls[j].2))) := hcell2
  have HKd : Hid (∀ r ∈ l, r.2.1 = 1 ∨ r.2.1 = 2 ∨ r.2.1 = 3 ∨ r.2.1 = 4) := hkd
  have HPw : Hid (ls.Pairwise (fun a b => a.1 ≠ b.1)) := hpw
  have HNo : Hid (∀ k (hk : k < l.length), holdsB l[k] (stateB ls l[k].1) = false → matchB l ls = false) := fun k hk h => match_no hk h
  have HYes : Hid ((∀ k (hk : k < l.length), holdsB l[k] (stateB ls l[k].1) = true) → matchB l ls = true) := match_yes
  clear hcell hcell2 hv hl hkd hpw
  generalize matchB l ls = res at *
  unfold maxLen at hn hn2
  go_enter Tryz.func44, Tryz.ntmps44
  go_wp2_with fail
  go_loopw [13] (fun i wr => ∃ k : Nat, k ≤ l.length ∧ i = .int .i64 k ∧ (∀ j (hj : j < l.length), j < k → holdsB l[j] (stateB ls l[j].1) = true) ∧ Below w.heap.size w wr) (fun i _ => l.length - (intOf i).toNat)
  case atStart => exact ⟨0, Nat.zero_le _, rfl, fun j _ h => absurd h (Nat.not_lt_zero _), Below.refl _ _⟩
  case round =>
    obtain ⟨k, hk, rfl, hall, hbel⟩ := hrel
    have HA : Hid (∀ j (hj : j < l.length), j < k → holdsB l[j] (stateB ls l[j].1) = true) := hall
    have HB : Hid (Below w.heap.size w wr) := hbel
    clear hall hbel
    by_cases hlt : k < l.length
    · obtain ⟨g, o, q, d, rfl, hlc, hc0⟩ := HC.out k hlt
      obtain ⟨c1, c2', c3, c4⟩ := hc0 wr HB.out
      have HSt : Hid (Strs wr (.slice q l[k].2.2.length d) l[k].2.2) := c4
      have HNext : Hid (holdsB l[k] (stateB ls l[k].1) = true → ∀ j (hj : j < l.length), j < k + 1 → holdsB l[j] (stateB ls l[j].1) = true) := fun h j hj hjk => by
        rcases Nat.lt_succ_iff_lt_or_eq.1 hjk with hjk | rfl
        · exact HA.out j hj hjk
        · exact h
      have HRet : Hid (holdsB l[k] (stateB ls l[k].1) = false → res = false) := fun h => HNo.out k hlt h
      have hkd := HKd.out _ (List.getElem_mem hlt)
      clear hc0 c4
      generalize l[k] = x at c1 c2' c3 HSt HNext HRet hkd
      obtain ⟨xk, xd, xv⟩ := x
      dsimp only at c1 c2' c3 HSt HNext HRet hkd
      have HQ : Hid (∀ (w1 : World) (s : Bs), Below wr.heap.size wr w1 → Calls Tryz.prog 41 #[.slice q xv.length d, .string (Ba s)] w1 fun e w' => e = .returned (.bool (decide (s ∈ xv))) ∧ w1 = w') := fun w1 s hb => (has_of _ xv s w1 (HSt.out.below hb)).mono fun e w' h => ⟨h.1, h.2.symm⟩
      clear HSt
      generalize xv.length = nv at c3 HQ
      obtain ⟨wo, hwo⟩ : ∃ wo, wo = wr := ⟨_, rfl⟩
      subst hwo
      rcases hkd with rfl | rfl | rfl | rfl
      · skip
        have hb2 : Below wo.heap.size wo (wo.alloc (.cells #[.string (Ba xk), .int .i64 1, .slice q nv d] 35)) := (Below.refl _ _).alloc (Nat.le_refl _) _
        have HB2 : Hid (Below wo.heap.size wo (wo.alloc (.cells #[.string (Ba xk), .int .i64 1, .slice q nv d] 35))) := hb2
        have HLt : Hid (wo.heap.size < (wo.alloc (.cells #[.string (Ba xk), .int .i64 1, .slice q nv d] 35)).heap.size) := by show _ < _; simp
        have HBx : Hid (∀ w1, Below (wo.alloc (.cells #[.string (Ba xk), .int .i64 1, .slice q nv d] 35)).heap.size (wo.alloc (.cells #[.string (Ba xk), .int .i64 1, .slice q nv d] 35)) w1 → w1.cell? ⟨wo.heap.size, 0, none⟩ = some (.string (Ba xk)) ∧ w1.cell? ⟨wo.heap.size, 1, none⟩ = some (.int .i64 1) ∧ w1.cell? ⟨wo.heap.size, 2, none⟩ = some (.slice q nv d)) := fun w1 h => box3 h
        clear hb2
        go_wp2_with fail
        go_loopw [7, 8, 19] (fun x y i wj => ∃ j : Nat, j ≤ ls.length ∧ i = .int .i64 j ∧ FitS ls xk xv j x y ∧ Below (wo.alloc (.cells #[.string (Ba xk), .int .i64 1, .slice q nv d] 35)).heap.size (wo.alloc (.cells #[.string (Ba xk), .int .i64 1, .slice q nv d] 35)) wj) (fun _ _ i _ => ls.length - (intOf i).toNat)
        case atStart => exact ⟨0, Nat.zero_le _, rfl, fitS_zero _ _ _, Below.refl _ _⟩
        case round =>
          obtain ⟨j, hj, rfl, hfs, hbj⟩ := hrel
          have HFs : Hid (_) := hfs
          have HBj : Hid (_) := hbj
          have HBo : Hid (Below wo.heap.size wo wr) := HB2.out.trans (hbj.mono HB2.out.size)
          have HBw : Hid (Below w.heap.size w wr) := HB.out.trans (HBo.out.mono HB.out.size)
          obtain ⟨k0, k1, k2⟩ := HBx.out wr hbj
          clear hfs hbj
          by_cases hlj : j < ls.length
          · obtain ⟨g2, o2, rfl, hlc2, hd0⟩ := HL.out j hlj
            obtain ⟨d1, d2⟩ := hd0 wr HBw.out j hlj
            have hb := ba_beq ls[j].1 xk
            have hA : Below wr.heap.size wr (wr.alloc (.cells #[.string (Ba ls[j].1), .string (Ba ls[j].2)] 31)) := (Below.refl _ _).alloc (Nat.le_refl _) _
            have hlt2 : wo.heap.size < wr.heap.size := by have := HLt.out; have := HBj.out.size; omega
            have K0 := hA.cell (p := ⟨wo.heap.size, 0, none⟩) hlt2
            have K2 := hA.cell (p := ⟨wo.heap.size, 2, none⟩) hlt2
            rw [k0] at K0
            rw [k2] at K2
            have HA2 : Hid (Below (wo.alloc (.cells #[.string (Ba xk), .int .i64 1, .slice q nv d] 35)).heap.size (wo.alloc (.cells #[.string (Ba xk), .int .i64 1, .slice q nv d] 35)) (wr.alloc (.cells #[.string (Ba ls[j].1), .string (Ba ls[j].2)] 31))) := HBj.out.trans (hA.mono HBj.out.size)
            have HAo : Hid (Below wo.heap.size wo (wr.alloc (.cells #[.string (Ba ls[j].1), .string (Ba ls[j].2)] 31))) := HBo.out.trans (hA.mono HBo.out.size)
            have HCall : Hid (Calls Tryz.prog 41 #[.slice q nv d, .string (Ba ls[j].2)] (wr.alloc (.cells #[.string (Ba ls[j].1), .string (Ba ls[j].2)] 31)) fun e w' => e = .returned (.bool (decide (ls[j].2 ∈ xv))) ∧ (wr.alloc (.cells #[.string (Ba ls[j].1), .string (Ba ls[j].2)] 31)) = w') := HQ.out _ _ HAo.out
            clear hd0 hA hlt2 k0 k1 k2
            by_cases hx : ls[j].1 = xk
            · have HF2 : Hid (FitS ls xk xv (j + 1) (.bool true) (.bool (decide (ls[j].2 ∈ xv)))) := fitS_hit hlj hx
              rw [decide_eq_true hx] at hb
              clear hx HFs
              generalize decide (ls[j].2 ∈ xv) = dm at *
              generalize Ba ls[j].1 = y1 at *
              generalize Ba ls[j].2 = y2 at *
              generalize Ba xk = y3 at *
              go_wp2_with (go_at_call 41; refine HCall.out.mono ?_; rintro e w' ⟨rfl, rfl⟩)
              go_roundw
              case rel => exact ⟨j + 1, by omega, by go_num, HF2.out, HA2.out⟩
              case measure => simp [intOf]; omega
            · have HF2 : Hid (_) := fitS_step hlj hx HFs.out
              rw [decide_eq_false hx] at hb
              clear hx HFs HCall
              generalize Ba ls[j].1 = y1 at *
              generalize Ba ls[j].2 = y2 at *
              generalize Ba xk = y3 at *
              go_wp2_with fail
              go_roundw
              case rel => exact ⟨j + 1, by omega, by go_num, HF2.out, HA2.out⟩
              case measure => simp [intOf]; omega
          · obtain ⟨th, am, rfl, rfl, h1, h2⟩ := fitS_end (Nat.le_of_not_lt hlj) HPw.out HFs.out
            clear HFs
            cases am with
            | true =>
              have HH : Hid (holdsB (xk, 1, xv) (stateB ls xk) = true) := by show _ = _; rw [holds_1, ← h2]
              clear h1 h2
              go_wp2_with fail
              go_roundw
              case rel => exact ⟨k + 1, by omega, by go_num, HNext.out HH.out, HBw.out⟩
              case measure => simp [intOf]; omega
            | false =>
              have HH : Hid (holdsB (xk, 1, xv) (stateB ls xk) = false) := by show _ = _; rw [holds_1, ← h2]
              clear h1 h2
              go_wp2_with fail
              go_ret
              exact ⟨by rw [HRet.out HH.out]; rfl, HBw.out⟩
      · skip
        have hb2 : Below wo.heap.size wo (wo.alloc (.cells #[.string (Ba xk), .int .i64 2, .slice q nv d] 35)) := (Below.refl _ _).alloc (Nat.le_refl _) _
        have HB2 : Hid (Below wo.heap.size wo (wo.alloc (.cells #[.string (Ba xk), .int .i64 2, .slice q nv d] 35))) := hb2
        have HLt : Hid (wo.heap.size < (wo.alloc (.cells #[.string (Ba xk), .int .i64 2, .slice q nv d] 35)).heap.size) := by show _ < _; simp
        have HBx : Hid (∀ w1, Below (wo.alloc (.cells #[.string (Ba xk), .int .i64 2, .slice q nv d] 35)).heap.size (wo.alloc (.cells #[.string (Ba xk), .int .i64 2, .slice q nv d] 35)) w1 → w1.cell? ⟨wo.heap.size, 0, none⟩ = some (.string (Ba xk)) ∧ w1.cell? ⟨wo.heap.size, 1, none⟩ = some (.int .i64 2) ∧ w1.cell? ⟨wo.heap.size, 2, none⟩ = some (.slice q nv d)) := fun w1 h => box3 h
        clear hb2
        go_wp2_with fail
        go_loopw [7, 8, 19] (fun x y i wj => ∃ j : Nat, j ≤ ls.length ∧ i = .int .i64 j ∧ FitS ls xk xv j x y ∧ Below (wo.alloc (.cells #[.string (Ba xk), .int .i64 2, .slice q nv d] 35)).heap.size (wo.alloc (.cells #[.string (Ba xk), .int .i64 2, .slice q nv d] 35)) wj) (fun _ _ i _ => ls.length - (intOf i).toNat)
        case atStart => exact ⟨0, Nat.zero_le _, rfl, fitS_zero _ _ _, Below.refl _ _⟩
        case round =>
          obtain ⟨j, hj, rfl, hfs, hbj⟩ := hrel
          have HFs : Hid (_) := hfs
          have HBj : Hid (_) := hbj
          have HBo : Hid (Below wo.heap.size wo wr) := HB2.out.trans (hbj.mono HB2.out.size)
          have HBw : Hid (Below w.heap.size w wr) := HB.out.trans (HBo.out.mono HB.out.size)
          obtain ⟨k0, k1, k2⟩ := HBx.out wr hbj
          clear hfs hbj
          by_cases hlj : j < ls.length
          · obtain ⟨g2, o2, rfl, hlc2, hd0⟩ := HL.out j hlj
            obtain ⟨d1, d2⟩ := hd0 wr HBw.out j hlj
            have hb := ba_beq ls[j].1 xk
            have hA : Below wr.heap.size wr (wr.alloc (.cells #[.string (Ba ls[j].1), .string (Ba ls[j].2)] 31)) := (Below.refl _ _).alloc (Nat.le_refl _) _
            have hlt2 : wo.heap.size < wr.heap.size := by have := HLt.out; have := HBj.out.size; omega
            have K0 := hA.cell (p := ⟨wo.heap.size, 0, none⟩) hlt2
            have K2 := hA.cell (p := ⟨wo.heap.size, 2, none⟩) hlt2
            rw [k0] at K0
            rw [k2] at K2
            have HA2 : Hid (Below (wo.alloc (.cells #[.string (Ba xk), .int .i64 2, .slice q nv d] 35)).heap.size (wo.alloc (.cells #[.string (Ba xk), .int .i64 2, .slice q nv d] 35)) (wr.alloc (.cells #[.string (Ba ls[j].1), .string (Ba ls[j].2)] 31))) := HBj.out.trans (hA.mono HBj.out.size)
            have HAo : Hid (Below wo.heap.size wo (wr.alloc (.cells #[.string (Ba ls[j].1), .string (Ba ls[j].2)] 31))) := HBo.out.trans (hA.mono HBo.out.size)
            have HCall : Hid (Calls Tryz.prog 41 #[.slice q nv d, .string (Ba ls[j].2)] (wr.alloc (.cells #[.string (Ba ls[j].1), .string (Ba ls[j].2)] 31)) fun e w' => e = .returned (.bool (decide (ls[j].2 ∈ xv))) ∧ (wr.alloc (.cells #[.string (Ba ls[j].1), .string (Ba ls[j].2)] 31)) = w') := HQ.out _ _ HAo.out
            clear hd0 hA hlt2 k0 k1 k2
            by_cases hx : ls[j].1 = xk
            · have HF2 : Hid (FitS ls xk xv (j + 1) (.bool true) (.bool (decide (ls[j].2 ∈ xv)))) := fitS_hit hlj hx
              rw [decide_eq_true hx] at hb
              clear hx HFs
              generalize decide (ls[j].2 ∈ xv) = dm at *
              generalize Ba ls[j].1 = y1 at *
              generalize Ba ls[j].2 = y2 at *
              generalize Ba xk = y3 at *
              go_wp2_with (go_at_call 41; refine HCall.out.mono ?_; rintro e w' ⟨rfl, rfl⟩)
              go_roundw
              case rel => exact ⟨j + 1, by omega, by go_num, HF2.out, HA2.out⟩
              case measure => simp [intOf]; omega
            · have HF2 : Hid (_) := fitS_step hlj hx HFs.out
              rw [decide_eq_false hx] at hb
              clear hx HFs HCall
              generalize Ba ls[j].1 = y1 at *
              generalize Ba ls[j].2 = y2 at *
              generalize Ba xk = y3 at *
              go_wp2_with fail
              go_roundw
              case rel => exact ⟨j + 1, by omega, by go_num, HF2.out, HA2.out⟩
              case measure => simp [intOf]; omega
          · obtain ⟨th, am, rfl, rfl, h1, h2⟩ := fitS_end (Nat.le_of_not_lt hlj) HPw.out HFs.out
            clear HFs
            cases am with
            | true =>
              have HH : Hid (holdsB (xk, 2, xv) (stateB ls xk) = false) := by show _ = _; rw [holds_2, ← h2]; rfl
              clear h1 h2
              go_wp2_with fail
              go_ret
              exact ⟨by rw [HRet.out HH.out]; rfl, HBw.out⟩
            | false =>
              have HH : Hid (holdsB (xk, 2, xv) (stateB ls xk) = true) := by show _ = _; rw [holds_2, ← h2]; rfl
              clear h1 h2
              go_wp2_with fail
              go_roundw
              case rel => exact ⟨k + 1, by omega, by go_num, HNext.out HH.out, HBw.out⟩
              case measure => simp [intOf]; omega
      · skip
        have hb2 : Below wo.heap.size wo (wo.alloc (.cells #[.string (Ba xk), .int .i64 3, .slice q nv d] 35)) := (Below.refl _ _).alloc (Nat.le_refl _) _
        have HB2 : Hid (Below wo.heap.size wo (wo.alloc (.cells #[.string (Ba xk), .int .i64 3, .slice q nv d] 35))) := hb2
        have HLt : Hid (wo.heap.size < (wo.alloc (.cells #[.string (Ba xk), .int .i64 3, .slice q nv d] 35)).heap.size) := by show _ < _; simp
        have HBx : Hid (∀ w1, Below (wo.alloc (.cells #[.string (Ba xk), .int .i64 3, .slice q nv d] 35)).heap.size (wo.alloc (.cells #[.string (Ba xk), .int .i64 3, .slice q nv d] 35)) w1 → w1.cell? ⟨wo.heap.size, 0, none⟩ = some (.string (Ba xk)) ∧ w1.cell? ⟨wo.heap.size, 1, none⟩ = some (.int .i64 3) ∧ w1.cell? ⟨wo.heap.size, 2, none⟩ = some (.slice q nv d)) := fun w1 h => box3 h
        clear hb2
        go_wp2_with fail
        go_loopw [7, 8, 19] (fun x y i wj => ∃ j : Nat, j ≤ ls.length ∧ i = .int .i64 j ∧ FitS ls xk xv j x y ∧ Below (wo.alloc (.cells #[.string (Ba xk), .int .i64 3, .slice q nv d] 35)).heap.size (wo.alloc (.cells #[.string (Ba xk), .int .i64 3, .slice q nv d] 35)) wj) (fun _ _ i _ => ls.length - (intOf i).toNat)
        case atStart => exact ⟨0, Nat.zero_le _, rfl, fitS_zero _ _ _, Below.refl _ _⟩
        case round =>
          obtain ⟨j, hj, rfl, hfs, hbj⟩ := hrel
          have HFs : Hid (_) := hfs
          have HBj : Hid (_) := hbj
          have HBo : Hid (Below wo.heap.size wo wr) := HB2.out.trans (hbj.mono HB2.out.size)
          have HBw : Hid (Below w.heap.size w wr) := HB.out.trans (HBo.out.mono HB.out.size)
          obtain ⟨k0, k1, k2⟩ := HBx.out wr hbj
          clear hfs hbj
          by_cases hlj : j < ls.length
          · obtain ⟨g2, o2, rfl, hlc2, hd0⟩ := HL.out j hlj
            obtain ⟨d1, d2⟩ := hd0 wr HBw.out j hlj
            have hb := ba_beq ls[j].1 xk
            have hA : Below wr.heap.size wr (wr.alloc (.cells #[.string (Ba ls[j].1), .string (Ba ls[j].2)] 31)) := (Below.refl _ _).alloc (Nat.le_refl _) _
            have hlt2 : wo.heap.size < wr.heap.size := by have := HLt.out; have := HBj.out.size; omega
            have K0 := hA.cell (p := ⟨wo.heap.size, 0, none⟩) hlt2
            have K2 := hA.cell (p := ⟨wo.heap.size, 2, none⟩) hlt2
            rw [k0] at K0
            rw [k2] at K2
            have HA2 : Hid (Below (wo.alloc (.cells #[.string (Ba xk), .int .i64 3, .slice q nv d] 35)).heap.size (wo.alloc (.cells #[.string (Ba xk), .int .i64 3, .slice q nv d] 35)) (wr.alloc (.cells #[.string (Ba ls[j].1), .string (Ba ls[j].2)] 31))) := HBj.out.trans (hA.mono HBj.out.size)
            have HAo : Hid (Below wo.heap.size wo (wr.alloc (.cells #[.string (Ba ls[j].1), .string (Ba ls[j].2)] 31))) := HBo.out.trans (hA.mono HBo.out.size)
            have HCall : Hid (Calls Tryz.prog 41 #[.slice q nv d, .string (Ba ls[j].2)] (wr.alloc (.cells #[.string (Ba ls[j].1), .string (Ba ls[j].2)] 31)) fun e w' => e = .returned (.bool (decide (ls[j].2 ∈ xv))) ∧ (wr.alloc (.cells #[.string (Ba ls[j].1), .string (Ba ls[j].2)] 31)) = w') := HQ.out _ _ HAo.out
            clear hd0 hA hlt2 k0 k1 k2
            by_cases hx : ls[j].1 = xk
            · have HF2 : Hid (FitS ls xk xv (j + 1) (.bool true) (.bool (decide (ls[j].2 ∈ xv)))) := fitS_hit hlj hx
              rw [decide_eq_true hx] at hb
              clear hx HFs
              generalize decide (ls[j].2 ∈ xv) = dm at *
              generalize Ba ls[j].1 = y1 at *
              generalize Ba ls[j].2 = y2 at *
              generalize Ba xk = y3 at *
              go_wp2_with (go_at_call 41; refine HCall.out.mono ?_; rintro e w' ⟨rfl, rfl⟩)
              go_roundw
              case rel => exact ⟨j + 1, by omega, by go_num, HF2.out, HA2.out⟩
              case measure => simp [intOf]; omega
            · have HF2 : Hid (_) := fitS_step hlj hx HFs.out
              rw [decide_eq_false hx] at hb
              clear hx HFs HCall
              generalize Ba ls[j].1 = y1 at *
              generalize Ba ls[j].2 = y2 at *
              generalize Ba xk = y3 at *
              go_wp2_with fail
              go_roundw
              case rel => exact ⟨j + 1, by omega, by go_num, HF2.out, HA2.out⟩
              case measure => simp [intOf]; omega
          · obtain ⟨th, am, rfl, rfl, h1, h2⟩ := fitS_end (Nat.le_of_not_lt hlj) HPw.out HFs.out
            clear HFs
            cases th with
            | true =>
              have HH : Hid (holdsB (xk, 3, xv) (stateB ls xk) = true) := by show _ = _; rw [holds_3, ← h1]
              clear h1 h2
              go_wp2_with fail
              go_roundw
              case rel => exact ⟨k + 1, by omega, by go_num, HNext.out HH.out, HBw.out⟩
              case measure => simp [intOf]; omega
            | false =>
              have HH : Hid (holdsB (xk, 3, xv) (stateB ls xk) = false) := by show _ = _; rw [holds_3, ← h1]
              clear h1 h2
              go_wp2_with fail
              go_ret
              exact ⟨by rw [HRet.out HH.out]; rfl, HBw.out⟩
      · skip
        have hb2 : Below wo.heap.size wo (wo.alloc (.cells #[.string (Ba xk), .int .i64 4, .slice q nv d] 35)) := (Below.refl _ _).alloc (Nat.le_refl _) _
        have HB2 : Hid (Below wo.heap.size wo (wo.alloc (.cells #[.string (Ba xk), .int .i64 4, .slice q nv d] 35))) := hb2
        have HLt : Hid (wo.heap.size < (wo.alloc (.cells #[.string (Ba xk), .int .i64 4, .slice q nv d] 35)).heap.size) := by show _ < _; simp
        have HBx : Hid (∀ w1, Below (wo.alloc (.cells #[.string (Ba xk), .int .i64 4, .slice q nv d] 35)).heap.size (wo.alloc (.cells #[.string (Ba xk), .int .i64 4, .slice q nv d] 35)) w1 → w1.cell? ⟨wo.heap.size, 0, none⟩ = some (.string (Ba xk)) ∧ w1.cell? ⟨wo.heap.size, 1, none⟩ = some (.int .i64 4) ∧ w1.cell? ⟨wo.heap.size, 2, none⟩ = some (.slice q nv d)) := fun w1 h => box3 h
        clear hb2
        go_wp2_with fail
        go_loopw [7, 8, 19] (fun x y i wj => ∃ j : Nat, j ≤ ls.length ∧ i = .int .i64 j ∧ FitS ls xk xv j x y ∧ Below (wo.alloc (.cells #[.string (Ba xk), .int .i64 4, .slice q nv d] 35)).heap.size (wo.alloc (.cells #[.string (Ba xk), .int .i64 4, .slice q nv d] 35)) wj) (fun _ _ i _ => ls.length - (intOf i).toNat)
        case atStart => exact ⟨0, Nat.zero_le _, rfl, fitS_zero _ _ _, Below.refl _ _⟩
        case round =>
          obtain ⟨j, hj, rfl, hfs, hbj⟩ := hrel
          have HFs : Hid (_) := hfs
          have HBj : Hid (_) := hbj
          have HBo : Hid (Below wo.heap.size wo wr) := HB2.out.trans (hbj.mono HB2.out.size)
          have HBw : Hid (Below w.heap.size w wr) := HB.out.trans (HBo.out.mono HB.out.size)
          obtain ⟨k0, k1, k2⟩ := HBx.out wr hbj
          clear hfs hbj
          by_cases hlj : j < ls.length
          · obtain ⟨g2, o2, rfl, hlc2, hd0⟩ := HL.out j hlj
            obtain ⟨d1, d2⟩ := hd0 wr HBw.out j hlj
            have hb := ba_beq ls[j].1 xk
            have hA : Below wr.heap.size wr (wr.alloc (.cells #[.string (Ba ls[j].1), .string (Ba ls[j].2)] 31)) := (Below.refl _ _).alloc (Nat.le_refl _) _
            have hlt2 : wo.heap.size < wr.heap.size := by have := HLt.out; have := HBj.out.size; omega
            have K0 := hA.cell (p := ⟨wo.heap.size, 0, none⟩) hlt2
            have K2 := hA.cell (p := ⟨wo.heap.size, 2, none⟩) hlt2
            rw [k0] at K0
            rw [k2] at K2
            have HA2 : Hid (Below (wo.alloc (.cells #[.string (Ba xk), .int .i64 4, .slice q nv d] 35)).heap.size (wo.alloc (.cells #[.string (Ba xk), .int .i64 4, .slice q nv d] 35)) (wr.alloc (.cells #[.string (Ba ls[j].1), .string (Ba ls[j].2)] 31))) := HBj.out.trans (hA.mono HBj.out.size)
            have HAo : Hid (Below wo.heap.size wo (wr.alloc (.cells #[.string (Ba ls[j].1), .string (Ba ls[j].2)] 31))) := HBo.out.trans (hA.mono HBo.out.size)
            have HCall : Hid (Calls Tryz.prog 41 #[.slice q nv d, .string (Ba ls[j].2)] (wr.alloc (.cells #[.string (Ba ls[j].1), .string (Ba ls[j].2)] 31)) fun e w' => e = .returned (.bool (decide (ls[j].2 ∈ xv))) ∧ (wr.alloc (.cells #[.string (Ba ls[j].1), .string (Ba ls[j].2)] 31)) = w') := HQ.out _ _ HAo.out
            clear hd0 hA hlt2 k0 k1 k2
            by_cases hx : ls[j].1 = xk
            · have HF2 : Hid (FitS ls xk xv (j + 1) (.bool true) (.bool (decide (ls[j].2 ∈ xv)))) := fitS_hit hlj hx
              rw [decide_eq_true hx] at hb
              clear hx HFs
              generalize decide (ls[j].2 ∈ xv) = dm at *
              generalize Ba ls[j].1 = y1 at *
              generalize Ba ls[j].2 = y2 at *
              generalize Ba xk = y3 at *
              go_wp2_with (go_at_call 41; refine HCall.out.mono ?_; rintro e w' ⟨rfl, rfl⟩)
              go_roundw
              case rel => exact ⟨j + 1, by omega, by go_num, HF2.out, HA2.out⟩
              case measure => simp [intOf]; omega
            · have HF2 : Hid (_) := fitS_step hlj hx HFs.out
              rw [decide_eq_false hx] at hb
              clear hx HFs HCall
              generalize Ba ls[j].1 = y1 at *
              generalize Ba ls[j].2 = y2 at *
              generalize Ba xk = y3 at *
              go_wp2_with fail
              go_roundw
              case rel => exact ⟨j + 1, by omega, by go_num, HF2.out, HA2.out⟩
              case measure => simp [intOf]; omega
          · obtain ⟨th, am, rfl, rfl, h1, h2⟩ := fitS_end (Nat.le_of_not_lt hlj) HPw.out HFs.out
            clear HFs
            cases th with
            | true =>
              have HH : Hid (holdsB (xk, 4, xv) (stateB ls xk) = false) := by show _ = _; rw [holds_4, ← h1]; rfl
              clear h1 h2
              go_wp2_with fail
              go_ret
              exact ⟨by rw [HRet.out HH.out]; rfl, HBw.out⟩
            | false =>
              have HH : Hid (holdsB (xk, 4, xv) (stateB ls xk) = true) := by show _ = _; rw [holds_4, ← h1]; rfl
              clear h1 h2
              go_wp2_with fail
              go_roundw
              case rel => exact ⟨k + 1, by omega, by go_num, HNext.out HH.out, HBw.out⟩
              case measure => simp [intOf]; omega
    · have HX : Hid (res = true) := HYes.out (fun j hj => HA.out j hj (by omega))
      go_wp2_with fail
      go_ret
      exact ⟨by rw [HX.out]; rfl, HB.out⟩
end Go.Proofs.YtgaopmdpcjcooaaGreatDoor
