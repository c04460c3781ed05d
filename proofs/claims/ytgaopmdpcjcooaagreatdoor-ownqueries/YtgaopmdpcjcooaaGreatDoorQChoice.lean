/- Contracts over this translation: slices.Collect and Sorted over slices.Values; query.choices. -/
import Derived.Test.YtgaopmdpcjcooaaGreatDoorQIter
namespace Go.Proofs.YtgaopmdpcjcooaaGreatDoor
open Go.RowKit Go.Shelf
attribute [local go_sem] Oper.semAt_some
set_option linter.unusedVariables false
set_option linter.unusedSimpArgs false
set_option maxHeartbeats 1000000 in
theorem collect_any (Bs0 : Nat) (zs : List Bs) (hz : zs.length ≤ 1000000) (w : World) (Sp : List Bs → Prop)
    (hseq : SeqStopsK Fence.wide 4 Tryz.prog 87 #[.pointer (some ⟨Bs0, 0, none⟩)] (fun x : Bs => #[Value.string (Ba x)]) (Below w.heap.size) (fun ys => ys = zs) Sp zs.length w) :
    Calls Tryz.prog 86 #[.func (.func 87) #[] #[.pointer (some ⟨Bs0, 0, none⟩)]] w fun e W' => ∃ v, e = .returned v ∧ OwnN w.heap.size W' v zs ∧ Below w.heap.size w W' := by
  refine (callsIn_wide (n := 6)).1 ?_
  have hf : Fence.wide.fn 86 := trivial
  have hf2 : Fence.wide.fn 115 := trivial
  have hf3 : Fence.wide.fn 87 := trivial
  refine callsIn_of_wp Tryz.func86 rfl hf ?_ rfl
  simp only [Tryz.ntmps86, List.size_toArray, List.length_cons, List.length_nil, Nat.reduceAdd, Nat.reduceSub, Array.replicate_succ, Array.replicate_zero, List.push_toArray, List.append_toArray, List.nil_append, List.cons_append]
  gi_wp2_with (gi_at_call 115; refine (appendSeq_in Fence.wide 5 hf2 rfl (by omega) hf3 Bs0 zs hz _ Sp hseq).mono ?_; rintro e w' ⟨v, rfl, hS, hb⟩)
  go_ret
  exact ⟨v, rfl, hS, hb⟩
set_option maxHeartbeats 1000000 in
theorem sorted_any (Bs0 : Nat) (zs : List Bs) (hz : zs.length ≤ 100000) (w : World) (Sp : List Bs → Prop)
    (hseq : SeqStopsK Fence.wide 4 Tryz.prog 87 #[.pointer (some ⟨Bs0, 0, none⟩)] (fun x : Bs => #[Value.string (Ba x)]) (Below w.heap.size) (fun ys => ys = zs) Sp zs.length w) :
    Calls Tryz.prog 64 #[.func (.func 87) #[] #[.pointer (some ⟨Bs0, 0, none⟩)]] w fun e W' => ∃ v, e = .returned v ∧ Strs W' v (sortB zs) ∧ Below w.heap.size w W' := by
  have HCo : Hid (Calls Tryz.prog 86 #[.func (.func 87) #[] #[.pointer (some ⟨Bs0, 0, none⟩)]] w fun e W' => ∃ v, e = .returned v ∧ OwnN w.heap.size W' v zs ∧ Below w.heap.size w W') := collect_any Bs0 zs (by omega) w Sp hseq
  clear hseq
  go_enter Tryz.func64, Tryz.ntmps64
  go_wp2_with fail
  refine Calls.mono HCo.out ?_
  rintro e w1 ⟨v, rfl, h1, b1⟩
  have HB1 : Hid (Below w.heap.size w w1) := b1
  have HS : Hid (Calls Tryz.prog 61 #[v] w1 fun e w' => e = .returned (.tuple #[]) ∧ HoldsL w.heap.size w' v (sortB zs) ∧ Below w.heap.size w1 w') := sortN_any h1.holds b1.size hz
  clear h1 b1
  go_wp2_with fail
  refine Calls.mono HS.out ?_
  rintro e w2 ⟨rfl, h2, b2⟩
  have HB2 : Hid (Below w.heap.size w w2) := HB1.out.trans b2
  have HSt : Hid (Strs w2 v (sortB zs)) := h2.strs
  clear h2 b2
  go_wp2_with fail
  go_ret
  exact ⟨v, rfl, HSt.out, HB2.out⟩
theorem values_any (a : Option Addr) (len cap : Nat) (w : World) :
    Calls Tryz.prog 65 #[.slice a len cap] w fun e w' => e = .returned (.func (.func 87) #[] #[.pointer (some ⟨w.heap.size, 0, none⟩)]) ∧ w' = w.alloc (.cells #[.slice a len cap] 33) :=
  (callsIn_wide (n := 2)).1 (vals_in Fence.wide 2 trivial rfl a len cap w)
/-- Sorted over Values, of a list that lies in memory -/
theorem sorted_vals (p : Option Addr) (c : Nat) (zs : List Bs) (w : World) (hs : Strs w (.slice p zs.length c) zs) (hz : zs.length ≤ 100000) :
    Calls Tryz.prog 64 #[.func (.func 87) #[] #[.pointer (some ⟨w.heap.size, 0, none⟩)]] (w.alloc (.cells #[.slice p zs.length c] 33)) fun e W' => ∃ v, e = .returned v ∧ Strs W' v (sortB zs) ∧ Below w.heap.size w W' := by
  have hb : Below w.heap.size w (w.alloc (.cells #[.slice p zs.length c] 33)) := (Below.refl _ _).alloc (Nat.le_refl _) _
  refine (sorted_any w.heap.size zs hz _ (fun pre => pre <+: zs) ?_).mono ?_
  · exact vals_stops Fence.wide 4 trivial rfl (by omega) w.heap.size _ (.slice p zs.length c) zs (by omega) _ w (by simp) (Nat.le_refl _) (box1 (Below.refl _ _)) (by simp) hb hs
  · rintro e w2 ⟨v, rfl, h, b⟩
    exact ⟨v, rfl, h, hb.trans (b.mono hb.size)⟩
def choicesA (b : Nat) (ab : List Rq) : List Bs :=
  match ab.find? fun r => decide (r.2.1 = 1) with
  | some r => sortB r.2.2
  | none => madeP (b + barredP ab)
theorem choicesA_zero (ab : List Rq) : choicesA 0 ab = choicesP ab := by
  unfold choicesA choicesP
  rw [Nat.zero_add]
  rfl
theorem choicesA_hit {b : Nat} {ab : List Rq} {k : Nat} (hk : k < ab.length) (h : ab[k].2.1 = 1) : choicesA b (ab.drop k) = sortB ab[k].2.2 := by
  unfold choicesA
  rw [List.drop_eq_getElem_cons hk, List.find?_cons_of_pos (by simpa using h)]
theorem choicesA_step {b : Nat} {ab : List Rq} {k : Nat} (hk : k < ab.length) (h : ¬ ab[k].2.1 = 1) : choicesA b (ab.drop k) = choicesA (b + ab[k].2.2.length) (ab.drop (k + 1)) := by
  unfold choicesA
  rw [List.drop_eq_getElem_cons hk, List.find?_cons_of_neg (by simpa using h)]
  have e : barredP (ab[k] :: ab.drop (k + 1)) = ab[k].2.2.length + barredP (ab.drop (k + 1)) := by
    unfold barredP
    rw [List.map_cons, List.sum_cons]
  rw [e, ← Nat.add_assoc]
theorem choicesA_end {b : Nat} {ab : List Rq} {k : Nat} (hk : ab.length ≤ k) : choicesA b (ab.drop k) = madeP b := by
  rw [List.drop_eq_nil_of_le hk]
  rfl
set_option maxRecDepth 100000 in
set_option maxHeartbeats 4000000 in
theorem choices_any (v : Value) (ab : List Rq) (w : World) (hv : Reqs w v ab) (hvl : ∀ r ∈ ab, r.2.2.length ≤ 8) (hl : ab.length ≤ 9) :
    Calls Tryz.prog 37 #[v] w fun e w' => ∃ u, e = .returned u ∧ Strs w' u (choicesP ab) ∧ Below w.heap.size w w' := by
  obtain ⟨p, c, rfl, hn, hcell⟩ := hv.open
  have HC : Hid (∀ k (hk : k < ab.length), ∃ g o q d, p = some ⟨g, o, none⟩ ∧ ab.length ≤ c ∧ ∀ w1, Below w.heap.size w w1 → w1.cell? ⟨g, o + k * 3, none⟩ = some (.string (Ba ab[k].1)) ∧ w1.cell? ⟨g, o + k * 3 + 1, none⟩ = some (.int .i64 ab[k].2.1) ∧ w1.cell? ⟨g, o + k * 3 + 2, none⟩ = some (.slice q ab[k].2.2.length d) ∧ Strs w1 (.slice q ab[k].2.2.length d) ab[k].2.2) := hcell
  have HV : Hid (∀ k (hk : k < ab.length), ab[k].2.2.length ≤ 8) := fun k hk => hvl _ (List.getElem_mem hk)
  have HX : Hid (choicesP ab = choicesA 0 (ab.drop 0)) := (choicesA_zero ab).symm
  have HMd : Hid (∀ (b : Nat) w1, b ≤ 100 → Calls Tryz.prog 66 #[.int .i64 (b : Nat)] w1 fun e w' => ∃ u, e = .returned u ∧ Strs w' u (madeP b) ∧ Below w1.heap.size w1 w') := fun b w1 h => made_any b w1 h
  clear hcell hv hvl
  generalize choicesP ab = res at *
  unfold maxLen at hn
  go_enter Tryz.func37, Tryz.ntmps37
  go_wp2_with fail
  go_loopw [3, 8] (fun x i wr => ∃ (k b : Nat), k ≤ ab.length ∧ i = .int .i64 k ∧ x = .int .i64 b ∧ b ≤ 8 * k ∧ choicesA 0 (ab.drop 0) = choicesA b (ab.drop k) ∧ Below w.heap.size w wr) (fun _ i _ => ab.length - (intOf i).toNat)
  case atStart => exact ⟨0, 0, Nat.zero_le _, rfl, rfl, Nat.le_refl _, rfl, Below.refl _ _⟩
  case round =>
    obtain ⟨k, b, hk, rfl, rfl, hb8, hall, hbel⟩ := hrel
    have HA : Hid (choicesA 0 (ab.drop 0) = choicesA b (ab.drop k)) := hall
    have HB : Hid (Below w.heap.size w wr) := hbel
    clear hall hbel
    by_cases hlt : k < ab.length
    · obtain ⟨g, o, q, d, rfl, hlc, hc0⟩ := HC.out k hlt
      obtain ⟨c1, c2, c3, c4⟩ := hc0 wr HB.out
      have hv8 := HV.out k hlt
      have hb2 : Below wr.heap.size wr (wr.alloc (.cells #[.string (Ba ab[k].1), .int .i64 ab[k].2.1, .slice q ab[k].2.2.length d] 35)) := (Below.refl _ _).alloc (Nat.le_refl _) _
      have HB2 : Hid (Below w.heap.size w (wr.alloc (.cells #[.string (Ba ab[k].1), .int .i64 ab[k].2.1, .slice q ab[k].2.2.length d] 35))) := HB.out.trans (hb2.mono HB.out.size)
      have HSt : Hid (Strs (wr.alloc (.cells #[.string (Ba ab[k].1), .int .i64 ab[k].2.1, .slice q ab[k].2.2.length d] 35)) (.slice q ab[k].2.2.length d) ab[k].2.2) := c4.below hb2
      clear hc0 c4 hb2
      by_cases hx : ab[k].2.1 = 1
      · have HH : Hid (res = sortB ab[k].2.2) := by show _ = _; rw [HX.out, HA.out, choicesA_hit hlt hx]
        clear HC HV HA HX
        generalize ab[k] = y at *
        obtain ⟨yk, yd, yv⟩ := y
        dsimp only at *
        subst hx
        have HSo : Hid (Calls Tryz.prog 64 #[.func (.func 87) #[] #[.pointer (some ⟨wr.heap.size + 1, 0, none⟩)]] ((wr.alloc (.cells #[.string (Ba yk), .int .i64 1, .slice q yv.length d] 35)).alloc (.cells #[.slice q yv.length d] 33)) fun e W' => ∃ v, e = .returned v ∧ Strs W' v (sortB yv) ∧ Below (wr.alloc (.cells #[.string (Ba yk), .int .i64 1, .slice q yv.length d] 35)).heap.size (wr.alloc (.cells #[.string (Ba yk), .int .i64 1, .slice q yv.length d] 35)) W') := by
          have h := sorted_vals q d yv _ HSt.out (by omega)
          rw [show (wr.alloc (.cells #[.string (Ba yk), .int .i64 1, .slice q yv.length d] 35)).heap.size = wr.heap.size + 1 by simp] at h
          show Calls _ _ _ _ _
          rw [show (wr.alloc (.cells #[.string (Ba yk), .int .i64 1, .slice q yv.length d] 35)).heap.size = wr.heap.size + 1 by simp]
          exact h
        have HVa : Hid (Calls Tryz.prog 65 #[.slice q yv.length d] (wr.alloc (.cells #[.string (Ba yk), .int .i64 1, .slice q yv.length d] 35)) fun e w' => e = .returned (.func (.func 87) #[] #[.pointer (some ⟨wr.heap.size + 1, 0, none⟩)]) ∧ w' = (wr.alloc (.cells #[.string (Ba yk), .int .i64 1, .slice q yv.length d] 35)).alloc (.cells #[.slice q yv.length d] 33)) := by
          have h := values_any q yv.length d (wr.alloc (.cells #[.string (Ba yk), .int .i64 1, .slice q yv.length d] 35))
          rw [show (wr.alloc (.cells #[.string (Ba yk), .int .i64 1, .slice q yv.length d] 35)).heap.size = wr.heap.size + 1 by simp] at h
          exact h
        clear HSt
        generalize hnv : yv.length = nv at *
        generalize Ba yk = z at *
        go_wp2_with fail
        refine Calls.mono HVa.out ?_
        rintro e w1 ⟨rfl, rfl⟩
        go_wp2_with fail
        refine Calls.mono HSo.out ?_
        rintro e w2 ⟨u, rfl, h2, b2⟩
        have HR2 : Hid (Strs w2 u res) := by show Strs _ _ _; rw [HH.out]; exact h2
        have HB3 : Hid (Below w.heap.size w w2) := HB2.out.trans (b2.mono HB2.out.size)
        clear h2 b2
        go_wp2_with fail
        go_ret
        exact ⟨u, rfl, HR2.out, HB3.out⟩
      · have HA2 : Hid (choicesA 0 (ab.drop 0) = choicesA (b + ab[k].2.2.length) (ab.drop (k + 1))) := by show _ = _; rw [HA.out, choicesA_step hlt hx]
        clear HA HSt
        generalize ab[k] = y at *
        obtain ⟨yk, yd, yv⟩ := y
        dsimp only at *
        have hxb : (yd == 1) = false := by simpa using hx
        generalize hnv : yv.length = nv at *
        clear hnv
        generalize Ba yk = z at *
        go_wp2_with fail
        go_roundw
        case rel => exact ⟨k + 1, b + nv, by omega, by go_num, by go_num, by omega, HA2.out, HB2.out⟩
        case measure => simp [intOf]; omega
    · have HH : Hid (res = madeP b) := by show _ = _; rw [HX.out, HA.out, choicesA_end (by omega)]
      have HMb : Hid (Calls Tryz.prog 66 #[.int .i64 (b : Nat)] wr fun e w' => ∃ u, e = .returned u ∧ Strs w' u (madeP b) ∧ Below wr.heap.size wr w') := HMd.out b wr (by omega)
      clear HMd
      go_wp2_with fail
      refine Calls.mono HMb.out ?_
      rintro e w2 ⟨u, rfl, h2, b2⟩
      have HR2 : Hid (Strs w2 u res) := by show Strs _ _ _; rw [HH.out]; exact h2
      have HB3 : Hid (Below w.heap.size w w2) := HB.out.trans (b2.mono HB.out.size)
      clear h2 b2
      go_wp2_with fail
      go_ret
      exact ⟨u, rfl, HR2.out, HB3.out⟩
end Go.Proofs.YtgaopmdpcjcooaaGreatDoor
