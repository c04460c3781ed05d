/- Contract over this translation: grants.free. -/
import Derived.Test.YtnjjlnhchfoigabDoorGrGap
namespace Go.Proofs.YtnjjlnhchfoigabDoor
open Go.RowKit Go.Maps
set_option linter.unusedVariables false
set_option linter.unusedSimpArgs false
/-- x0, x1 and so on -/
def xW (i : Nat) : Bs := 120 :: Lib.decDigits i
theorem xW_inj {i j : Nat} (h : xW i = xW j) : i = j := by
  unfold xW at h
  injection h with _ h
  exact dec_inj h
/-- the words of rules on a side -/
def usedW (held : List Rl) (side : Nat) : List Bs := held.flatMap fun r => wordsP r side
theorem used_mem {held : List Rl} {side : Nat} {x : Bs} : x ∈ usedW held side ↔ ∃ r ∈ held, x ∈ wordsP r side := by
  unfold usedW
  rw [List.mem_flatMap]
theorem nodup_sub : ∀ (l m : List Bs), l.Nodup → (∀ x ∈ l, x ∈ m) → l.length ≤ m.length
  | [], m, _, _ => Nat.zero_le _
  | x :: r, m, hn, hs => by
    obtain ⟨hx, hr⟩ := List.nodup_cons.1 hn
    have hm := hs x List.mem_cons_self
    have ih := nodup_sub r (m.erase x) hr (fun y hy => (List.mem_erase_of_ne (fun e => hx (by rw [← e]; exact hy))).2 (hs y (List.mem_cons_of_mem _ hy)))
    rw [List.length_erase_of_mem hm] at ih
    have hpos : 0 < m.length := List.length_pos_of_mem hm
    rw [List.length_cons]
    omega
/-- so many of them are not all used -/
theorem used_le {U : List Bs} {i : Nat} (h : ∀ j, j < i → xW j ∈ U) : i ≤ U.length := by
  have h1 := nodup_sub ((List.range i).map xW) U (by
    have hr : (List.range i).Nodup := List.nodup_range
    exact List.Pairwise.map _ (fun a b hab e => hab (xW_inj e)) hr) (fun x hx => by
    obtain ⟨j, hj, rfl⟩ := List.mem_map.1 hx
    exact h j (List.mem_range.1 hj))
  simpa using h1
theorem used_len {held : List Rl} (side : Nat) (h : ∀ r ∈ held, SmR r) : (usedW held side).length ≤ held.length * 1048576 := by
  induction held with
  | nil => simp [usedW]
  | cons r l ih =>
    have h1 := words_small (h r List.mem_cons_self) side
    have h2 := ih (fun x hx => h x (List.mem_cons_of_mem _ hx))
    have e : usedW (r :: l) side = wordsP r side ++ usedW l side := rfl
    rw [e, List.length_append, List.length_cons, Nat.succ_mul]
    omega
theorem used_succ (held : List Rl) (side : Nat) {k : Nat} (hk : k < held.length) : usedW (held.take (k + 1)) side = usedW (held.take k) side ++ wordsP held[k] side := by
  unfold usedW
  rw [List.take_succ_eq_append_getElem hk, List.flatMap_append]
  simp
theorem itoa_any (u : Nat) (w : World) (hu : u ≤ 4398046511104) (hT : TabW w) : Calls Tryd.prog 49 #[.int .i64 (u : Int)] w fun e w' => e = .returned (.string (Ba (Lib.decDigits u))) ∧ Below w.heap.size w w' := by
  refine (Tryd.strconv_Itoa (u : Int) (by omega) (by omega) w (hT w (Below.refl _ _))).mono ?_
  rintro e w' ⟨rfl, k, os, rfl⟩
  exact ⟨by rw [itoa_nat], Lib.below_grow _ _ (Nat.le_refl _) _ _⟩
/-- the first that isn't used -/
abbrev FreeQ (held : List Rl) (side : Nat) (w : World) (e : Ending) (w' : World) : Prop := ∃ i : Nat, e = .returned (.string (Ba (xW i))) ∧ xW i ∉ usedW held side ∧ (∀ j, j < i → xW j ∈ usedW held side) ∧ Below w.heap.size w w'
set_option maxRecDepth 100000 in
set_option maxHeartbeats 8000000 in
theorem free_any (v : Value) (held : List Rl) (side : Nat) (w : World) (hv : Rls w v held) (hs : side ≤ 2) (hl : held.length ≤ 1048576) (hsm : ∀ r ∈ held, SmR r) (hT : TabW w) :
    Calls Tryd.prog 33 #[v, .int .i64 side] w (FreeQ held side w) := by
  have hmm := @run_makeMap Tryd.prog
  obtain ⟨p, c, rfl, hn, hcell⟩ := rls_open hv
  have HC : Hid (∀ k (hk : k < held.length), ∃ g o, p = some ⟨g, o, none⟩ ∧ held.length ≤ c ∧ g < w.heap.size ∧ ∀ w1, Below w.heap.size w w1 → ∃ p1 n1 c1 p2 n2 c2 p3 n3 c3,
      w1.cell? ⟨g, o + k * 3, none⟩ = some (.slice p1 n1 c1) ∧ w1.cell? ⟨g, o + k * 3 + 1, none⟩ = some (.slice p2 n2 c2) ∧ w1.cell? ⟨g, o + k * 3 + 2, none⟩ = some (.slice p3 n3 c3) ∧
      ∀ w2, Below w1.heap.size w1 w2 → Calls Tryd.prog 48 #[.agg #[.slice p1 n1 c1, .slice p2 n2 c2, .slice p3 n3 c3], .int .i64 side] w2 (WordsQ w2 (wordsP held[k] side))) := by
    intro k hk
    obtain ⟨g, o, h1, h2, h3, h4⟩ := hcell k hk
    refine ⟨g, o, h1, h2, h3, fun w1 hb => ?_⟩
    obtain ⟨p1, n1, c1, p2, n2, c2, p3, n3, c3, k1, k2, k3, s1, s2, s3⟩ := h4 w1 hb
    have hr := hsm _ (List.getElem_mem hk)
    exact ⟨p1, n1, c1, p2, n2, c2, p3, n3, c3, k1, k2, k3, fun w2 hb2 => wordsOf_any _ _ _ held[k] side w2 (s1.below hb2) (s2.below hb2) (s3.below hb2) hr.1 hr.2.1 hr.2.2.1 hr.2.2.2 hs⟩
  have HSm : Hid (∀ k (hk : k < held.length), (wordsP held[k] side).length ≤ 1048576 ∧ FitS (wordsP held[k] side)) := fun k hk => ⟨words_small (hsm _ (List.getElem_mem hk)) side, words_fit (hsm _ (List.getElem_mem hk)) side⟩
  have HUs : Hid (∀ k (hk : k < held.length), usedW (held.take (k + 1)) side = usedW (held.take k) side ++ wordsP held[k] side) := fun k hk => used_succ held side hk
  have HUl : Hid ((usedW held side).length ≤ held.length * 1048576) := used_len side hsm
  have HM0 : Hid (SetIs (w.alloc (.map #[] 0)) w.heap.size 0 (usedW (held.take 0) side)) := SetIs.made w
  have HB0 : Hid (Below w.heap.size w (w.alloc (.map #[] 0))) := (Below.refl _ _).alloc (Nat.le_refl _) _
  have HS0 : Hid (w.heap.size + 1 ≤ (w.alloc (.map #[] 0)).heap.size) := by show _ ≤ _; simp
  have HT : Hid (TabW w) := hT
  clear hcell hv hsm hT
  unfold maxLen at hn
  show Calls _ _ _ _ (FreeQ held side w)
  generalize hU : usedW held side = U at *
  have HQ : Hid (∀ (i : Nat) (w' : World), xW i ∉ U → (∀ j, j < i → xW j ∈ U) → Below w.heap.size w w' → FreeQ held side w (.returned (.string (Ba (xW i)))) w') := fun i w' h1 h2 h3 => ⟨i, rfl, by rw [hU]; exact h1, by rw [hU]; exact h2, h3⟩
  have HUe : Hid (usedW (held.take held.length) side = U) := by show _ = _; rw [List.take_length]; exact hU
  clear hU
  generalize hsd : (Value.int .i64 side) = sd at *
  clear hsd
  generalize FreeQ held side w = FQ at *
  go_enter Tryd.func33, Tryd.ntmps33
  go_wp2_with fail
  go_loopw [17] (fun iv wr => ∃ (k n : Nat), k ≤ held.length ∧ iv = .int .i64 k ∧ SetIs wr w.heap.size n (usedW (held.take k) side) ∧ n ≤ k * 1048576 ∧ Below w.heap.size w wr ∧ w.heap.size + 1 ≤ wr.heap.size) (fun iv _ => held.length - (intOf iv).toNat)
  case atStart => exact ⟨0, 0, Nat.zero_le _, rfl, HM0.out, Nat.zero_le _, HB0.out, HS0.out⟩
  case round =>
    obtain ⟨k, n, hk, rfl, hset, hnk, hbel, hsz⟩ := hrel
    have HM : Hid (SetIs wr w.heap.size n (usedW (held.take k) side)) := hset
    have HB : Hid (Below w.heap.size w wr) := hbel
    clear hset hbel
    by_cases hlt : k < held.length
    · obtain ⟨g, o, rfl, hlc, _, hc0⟩ := HC.out k hlt
      obtain ⟨p1, n1, c1, p2, n2, c2, p3, n3, c3, k1, k2, k3, hcall⟩ := hc0 wr HB.out
      have HTl : Hid ((wordsP held[k] side).length ≤ 1048576) := (HSm.out k hlt).1
      have HTf : Hid (FitS (wordsP held[k] side)) := (HSm.out k hlt).2
      have HU1 : Hid (usedW (held.take (k + 1)) side = usedW (held.take k) side ++ wordsP held[k] side) := HUs.out k hlt
      obtain ⟨wn, hwn⟩ : ∃ wn, wn = wr.alloc (.cells #[.slice p1 n1 c1, .slice p2 n2 c2, .slice p3 n3 c3] 40) := ⟨_, rfl⟩
      have hBn : Below wr.heap.size wr wn := by rw [hwn]; exact (Below.refl _ _).alloc (Nat.le_refl _) _
      have HWO : Hid (Calls Tryd.prog 48 #[.agg #[.slice p1 n1 c1, .slice p2 n2 c2, .slice p3 n3 c3], sd] wn (WordsQ wn (wordsP held[k] side))) := hcall wn hBn
      have HBn : Hid (Below wr.heap.size wr wn) := hBn
      have HWn : Hid (wn = wr.alloc (.cells #[.slice p1 n1 c1, .slice p2 n2 c2, .slice p3 n3 c3] 40)) := hwn
      have hkI : (k : Int) < (held.length : Int) := by omega
      clear hcall hBn hwn hc0
      generalize wordsP held[k] side = T at *
      generalize usedW (held.take k) side = Uk at *
      go_wp2_with fail
      rw [← HWn.out]
      refine Calls.mono HWO.out ?_
      rintro e w2 ⟨u, rfl, hu1, hu2, hb2⟩
      obtain ⟨gu, cu, rfl, hgu, hrt⟩ := hu1.row hu2
      have HBr : Hid (Below wr.heap.size wr w2) := HBn.out.trans (hb2.mono HBn.out.size)
      have HRt : Hid (RowT w2 gu cu T) := hrt
      have HM2 : Hid (SetIs w2 w.heap.size n (Uk ++ T.take 0)) := by
        rw [List.take_zero, List.append_nil]
        exact HM.out.below HBr.out
      have HB2 : Hid (Below w.heap.size w w2) := HB.out.trans (HBr.out.mono HB.out.size)
      have HZ2 : Hid (w.heap.size + 1 ≤ w2.heap.size) := Nat.le_trans hsz HBr.out.size
      have HTc : Hid (T.length ≤ cu) := hrt.le
      clear hu1 hu2 hb2 hgu hrt
      go_wp2_with fail
      go_loopw [25] (fun jv wq => ∃ (j m : Nat), j ≤ T.length ∧ jv = .int .i64 j ∧ SetIs wq w.heap.size m (Uk ++ T.take j) ∧ m ≤ n + j ∧ RowT wq gu cu T ∧ Below w.heap.size w wq ∧ w.heap.size + 1 ≤ wq.heap.size) (fun jv _ => T.length - (intOf jv).toNat)
      case atStart => exact ⟨0, n, Nat.zero_le _, rfl, HM2.out, Nat.le_refl _, HRt.out, HB2.out, HZ2.out⟩
      case round =>
        obtain ⟨j, m, hj, rfl, ⟨E, hmp, hhas⟩, hmn, hrt, hbel, hszq⟩ := hrel
        rename World => wq
        have HE : Hid (wq.ownsMap Tryd.prog 9 unitElem w.heap.size m E) := hmp
        have HH : Hid (∀ s : Bs, Maps.has E (.string s) = decide (s ∈ Uk ++ T.take j)) := hhas
        have HRq : Hid (RowT wq gu cu T) := hrt
        have HBq : Hid (Below w.heap.size w wq) := hbel
        have hTle := HTl.out
        clear hmp hhas hrt hbel HM2 HB2 HRt
        by_cases hjt : j < T.length
        · have hc0 := HRq.out.cell (List.getElem?_eq_getElem hjt)
          have hkey : keyOf Tryd.prog 9 (.string (Ba T[j])) = some (.string T[j]) := keyS _ (HTf.out _ (List.getElem_mem hjt))
          have hjI : (j : Int) < (T.length : Int) := by omega
          have HT1 : Hid (Uk ++ T.take (j + 1) = Uk ++ T.take j ++ [T[j]]) := by
            show _ = _
            rw [List.take_succ_eq_append_getElem hjt, List.append_assoc]
          have hmm1 : m < maxLen := by unfold maxLen; omega
          have HP : Hid (∀ t : Bs, Maps.has (E.put (.string T[j]) (.agg [])) (.string t) = decide (t ∈ Uk ++ T.take j ++ [T[j]])) := has_put HE.out.isMap HH.out _
          generalize T[j] = s at *
          generalize Ba s = y at *
          go_wp2_with (at_mapUpdate; refine wpList_mapUpdate_own _ rfl _ _ _ 86 rfl 9 88 lawS Tryd.underlying86 (unitElem (H := Unit)) w.heap.size m E rfl HE.out hmm1 _ _ _ rfl rfl hkey _ [] unitElem_mk ?_; intro w7 hown2 hgrow2)
          have HM8 : Hid (SetIs w7 w.heap.size (m + 1) (Uk ++ T.take (j + 1))) := by rw [HT1.out]; exact ⟨_, hown2, HP.out⟩
          have HR8 : Hid (RowT w7 gu cu T) := HRq.out.kept hgrow2 (by
            obtain ⟨es, clock, hb, _⟩ := HE.out
            obtain ⟨cur, h0, _⟩ := HRq.out
            intro hg
            injection hg with hg
            subst hg
            rw [h0] at hb
            injection hb with hb
            cases hb)
          have HB8 : Hid (Below w.heap.size w w7) := HBq.out.grown hgrow2 HBq.out.size (fun j hj => by injection hj with hj; omega)
          have HZ8 : Hid (w.heap.size + 1 ≤ w7.heap.size) := Nat.le_trans hszq hgrow2.size
          clear hown2 hgrow2
          go_roundw
          case rel => exact ⟨j + 1, m + 1, by omega, by go_num, HM8.out, by omega, HR8.out, HB8.out, HZ8.out⟩
          case measure => simp [intOf]; omega
        · have hjE : j = T.length := by omega
          have hjI : ¬ ((j : Int) < (T.length : Int)) := by omega
          have HM8 : Hid (SetIs wq w.heap.size m (usedW (held.take (k + 1)) side)) := by
            have h : SetIs wq w.heap.size m (Uk ++ T.take j) := ⟨E, HE.out, HH.out⟩
            rw [hjE, List.take_of_length_le (Nat.le_refl _), ← HU1.out] at h
            exact h
          have HNb : Hid (m ≤ (k + 1) * 1048576) := by
            show _ ≤ _
            rw [Nat.succ_mul]
            omega
          clear hjE HE HH
          go_wp2_with fail
          go_roundw
          case rel => exact ⟨k + 1, m, by omega, by go_num, HM8.out, HNb.out, HBq.out, hszq⟩
          case measure => simp [intOf]; omega
    · have hkE : k = held.length := by omega
      have hkI : ¬ ((k : Int) < (held.length : Int)) := by omega
      have HMU : Hid (SetIs wr w.heap.size n U) := by
        have h := HM.out
        rw [hkE, HUe.out] at h
        exact h
      have HN : Hid (n ≤ held.length * 1048576) := by rw [hkE] at hnk; exact hnk
      clear hkE HM hnk
      go_wp2_with fail
      go_loopw [10] (fun iv wq => ∃ i : Nat, iv = .int .i64 i ∧ (∀ j, j < i → xW j ∈ U) ∧ SetIs wq w.heap.size n U ∧ Below w.heap.size w wq) (fun iv _ => U.length + 1 - (intOf iv).toNat)
      case atStart => exact ⟨0, rfl, (fun j h => absurd h (Nat.not_lt_zero _)), HMU.out, HB.out⟩
      case round =>
        obtain ⟨i, rfl, hall, ⟨E, hmp, hhas⟩, hbel⟩ := hrel
        rename World => wq
        have hil : i ≤ U.length := used_le hall
        have HAll : Hid (∀ j, j < i → xW j ∈ U) := hall
        have HE : Hid (wq.ownsMap Tryd.prog 9 unitElem w.heap.size n E) := hmp
        have HH : Hid (∀ s : Bs, Maps.has E (.string s) = decide (s ∈ U)) := hhas
        have HBq : Hid (Below w.heap.size w wq) := hbel
        have hUl := HUl.out
        have hi40 : i ≤ 1099511627776 := by have := HN.out; omega
        have HIt : Hid (Calls Tryd.prog 49 #[.int .i64 (i : Int)] wq fun e w' => e = .returned (.string (Ba (Lib.decDigits i))) ∧ Below wq.heap.size wq w') := itoa_any i wq (by omega) (HT.out.below hbel)
        have hdl := dec_len i hi40
        have HKy : Hid (keyOf Tryd.prog 9 (.string (Ba (xW i))) = some (.string (xW i))) := keyS _ (by unfold xW maxLen; rw [List.length_cons]; omega)
        have hcat : (⟨#[120]⟩ : ByteArray) ++ Ba (Lib.decDigits i) = Ba (xW i) := ba_append [120] (Lib.decDigits i)
        have hszd : (Ba (Lib.decDigits i)).size ≤ 21 := by rw [ba_size]; exact hdl
        have hhk := hhas (xW i)
        have hnn : n < maxLen := by have := HN.out; unfold maxLen; omega
        clear hall hmp hhas hbel hUl hdl HMU
        by_cases hin : xW i ∈ U
        · rw [decide_eq_true hin] at hhk
          have HAl2 : Hid (∀ j, j < i + 1 → xW j ∈ U) := fun j hj => by
            rcases Nat.lt_succ_iff_lt_or_eq.1 hj with h | h
            · exact HAll.out j h
            · rw [h]; exact hin
          have hkey := HKy.out
          generalize Ba (xW i) = yx at *
          generalize Ba (Lib.decDigits i) = yd at *
          generalize xW i = xs at *
          go_wp2_with fail
          refine Calls.mono HIt.out ?_
          rintro e w5 ⟨rfl, hb5⟩
          have HE5 : Hid (w5.ownsMap Tryd.prog 9 unitElem w.heap.size n E) := HE.out.kept (grown_none hb5) (by simp)
          have HB5 : Hid (Below w.heap.size w w5) := HBq.out.trans (hb5.mono HBq.out.size)
          clear hb5
          go_wp2_with (at_lookup; refine wpList_lookup_own_unit _ rfl _ _ 86 rfl 9 88 lawS Tryd.underlying86 (zeroU _) w.heap.size n E rfl HE5.out _ _ rfl hkey ?_; rw [hhk])
          go_roundw
          case rel => exact ⟨i + 1, by go_num, HAl2.out, ⟨E, HE5.out.alloc _, HH.out⟩, HB5.out.alloc HB5.out.size _⟩
          case measure => simp [intOf]; omega
        · rw [decide_eq_false hin] at hhk
          have HNi : Hid (xW i ∉ U) := hin
          have HQi : Hid (∀ w', Below w.heap.size w w' → FQ (.returned (.string (Ba (xW i)))) w') := fun w' h => HQ.out i w' hin HAll.out h
          have hkey := HKy.out
          clear hin
          generalize Ba (xW i) = yx at *
          generalize Ba (Lib.decDigits i) = yd at *
          generalize xW i = xs at *
          go_wp2_with fail
          refine Calls.mono HIt.out ?_
          rintro e w5 ⟨rfl, hb5⟩
          have HE5 : Hid (w5.ownsMap Tryd.prog 9 unitElem w.heap.size n E) := HE.out.kept (grown_none hb5) (by simp)
          have HB5 : Hid (Below w.heap.size w w5) := HBq.out.trans (hb5.mono HBq.out.size)
          clear hb5
          go_wp2_with (at_lookup; refine wpList_lookup_own_unit _ rfl _ _ 86 rfl 9 88 lawS Tryd.underlying86 (zeroU _) w.heap.size n E rfl HE5.out _ _ rfl hkey ?_; rw [hhk])
          exact HQi.out _ (HB5.out.alloc HB5.out.size _)
end Go.Proofs.YtnjjlnhchfoigabDoor
