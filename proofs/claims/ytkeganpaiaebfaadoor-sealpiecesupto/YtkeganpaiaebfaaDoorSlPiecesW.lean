/- Walk over this translation: into whatever pieces a text is cut, it has one Sum. -/
import Derived.Test.YtkeganpaiaebfaaDoorSlMask
import Derived.Lib.Join
namespace Go.Proofs.YtkeganpaiaebfaaDoor
open Go.RowKit
set_option linter.unusedVariables false
set_option linter.unusedSimpArgs false
theorem joinTail_empty : ∀ r : List Bs, Lib.joinTail [] r = r.flatten
  | [] => rfl
  | x :: r => by
    have ih := joinTail_empty r
    unfold Lib.joinTail at ih ⊢
    simp at ih ⊢
theorem join_empty : ∀ l : List Bs, Lib.join l [] = l.flatten
  | [] => rfl
  | x :: r => by rw [Lib.join_cons, joinTail_empty]; rfl
theorem join_any (v : Value) (l : List Bs) (w : World) (hv : Strs w v l) (hl : l.flatten.length ≤ 140737488355328) (hn : l.length ≤ 1048576) :
    Calls Tryd.prog 18 #[v, .string ⟨#[]⟩] w fun e w' => e = .returned (.string (Ba l.flatten)) ∧ Below w.heap.size w w' := by
  rcases hv with ⟨rfl, p, c, rfl⟩ | ⟨g, o, cap, rfl, hlc, hcm, hg, hcell⟩
  · refine (Tryd.strings_Join_none p c ⟨#[]⟩ w).mono ?_
    rintro e w' ⟨rfl, rfl⟩
    exact ⟨rfl, Below.refl _ _⟩
  · have hm : (l.map Ba).map (·.data.toList) = l := by
      rw [List.map_map]
      have : ((fun x : ByteArray => x.data.toList) ∘ Ba) = id := by funext x; simp [Ba]
      rw [this, List.map_id]
    have h := Tryd.strings_Join g o cap (l.map Ba) ⟨#[]⟩ w (fun j x hx => by
      rw [List.getElem?_map] at hx
      obtain ⟨s, hs, rfl⟩ := Option.map_eq_some_iff.1 hx
      exact hcell j s hs) hg (by rw [List.length_map]; omega) (by rw [List.length_map]; exact hlc) (by
        rw [hm]
        show (Lib.join l []).length ≤ _
        rw [join_empty]
        exact hl)
    rw [hm, List.length_map] at h
    rw [show (⟨#[]⟩ : ByteArray).data.toList = [] from rfl, join_empty] at h
    exact h
theorem take_flat_le (l : List Bs) (k : Nat) : (l.take k).flatten.length ≤ l.flatten.length := by
  conv => rhs; rw [← List.take_append_drop k l, List.flatten_append, List.length_append]
  omega
set_option maxRecDepth 100000 in
set_option maxHeartbeats 8000000 in
theorem pieces_walk (v : Value) (l : List Bs) (w : World) (hv : Strs w v l) (hT : l.flatten.length ≤ 1048576) (hN : l.length ≤ 1048576) (hc : Cub w) :
    Calls Tryd.prog 5 #[v] w fun e w' => e = .returned (.bool true) ∧ Below w.heap.size w w' := by
  have HJ : Hid (∀ w2, Below w.heap.size w w2 → Calls Tryd.prog 18 #[v, .string ⟨#[]⟩] w2 fun e w' => e = .returned (.string (Ba l.flatten)) ∧ Below w2.heap.size w2 w') := fun w2 hb => join_any v l w2 (hv.below hb) (by omega) hN
  obtain ⟨p, c, rfl, hn, hcell⟩ := hv.open
  have HC : Hid (∀ k (hk : k < l.length), ∃ g o, p = some ⟨g, o, none⟩ ∧ l.length ≤ c ∧ ∀ w1, Below w.heap.size w w1 → w1.cell? ⟨g, o + k, none⟩ = some (.string (Ba l[k]))) := hcell
  have HT : Hid (∀ k (hk : k < l.length), (l.take (k + 1)).flatten = (l.take k).flatten ++ l[k]) := fun k hk => by
    show _ = _
    rw [List.take_succ_eq_append_getElem hk, List.flatten_append]
    simp
  have HLe : Hid (∀ k, (l.take k).flatten.length ≤ 1048576) := fun k => Nat.le_trans (take_flat_le l k) hT
  have HCub : Hid (Cub w) := hc
  have hgk := hc.1
  have HNew : Hid (Calls Tryd.prog 15 #[] w fun e w' => ∃ b, w.heap.size ≤ b ∧ e = .returned (.pointer (some ⟨b, 0, none⟩)) ∧ HashAt b newP w' ∧ Below w.heap.size w w') := new_any w
  obtain ⟨s0, hs0⟩ : ∃ s0, s0 = sumP [] := ⟨_, rfl⟩
  have hs0l : (Ba s0).size = 32 := by rw [ba_size, hs0, sumP_length]
  have HS0 : Hid (∀ w2, Below w.heap.size w w2 → Calls Tryd.prog 9 #[.string ⟨#[]⟩] w2 fun e w' => e = .returned (.string (Ba s0)) ∧ Below w2.heap.size w2 w') := fun w2 hb => by
    rw [hs0]
    exact sum_any [] w2 (by unfold maxLen; decide) (HCub.out.below hb)
  have HSm : Hid (∀ (s : Bs) (w2 : World), s.length ≤ 1048576 → Below w.heap.size w w2 → Calls Tryd.prog 9 #[.string (Ba s)] w2 fun e w' => e = .returned (.string (Ba (sumP s))) ∧ Below w2.heap.size w2 w') := fun s w2 hs hb => sum_any s w2 (by unfold maxLen; omega) (HCub.out.below hb)
  unfold maxLen at hn
  clear hcell hv hc hs0
  go_enter Tryd.func5, Tryd.ntmps5
  go_wp2_with fail
  refine Calls.mono HNew.out ?_
  rintro e w1 ⟨b, hb, rfl, a1, b1⟩
  have HB1 : Hid (Below w.heap.size w w1) := b1
  have HA1 : Hid (HashAt b newP w1) := a1
  have hbne : b ≠ 0 := by omega
  clear a1 b1
  go_wp2_with fail
  refine Calls.mono (HS0.out _ HB1.out) ?_
  rintro e w2 ⟨rfl, b2⟩
  have HB2 : Hid (Below w.heap.size w w2) := HB1.out.trans (b2.mono HB1.out.size)
  have HA2 : Hid (HashAt b (feedP newP (l.take 0).flatten) w2) := HA1.out.below b2
  clear b2
  have HE0 : Hid ((⟨#[]⟩ : ByteArray) = Ba (l.take 0).flatten) := rfl
  go_wp2_with fail
  rw [HE0.out]
  go_loopw [4, 17] (fun sv i wr => ∃ k : Nat, k ≤ l.length ∧ i = .int .i64 k ∧ sv = .string (Ba (l.take k).flatten) ∧ HashAt b (feedP newP (l.take k).flatten) wr ∧ Below w.heap.size w wr) (fun _ i _ => l.length - (intOf i).toNat)
  case atStart => exact ⟨0, Nat.zero_le _, rfl, rfl, HA2.out, HB2.out⟩
  case round =>
    obtain ⟨k, hk, rfl, rfl, hat, hbel⟩ := hrel
    have HB : Hid (Below w.heap.size w wr) := hbel
    have HA : Hid (HashAt b (feedP newP (l.take k).flatten) wr) := hat
    clear hbel hat
    by_cases hlt : k < l.length
    · obtain ⟨g, o, rfl, hlc, hc0⟩ := HC.out k hlt
      have ck := hc0 wr HB.out
      have hT1 := HT.out k hlt
      have hl1 := HLe.out (k + 1)
      have HW : Hid (Calls Tryd.prog 16 #[.pointer (some ⟨b, 0, none⟩), .string (Ba l[k])] wr fun e w' => e = .returned (.tuple #[]) ∧ HashAt b (feedP newP (l.take (k + 1)).flatten) w' ∧ Cub w' ∧ G b wr w') := by
        have h := write_any b (feedP newP (l.take k).flatten) l[k] wr (feedP_ok _ newP_ok) HA.out (HCub.out.below HB.out) hbne (by
          have : l[k].length ≤ ((l.take (k + 1)).flatten).length := by rw [hT1, List.length_append]; omega
          unfold maxLen
          omega)
        rw [← feedP_append, ← hT1] at h
        exact h
      have HAll : Hid (Ba (l.take k).flatten ++ Ba l[k] = Ba (l.take (k + 1)).flatten) := by show _ = _; rw [ba_append, hT1]
      have z1 : (Ba (l.take k).flatten).size + (Ba l[k]).size ≤ 1048576 := by rw [ba_size, ba_size, ← List.length_append, ← hT1]; exact hl1
      obtain ⟨sm, hsm⟩ : ∃ sm, sm = Ba (sumP (l.take (k + 1)).flatten) := ⟨_, rfl⟩
      have HSH : Hid (∀ w2, HashAt b (feedP newP (l.take (k + 1)).flatten) w2 → Below w.heap.size w w2 → Calls Tryd.prog 17 #[.pointer (some ⟨b, 0, none⟩)] w2 fun e w' => e = .returned (.string sm) ∧ Below w2.heap.size w2 w') := fun w2 ha hbw => by
        rw [hsm]
        exact hsum_any b _ w2 (feedP_ok _ newP_ok) ha (HCub.out.below hbw)
      have HSS : Hid (∀ w2, Below w.heap.size w w2 → Calls Tryd.prog 9 #[.string (Ba (l.take (k + 1)).flatten)] w2 fun e w' => e = .returned (.string sm) ∧ Below w2.heap.size w2 w') := fun w2 hbw => by
        rw [hsm]
        exact HSm.out _ w2 hl1 hbw
      clear hc0 hsm hT1 hl1
      generalize hfk : (l.take (k + 1)).flatten = fk at *
      generalize Ba l[k] = sk at *
      go_wp2_with fail
      refine Calls.mono HW.out ?_
      rintro e w3 ⟨rfl, a3, c3, g3⟩
      have HA3 : Hid (HashAt b (feedP newP fk) w3) := a3
      have HB3 : Hid (Below w.heap.size w w3) := HB.out.trans (g3.below hb HB.out.size)
      clear a3 c3 g3
      go_wp2_with fail
      refine Calls.mono (HSH.out _ HA3.out HB3.out) ?_
      rintro e w4 ⟨rfl, b4⟩
      have HA4 : Hid (HashAt b (feedP newP fk) w4) := HA3.out.below b4
      have HB4 : Hid (Below w.heap.size w w4) := HB3.out.trans (b4.mono HB3.out.size)
      clear b4
      go_wp2_with fail
      rw [HAll.out]
      refine Calls.mono (HSS.out _ HB4.out) ?_
      rintro e w5 ⟨rfl, b5⟩
      have HA5 : Hid (HashAt b (feedP newP fk) w5) := HA4.out.below b5
      have HB5 : Hid (Below w.heap.size w w5) := HB4.out.trans (b5.mono HB4.out.size)
      clear b5
      go_wp2_with fail
      refine Calls.mono (HSH.out _ HA5.out HB5.out) ?_
      rintro e w6 ⟨rfl, b6⟩
      have HA6 : Hid (HashAt b (feedP newP fk) w6) := HA5.out.below b6
      have HB6 : Hid (Below w.heap.size w w6) := HB5.out.trans (b6.mono HB5.out.size)
      clear b6
      go_wp2_with fail
      refine Calls.mono (HSH.out _ HA6.out HB6.out) ?_
      rintro e w7 ⟨rfl, b7⟩
      have HA7 : Hid (HashAt b (feedP newP fk) w7) := HA6.out.below b7
      have HB7 : Hid (Below w.heap.size w w7) := HB6.out.trans (b7.mono HB6.out.size)
      clear b7
      go_wp2_with fail
      trace_state
      go_roundw
      case rel => exact ⟨k + 1, by omega, by go_num, by rw [hfk], by rw [hfk]; exact HA7.out, HB7.out⟩
      case measure => simp [intOf]; omega
    · have hke : k = l.length := by omega
      obtain ⟨sm, hsm⟩ : ∃ sm, sm = Ba (sumP l.flatten) := ⟨_, rfl⟩
      have HSH : Hid (Calls Tryd.prog 17 #[.pointer (some ⟨b, 0, none⟩)] wr fun e w' => e = .returned (.string sm) ∧ Below wr.heap.size wr w') := by
        have h := hsum_any b _ wr (feedP_ok _ newP_ok) HA.out (HCub.out.below HB.out)
        rw [hke, List.take_length] at h
        rw [hsm]
        exact h
      have HSS : Hid (∀ w2, Below w.heap.size w w2 → Calls Tryd.prog 9 #[.string (Ba l.flatten)] w2 fun e w' => e = .returned (.string sm) ∧ Below w2.heap.size w2 w') := fun w2 hbw => by
        rw [hsm]
        exact HSm.out _ w2 hT hbw
      clear hke hsm
      go_wp2_with fail
      refine Calls.mono HSH.out ?_
      rintro e w3 ⟨rfl, b3⟩
      have HB3 : Hid (Below w.heap.size w w3) := HB.out.trans (b3.mono HB.out.size)
      clear b3
      go_wp2_with fail
      refine Calls.mono (HJ.out _ HB3.out) ?_
      rintro e w4 ⟨rfl, b4⟩
      have HB4 : Hid (Below w.heap.size w w4) := HB3.out.trans (b4.mono HB3.out.size)
      clear b4
      go_wp2_with fail
      refine Calls.mono (HSS.out _ HB4.out) ?_
      rintro e w5 ⟨rfl, b5⟩
      have HB5 : Hid (Below w.heap.size w w5) := HB4.out.trans (b5.mono HB4.out.size)
      clear b5
      go_wp2_with fail
      go_ret
      exact ⟨by simp, HB5.out⟩
end Go.Proofs.YtkeganpaiaebfaaDoor
