/- Contract over this translation of the document's answer for Steps. -/
import Derived.Test.YthdgfehfoidnbaaDoorRefStepsPlain
import Derived.Test.YthdgfehfoidnbaaDoorChr
import Derived.Deep.RegionWith
import Derived.RegionTactic
namespace Go.Proofs.YthdgfehfoidnbaaDoor
open Go.RowKit
set_option linter.unusedVariables false
set_option linter.unusedSimpArgs false
theorem newS_at (w : World) (x : Value) (e : TypeId) : ∀ (j : Nat) (u : Value), [x][j]? = some u → (w.alloc (.cells #[x] e)).cell? ((⟨w.heap.size, 0, none⟩ : Addr).add j) = some u := by
  intro j u hj
  match j, hj with
  | 0, hj => simp at hj; subst hj; simp [Addr.add]
theorem newS_one (s : ByteArray) : ∀ u ∈ [Value.string s], u.oneCell' = true := by
  intro u hu
  simp at hu
  subst hu
  rfl
theorem ownS_snoc {B : Nat} {w : World} {v : Value} {l : List Bs} (h : w.ownsRow B 9 1 v (l.length + 1) (l.map strV ++ [.string ⟨#[]⟩])) : OwnS B w v (l ++ [[]]) := by
  unfold OwnS
  have e : (l ++ [([] : Bs)]).length = l.length + 1 := by simp
  have e2 : (l ++ [([] : Bs)]).map strV = l.map strV ++ [.string ⟨#[]⟩] := by simp [strV]
  rw [e, e2]
  exact h
theorem wrap_small (n : Int) (h : -9223372036854775808 ≤ n) (h2 : n ≤ 9223372036854775807) : IntKind.i64.wrap n = n := by
  rw [IntKind.wrap_i64]
  omega
theorem wrap64_small (n : Int) (h : -9223372036854775808 ≤ n) (h2 : n ≤ 9223372036854775807) : wrap64 n = n := by
  unfold wrap64
  omega
theorem chr_own (c : UInt8) (B : Nat) (w0 w : World) (g n : Nat) (cur : Array Value) (v : Value) (h0 : w0.heap.size = B) (hb : Below B w0 w) (hh : w.heap[g]? = some (.cells cur 9 (0, 0))) (hc : w.cell? ⟨g, n, none⟩ = some v) :
    Calls Tryd.prog 14 #[.int .i64 c.toNat] w fun e w' => e = .returned (.string ⟨#[c]⟩) ∧ Hid (Below B w0 w') ∧ Hid (w'.heap[g]? = some (.cells cur 9 (0, 0))) ∧ w'.cell? ⟨g, n, none⟩ = some v ∧ w'.frozen? ⟨g, n, none⟩ = false := by
  refine (chr_any c w).mono ?_
  rintro e w1 ⟨rfl, b1⟩
  have h1 := (b1.block g (lt_of_block hh)).trans hh
  have hs := hb.size
  rw [h0] at hs
  exact ⟨rfl, hb.trans (b1.mono hs), h1, (b1.cell (p := ⟨g, n, none⟩) (lt_of_block hh)).trans hc, frozen_of_row _ _ _ _ _ h1⟩
theorem chr_own47 (B : Nat) (w0 w : World) (g n : Nat) (cur : Array Value) (v : Value) (h0 : w0.heap.size = B) (hb : Below B w0 w) (hh : w.heap[g]? = some (.cells cur 9 (0, 0))) (hc : w.cell? ⟨g, n, none⟩ = some v) :
    Calls Tryd.prog 14 #[.int .i64 47] w fun e w' => e = .returned (.string ⟨#[47]⟩) ∧ Hid (Below B w0 w') ∧ Hid (w'.heap[g]? = some (.cells cur 9 (0, 0))) ∧ w'.cell? ⟨g, n, none⟩ = some v ∧ w'.frozen? ⟨g, n, none⟩ = false :=
  chr_own 47 B w0 w g n cur v h0 hb hh hc
/-- what is known of the reference's answer -/
def RefStepsPost (p : Bs) (w : World) (e : Ending) (w' : World) : Prop := StepsPost p w e w'
theorem slot_add (x : Bs) (c : UInt8) : (⟨x.toArray⟩ : ByteArray) ++ ⟨#[c]⟩ = ⟨(x ++ [c]).toArray⟩ := by
  apply ByteArray.ext
  simp [ByteArray.data_append]
set_option maxRecDepth 100000 in
set_option maxHeartbeats 4000000 in
theorem refSteps_any (t : ByteArray) (w : World) (ht : t.size ≤ 8000000) :
    Calls Tryd.prog 6 #[.string t] w (StepsPost t.data.toList w) := by
  obtain ⟨i0, hi, hz0, hz1, hz2⟩ := info_parts info_str
  by_cases h0 : t.size = 0
  · have e : t = ByteArray.empty := by
      cases t with
      | mk d =>
        have : d = #[] := Array.size_eq_zero_iff.1 h0
        rw [this]
        rfl
    subst e
    clear h0 ht
    go_enter Tryd.func6, Tryd.ntmps6
    go_wp2_with fail
    go_loopw [4, 5] (fun x i wr => x = .slice none 0 0 ∧ i = .int .i64 0 ∧ wr = w) (fun _ _ _ => 0)
    case atStart => exact ⟨rfl, rfl, rfl⟩
    case round =>
      obtain ⟨rfl, rfl, rfl⟩ := hrel
      go_wp2_with fail
      go_ret2
      exact ⟨Below.refl _ _, Or.inr ⟨[], _, rfl, rfl, Or.inl ⟨rfl, _, _, rfl⟩⟩⟩
  have hpos : 0 < t.size := by omega
  have HN : Hid (t.data.toList ≠ []) := by
    show t.data.toList ≠ []
    intro e
    have h9 : t.data.toList.length = t.size := by simp
    rw [e] at h9
    simp only [List.length_nil] at h9
    omega
  have HH : Hid (hd t.data.toList = t[0]) := by
    have := hd_lt hpos
    rw [rest, List.drop_zero] at this
    exact this
  have hne : (t.toList == ([] : List UInt8)) = false := by
    rw [ByteArray.toList_eq, beq_eq_false_iff_ne]
    exact HN.out
  by_cases h47 : t[0] = 47
  · have hb : ((t[0].toNat : Int) != 47) = false := by rw [h47]; rfl
    have HQ : Hid (t.data.toList = 47 :: t.data.toList.tail) := by
      show _ = _
      have h1 := HH.out
      rw [h47] at h1
      cases hl : t.data.toList with
      | nil => exact absurd hl HN.out
      | cons c r =>
        rw [hl] at h1
        have : c = 47 := h1
        rw [this]
        rfl
    have HFin : Hid (∀ L, fin [] t.data.toList = some L → noStray t.data.toList = true ∧ L = (parts 47 t.data.toList.tail).map meantB) := by
      intro L hL
      rw [HQ.out, fin_steps] at hL
      split at hL
      · rename_i hs
        rw [← HQ.out] at hs
        exact ⟨hs, (Option.some.inj hL).symm⟩
      · cases hL
    have HBad : Hid (fin [] t.data.toList = none → noStray t.data.toList = false) := by
      intro hL
      rw [HQ.out, fin_steps] at hL
      split at hL
      · cases hL
      · rename_i hs
        rw [← HQ.out] at hs
        simpa using hs
    have HE : Hid (noStray t.data.toList = true → stepsE t.data.toList = if 10 < t.data.toList.count 47 then .error eLarge else .ok ((parts 47 t.data.toList.tail).map meantB)) := by
      intro hs
      unfold stepsE
      rw [if_neg HN.out, if_neg (by rw [HH.out, h47, hs]; simp)]
    have HE0 : Hid (noStray t.data.toList = false → stepsE t.data.toList = .error 16) := by
      intro hs
      unfold stepsE
      rw [if_neg HN.out, if_pos (Or.inr hs)]
    have HCn : Hid (t.data.toList.count 47 = (parts 47 t.data.toList.tail).length) := by
      show _ = _
      rw [parts_len]
      conv => lhs; rw [HQ.out, List.count_cons_self]
    have H0 : Hid (t[0] = 47) := h47
    clear h47
    go_enter Tryd.func6, Tryd.ntmps6
    go_wp2_with fail
    go_loopw [4, 5] (fun x i wr => ∃ (k : Nat) (L : List Bs), k ≤ t.size ∧ i = .int .i64 k ∧ OwnS w.heap.size wr x L ∧ Below w.heap.size w wr ∧ fin [] t.data.toList = fin L (rest t k) ∧ (k ≠ 0 → L ≠ []) ∧ L.length ≤ k ∧ ∀ s ∈ L, s.length ≤ k) (fun _ i _ => t.size - (intOf i).toNat)
    case atStart => exact ⟨0, [], Nat.zero_le _, rfl, OwnS.nil _ _, Below.refl _ _, by rw [rest, List.drop_zero], fun h => absurd rfl h, Nat.le_refl _, fun s hs => by simp at hs⟩
    case round =>
      obtain ⟨k, L, hk, rfl, hown, hbel, hfin, hnz, hlk, hlen⟩ := hrel
      have HO : Hid (OwnS w.heap.size wr u4 L) := hown
      have HB : Hid (Below w.heap.size w wr) := hbel
      have HF : Hid (fin [] t.data.toList = fin L (rest t k)) := hfin
      have HL : Hid (∀ s ∈ L, s.length ≤ k) := hlen
      clear hown hbel hfin hlen
      have hBr : w.heap.size ≤ wr.heap.size := HB.out.size
      by_cases hlt : k < t.size
      · by_cases hc47 : t[k] = 47
        · have hcb : ((t[k].toNat : Int) == 47) = true := by rw [hc47]; rfl
          have HF2 : Hid (fin [] t.data.toList = fin (L ++ [[]]) (rest t (k + 1))) := by
            show _ = _
            rw [HF.out, rest_cons hlt, hc47, fin_slash]
          clear hc47 hnz
          go_wp2_with (at_builtin; refine wpList_append_own _ rfl _ _ 22 rfl w.heap.size 9 i0 (.string ⟨#[]⟩) 1 16 Tryd.underlying22 hi hz0 hz1 hz2 rfl (by decide) _ _ _ rfl (World.ownsRow.alloc (HO.out) _) ⟨wr.heap.size, 0, none⟩ 1 1 [.string ⟨#[]⟩] rfl rfl ?c1 ?c2 ?c3 ?c4 ?c5 ?_)
          case c1 => exact newS_at _ _ _
          case c2 => exact newS_one _
          case c3 => unfold maxLen; omega
          case c4 => omega
          case c5 => simp; omega
          intro v' w1 hown' hgrow _
          have HO1 : Hid (OwnS w.heap.size w1 v' (L ++ [[]])) := ownS_snoc hown'
          have HB1 : Hid (Below w.heap.size w w1) := (HB.out.alloc (by omega) _).grown hgrow (by simp; omega) (fun b hb => (World.ownsRow.lt HO.out b hb).1)
          clear hown' hgrow
          go_wp2_with fail
          go_roundw
          case rel => exact ⟨k + 1, L ++ [[]], by omega, by go_num, HO1.out, HB1.out, HF2.out, fun _ => by simp, by simp; omega, fun s hs => by
            rcases List.mem_append.1 hs with hs | hs
            · have := HL.out s hs; omega
            · simp at hs; subst hs; simp⟩
          case measure => simp [intOf]; omega
        · have hcb : ((t[k].toNat : Int) == 47) = false := by
            rw [beq_eq_false_iff_ne]
            intro e
            exact hc47 (UInt8.toNat_inj.1 (by show t[k].toNat = 47; omega))
          have hk0 : k ≠ 0 := by
            rintro rfl
            exact hc47 H0.out
          obtain ⟨M, x, hMx⟩ : ∃ M x, L = M ++ [x] := ⟨L.dropLast, L.getLast (hnz hk0), (List.dropLast_concat_getLast (hnz hk0)).symm⟩
          subst hMx
          obtain ⟨g, cap, cur, hv, hgB, hh, hcap, hcapm, hcur, htk⟩ := HO.out.open
          subst hv
          have hxk : x.length ≤ k := HL.out x (by simp)
          have hMk : M.length + 1 ≤ k := by simpa using hlk
          have HHh : Hid (wr.heap[g]? = some (.cells cur 9 (0, 0))) := hh
          have HTk : Hid (cur.toList.take (M.length + 1) = (M ++ [x]).map strV) := htk
          have hgw : g < wr.heap.size := lt_of_block hh
          have hc0 : wr.cell? ⟨g, M.length, none⟩ = some (.string ⟨x.toArray⟩) := OwnS.last hh htk
          have hf0 : wr.frozen? ⟨g, M.length, none⟩ = false := frozen_of_row _ _ _ _ _ hh
          have hxs : (⟨x.toArray⟩ : ByteArray).size ≤ 8000000 := by rw [size_of]; omega
          have hq : ¬ 9223372036854775807 < (⟨x.toArray⟩ : ByteArray).size + 1 := by omega
          unfold maxLen at hcapm
          clear hh htk hlk hnz
          by_cases hc126 : t[k] = 126
          · have hcb2 : ((t[k].toNat : Int) == 126) = true := by rw [hc126]; rfl
            have hw1 : IntKind.i64.wrap (M.length : Int) = (M.length : Int) := wrap_small _ (by omega) (by omega)
            have hw2 : IntKind.i64.wrap (t[k].toNat : Int) = (t[k].toNat : Int) := wrap_small _ (by omega) (by have := t[k].toNat_lt; omega)
            have hw3 : wrap64 (t[k].toNat : Int) = (t[k].toNat : Int) := wrap64_small _ (by omega) (by have := t[k].toNat_lt; omega)
            by_cases hk1 : k + 1 < t.size
            · have hI : (k : Int) + 1 < (t.size : Int) := by omega
              by_cases h48 : t[k + 1] = 48
              · have hb48 : ((t[k + 1].toNat : Int) == 48) = true := by rw [h48]; rfl
                have HF2 : Hid (fin [] t.data.toList = fin (M ++ [x ++ [t[k]]]) (rest t (k + 2))) := by
                  show _ = _
                  rw [HF.out, rest_cons hlt, rest_cons hk1, h48, hc126, fin_zero, addLast_snoc]
                have HS : Hid ((⟨x.toArray⟩ : ByteArray) ++ ⟨#[t[k]]⟩ = ⟨(x ++ [t[k]]).toArray⟩) := slot_add _ _
                clear hc47 hc126 h48
                go_wp2_with fail
                go_region_with (go_at_call 14; refine (chr_own t[k] w.heap.size w _ g M.length cur (.string ⟨x.toArray⟩) rfl (by exact HB.out.drew) (by exact HHh.out) (by exact hc0)).mono ?_; rintro e w3 ⟨rfl, HB3, HH3, c3, f3⟩)
                all_goals (rw [HS.out]; go_wp2_with fail; go_roundw)
                all_goals first
                  | (refine ⟨k + 2, M ++ [x ++ [t[k]]], by omega, by go_num, (OwnS.put (x := x) hgB HH3.out (by omega) (by unfold maxLen; omega) hcur HTk.out), HB3.out.setCell (by omega) _, HF2.out, fun _ => by simp, by simp; omega, fun s hs => ?_⟩
                     rcases List.mem_append.1 hs with hs | hs
                     · have := HL.out s (by simp [hs]); omega
                     · simp at hs; subst hs; simp; omega)
                  | (simp [intOf]; omega)
              · have hb48 : ((t[k + 1].toNat : Int) == 48) = false := by
                  rw [beq_eq_false_iff_ne]
                  intro e
                  exact h48 (UInt8.toNat_inj.1 (by show t[k + 1].toNat = 48; omega))
                by_cases h49 : t[k + 1] = 49
                · have hb49 : ((t[k + 1].toNat : Int) == 49) = true := by rw [h49]; rfl
                  have HF2 : Hid (fin [] t.data.toList = fin (M ++ [x ++ [47]]) (rest t (k + 2))) := by
                    show _ = _
                    rw [HF.out, rest_cons hlt, rest_cons hk1, h49, hc126, fin_one, addLast_snoc]
                  have HS : Hid ((⟨x.toArray⟩ : ByteArray) ++ ⟨#[47]⟩ = ⟨(x ++ [47]).toArray⟩) := slot_add _ _
                  clear hc47 hc126 h48 h49
                  go_wp2_with fail
                  go_region_with (go_at_call 14; refine (chr_own47 w.heap.size w _ g M.length cur (.string ⟨x.toArray⟩) rfl (by exact HB.out.drew) (by exact HHh.out) (by exact hc0)).mono ?_; rintro e w3 ⟨rfl, HB3, HH3, c3, f3⟩)
                  all_goals (rw [HS.out]; go_wp2_with fail; go_roundw)
                  all_goals first
                    | (refine ⟨k + 2, M ++ [x ++ [47]], by omega, by go_num, (OwnS.put (x := x) hgB HH3.out (by omega) (by unfold maxLen; omega) hcur HTk.out), HB3.out.setCell (by omega) _, HF2.out, fun _ => by simp, by simp; omega, fun s hs => ?_⟩
                       rcases List.mem_append.1 hs with hs | hs
                       · have := HL.out s (by simp [hs]); omega
                       · simp at hs; subst hs; simp; omega)
                    | (simp [intOf]; omega)
                · have hb49 : ((t[k + 1].toNat : Int) == 49) = false := by
                    rw [beq_eq_false_iff_ne]
                    intro e
                    exact h49 (UInt8.toNat_inj.1 (by show t[k + 1].toNat = 49; omega))
                  have HX : Hid (stepsE t.data.toList = .error 16) := HE0.out (HBad.out (by
                    rw [HF.out, rest_cons hlt, hc126, fin_bad]
                    intro d r' e
                    rw [rest_cons hk1] at e
                    cases e
                    exact ⟨h48, h49⟩))
                  clear hc47 hc126 h48 h49
                  go_wp2_with fail
                  go_ret2
                  exact ⟨HB.out, Or.inl ⟨16, HX.out, by decide, by decide, rfl⟩⟩
            · have hI : decide ((k : Int) + 1 < (t.size : Int)) = false := decide_eq_false (by omega)
              have HX : Hid (stepsE t.data.toList = .error 16) := HE0.out (HBad.out (by
                rw [HF.out, rest_cons hlt, hc126, fin_bad]
                intro d r' e
                rw [rest_nil (by omega)] at e
                cases e))
              clear hc47 hc126
              go_wp2_with fail
              go_ret2
              exact ⟨HB.out, Or.inl ⟨16, HX.out, by decide, by decide, rfl⟩⟩
          · have hcb2 : ((t[k].toNat : Int) == 126) = false := by
              rw [beq_eq_false_iff_ne]
              intro e
              exact hc126 (UInt8.toNat_inj.1 (by show t[k].toNat = 126; omega))
            have HF2 : Hid (fin [] t.data.toList = fin (M ++ [x ++ [t[k]]]) (rest t (k + 1))) := by
              show _ = _
              rw [HF.out, rest_cons hlt, fin_other _ _ _ hc47 hc126, addLast_snoc]
            have HS : Hid ((⟨x.toArray⟩ : ByteArray) ++ ⟨#[t[k]]⟩ = ⟨(x ++ [t[k]]).toArray⟩) := slot_add _ _
            have hw1 : IntKind.i64.wrap (M.length : Int) = (M.length : Int) := wrap_small _ (by omega) (by omega)
            have hw2 : IntKind.i64.wrap (t[k].toNat : Int) = (t[k].toNat : Int) := wrap_small _ (by omega) (by have := t[k].toNat_lt; omega)
            have hw3 : wrap64 (t[k].toNat : Int) = (t[k].toNat : Int) := wrap64_small _ (by omega) (by have := t[k].toNat_lt; omega)
            clear hc47 hc126
            go_wp2_with fail
            go_region_with (go_at_call 14; refine (chr_own t[k] w.heap.size w _ g M.length cur (.string ⟨x.toArray⟩) rfl (by exact HB.out.drew) (by exact HHh.out) (by exact hc0)).mono ?_; rintro e w3 ⟨rfl, HB3, HH3, c3, f3⟩)
            all_goals (rw [HS.out]; go_wp2_with fail; go_roundw)
            all_goals first
              | (refine ⟨k + 1, M ++ [x ++ [t[k]]], by omega, by go_num, (OwnS.put (x := x) hgB HH3.out (by omega) (by unfold maxLen; omega) hcur HTk.out), HB3.out.setCell (by omega) _, HF2.out, fun _ => by simp, by simp; omega, fun s hs => ?_⟩
                 rcases List.mem_append.1 hs with hs | hs
                 · have := HL.out s (by simp [hs]); omega
                 · simp at hs; subst hs; simp; omega)
              | (simp [intOf]; omega)
      · have hke : k = t.size := by omega
        have HL2 := HFin.out L (by rw [HF.out, rest_nil (by omega), fin_nil])
        have HE2 : Hid (stepsE t.data.toList = if 10 < L.length then .error eLarge else .ok L) := by
          show _ = _
          rw [HE.out HL2.1, HCn.out, HL2.2, List.length_map]
        obtain ⟨q, cap, hq⟩ := HO.out.shape
        subst hq
        clear HL2 hnz
        by_cases h10 : (10 : Int) < (L.length : Int)
        · have HX : Hid (stepsE t.data.toList = .error 2) := by
            show _ = _
            rw [HE2.out, if_pos (by omega)]
          go_wp2_with fail
          go_ret2
          exact ⟨HB.out, Or.inl ⟨2, HX.out, by decide, by decide, rfl⟩⟩
        · have HX : Hid (stepsE t.data.toList = .ok L) := by
            show _ = _
            rw [HE2.out, if_neg (by omega)]
          go_wp2_with fail
          go_ret2
          exact ⟨HB.out, Or.inr ⟨L, _, HX.out, rfl, HO.out.strs⟩⟩
  · have hb : ((t[0].toNat : Int) != 47) = true := by
      rw [bne_iff_ne]
      intro e
      exact h47 (UInt8.toNat_inj.1 (by show t[0].toNat = 47; omega))
    have HE : Hid (stepsE t.data.toList = .error 16) := by
      show stepsE _ = _
      unfold stepsE
      rw [if_neg HN.out, if_pos (Or.inl (by rw [HH.out]; exact h47))]
    clear h47
    go_enter Tryd.func6, Tryd.ntmps6
    go_wp2_with fail
    go_ret2
    exact ⟨Below.refl _ _, Or.inl ⟨16, HE.out, by decide, by decide, rfl⟩⟩
end Go.Proofs.YthdgfehfoidnbaaDoor
