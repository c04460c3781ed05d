/- Contract of the reader's method over this translation that reads a text. -/
import Derived.Test.YtaogilpkeeigoaaGreatDoorRdSign
import Derived.Test.YtaogilpkeeigoaaGreatDoorOwnPlain
namespace Go.Proofs.YtaogilpkeeigoaaGreatDoor
open Go.RowKit
set_option linter.unusedVariables false
set_option linter.unusedSimpArgs false
theorem signs_end {t : ByteArray} {q : Nat} (h : hd (rest t q) = 34) : signs (rest t q) = some ([], rest t (q + 1)) := by
  have hlt : q < t.size := lt_of_hd (by rw [h]; decide)
  rw [hd_lt hlt] at h
  rw [rest_cons hlt, signs_cons, if_pos h]
theorem signs_esc {t : ByteArray} {q : Nat} (h : hd (rest t q) = 92) (hm : meaning (hd (rest t (q + 1))) ≠ 0) : signs (rest t q) = (signs (rest t (q + 2))).map fun p => (meaning (hd (rest t (q + 1))) :: p.1, p.2) := by
  have hlt : q < t.size := lt_of_hd (by rw [h]; decide)
  have hlt2 : q + 1 < t.size := lt_of_hd (fun e => hm (by rw [e]; rfl))
  rw [hd_lt hlt] at h
  rw [hd_lt hlt2] at hm ⊢
  rw [rest_cons hlt, signs_cons, h, rest_cons hlt2]
  simp [hm]
theorem signs_esc_bad {t : ByteArray} {q : Nat} (h : hd (rest t q) = 92) (hm : meaning (hd (rest t (q + 1))) = 0) : signs (rest t q) = none := by
  have hlt : q < t.size := lt_of_hd (by rw [h]; decide)
  rw [hd_lt hlt] at h
  rw [rest_cons hlt, signs_cons, h]
  rcases Nat.lt_or_ge (q + 1) t.size with h' | h'
  · rw [hd_lt h'] at hm
    rw [rest_cons h']
    simp [hm]
  · rw [rest_nil h']
    simp
theorem signs_plain {t : ByteArray} {q : Nat} (h34 : hd (rest t q) ≠ 34) (h92 : hd (rest t q) ≠ 92) (hp : plain (hd (rest t q)) = true) : signs (rest t q) = (signs (rest t (q + 1))).map fun p => (hd (rest t q) :: p.1, p.2) := by
  have hlt : q < t.size := lt_of_hd (fun e => by rw [e] at hp; exact absurd hp (by decide))
  rw [hd_lt hlt] at h34 h92 hp ⊢
  rw [rest_cons hlt, signs_cons, if_neg h34, if_neg h92, if_pos hp]
theorem signs_plain_bad {t : ByteArray} {q : Nat} (h34 : hd (rest t q) ≠ 34) (h92 : hd (rest t q) ≠ 92) (hp : plain (hd (rest t q)) = false) : signs (rest t q) = none := by
  rcases Nat.lt_or_ge q t.size with h' | h'
  · rw [hd_lt h'] at h34 h92 hp
    rw [rest_cons h', signs_cons, if_neg h34, if_neg h92, if_neg (by simp [hp])]
  · rw [rest_nil h', signs_nil]
/-- what was gathered, and what is to come -/
def Gathered (t : ByteArray) (p q : Nat) (l : Bs) : Prop := signs (rest t p) = (signs (rest t q)).map fun r => (l ++ r.1, r.2)
theorem gathered_nil (t : ByteArray) (p : Nat) : Gathered t p p [] := by
  unfold Gathered
  cases signs (rest t p) <;> simp
theorem gathered_step {t : ByteArray} {p q q' : Nat} {l : Bs} {c : UInt8} (h : Gathered t p q l) (hs : signs (rest t q) = (signs (rest t q')).map fun r => (c :: r.1, r.2)) : Gathered t p q' (l ++ [c]) := by
  unfold Gathered at h ⊢
  rw [h, hs, Option.map_map]
  congr 1
  funext r
  simp
set_option maxRecDepth 100000 in
set_option maxHeartbeats 2000000 in
theorem quoted_any (b : Nat) (t : ByteArray) (p k : Nat) (w : World) (h : Rd b t p k w) (hp : p ≤ t.size) (ht : t.size ≤ 2000) :
    Calls Tryz.prog 61 #[.pointer (some ⟨b, 0, none⟩)] w fun e w' => G b w w' ∧
      ((quoted (rest t p) = none ∧ e = .returned (.tuple #[.string ByteArray.empty, .int .i64 3])) ∨
        ∃ l q, quoted (rest t p) = some (l, rest t q) ∧ p < q ∧ q ≤ t.size ∧ e = .returned (.tuple #[.string ⟨l.toArray⟩, .int .i64 0]) ∧ Rd b t q k w') := by
  obtain ⟨i0, hi, hz0, hz1, hz2⟩ := info_parts info_u8
  have hbl := h.lt
  have HR : Hid (Rd b t p k w) := h
  clear h
  by_cases hc : hd (rest t p) = 34
  · have hq : quoted (rest t p) = signs (rest t (p + 1)) := by rw [quoted, if_pos hc, rest_tail]
    rw [hq]
    have hlt : p < t.size := lt_of_hd (by rw [hc]; decide)
    have HC : Hid (hd (rest t p) = 34) := hc
    clear hc hq
    go_enter Tryz.func61, Tryz.ntmps61
    go_wp2_with fail
    refine (take_yes b t p k 34 _ HR.out ht hlt HC.out).mono ?_
    rintro e w1 ⟨rfl, g1, r1⟩
    have HG1 : Hid (G b w w1) := g1
    have HR1 : Hid (Rd b t (p + 1) k w1) := r1
    clear g1 r1
    go_wp2_with fail
    go_loopw [4] (fun v wr => ∃ l q, p < q ∧ q ≤ t.size ∧ l.length ≤ q ∧ Gathered t (p + 1) q l ∧ Own w.heap.size wr v l ∧ Rd b t q k wr ∧ G b w wr) (fun _ wr => t.size - placeOf b wr)
    case atStart => exact ⟨[], p + 1, by omega, by omega, by simp, gathered_nil _ _, Own.nil _ _, HR1.out, HG1.out⟩
    case round =>
      obtain ⟨l, q, hpq, hq, hl, hga, hown, hR, hG⟩ := hrel
      have HGa : Hid (Gathered t (p + 1) q l) := hga
      have HO : Hid (Own w.heap.size wr u4 l) := hown
      have HR : Hid (Rd b t q k wr) := hR
      have HG : Hid (G b w wr) := hG
      clear hga hown hR hG
      by_cases h34 : hd (rest t q) = 34
      · have H34 : Hid (hd (rest t q) = 34) := h34
        have hlq : q < t.size := lt_of_hd (by rw [h34]; decide)
        clear h34
        go_wp2_with fail
        refine (take_yes b t q k 34 _ HR.out ht hlq H34.out).mono ?_
        rintro e w2 ⟨rfl, g1, r1⟩
        have HG2 : Hid (G b w w2) := HG.out.trans g1
        have HR2 : Hid (Rd b t (q + 1) k w2) := r1
        have hcv := conv_own (HO.out.kept g1 hbl)
        clear g1 r1
        go_wp2_with fail
        go_ret2
        refine ⟨HG2.out, Or.inr ⟨l, q + 1, ?_, by omega, by omega, rfl, HR2.out⟩⟩
        have := HGa.out
        unfold Gathered at this
        rw [this, signs_end H34.out]
        simp
      have HN34 : Hid (hd (rest t q) ≠ 34) := h34
      clear h34
      by_cases h92 : hd (rest t q) = 92
      · by_cases hm : meaning (hd (rest t (q + 1))) = 0
        · have H92 : Hid (hd (rest t q) = 92) := h92
          have HM : Hid (meaning (hd (rest t (q + 1))) = 0) := hm
          clear h92 hm
          go_wp2_with fail
          refine (take_no b t q k 34 _ HR.out hq ht HN34.out).mono ?_
          rintro e w2 ⟨rfl, g1, r1⟩
          have HG2 : Hid (G b w w2) := HG.out.trans g1
          have HR2 : Hid (Rd b t q k w2) := r1
          clear g1 r1
          go_wp2_with fail
          refine (sign_bad1 b t q k _ HR2.out ht H92.out HM.out).mono ?_
          rintro e w3 ⟨rfl, g1⟩
          have HG3 : Hid (G b w w3) := HG2.out.trans g1
          clear g1
          go_wp2_with fail
          go_ret2
          refine ⟨HG3.out, Or.inl ⟨?_, rfl⟩⟩
          have := HGa.out
          unfold Gathered at this
          rw [this, signs_esc_bad H92.out HM.out]
          rfl
        · have H92 : Hid (hd (rest t q) = 92) := h92
          have HM : Hid (meaning (hd (rest t (q + 1))) ≠ 0) := hm
          have hlq2 : q + 1 < t.size := lt_of_hd (fun e => hm (by rw [e]; rfl))
          have hb : (((meaning (hd (rest t (q + 1)))).toNat : Int) == 0) = false := ne_bool 0 (by decide) hm
          clear h92 hm
          go_wp2_with fail
          refine (take_no b t q k 34 _ HR.out hq ht HN34.out).mono ?_
          rintro e w2 ⟨rfl, g1, r1⟩
          have HG2 : Hid (G b w w2) := HG.out.trans g1
          have HR2 : Hid (Rd b t q k w2) := r1
          have HO2 : Hid (Own w.heap.size w2 u4 l) := HO.out.kept g1 hbl
          clear g1 r1
          go_wp2_with fail
          refine (sign_esc b t q k _ HR2.out ht H92.out HM.out).mono ?_
          rintro e w3 ⟨rfl, g1, r1⟩
          have HG3 : Hid (G b w w3) := HG2.out.trans g1
          have HR3 : Hid (Rd b t (q + 2) k w3) := r1
          have HO3 : Hid (Own w.heap.size w3 u4 l) := HO2.out.kept g1 hbl
          clear g1 r1
          go_wp2_with (at_builtin; refine wpList_append_own _ rfl _ _ 99 rfl w.heap.size 5 i0 (.int .u8 0) 1 1 Tryz.underlying99 hi hz0 hz1 hz2 rfl (by decide) _ _ _ rfl (HO3.out.alloc _) ⟨w3.heap.size, 0, none⟩ 1 1 [.int .u8 (meaning (hd (rest t (q + 1)))).toNat] rfl rfl ?c1 ?c2 ?c3 ?c4 ?c5 ?_)
          case c1 =>
            intro j u hj
            match j, hj with
            | 0, hj => simp at hj; subst hj; simp [Addr.add]
          case c2 => intro u hu; simp at hu; subst hu; rfl
          case c3 => unfold maxLen; omega
          case c4 => omega
          case c5 => have := HG3.out.size; simp; omega
          intro v' w4 hown' hgrow _
          have HO4 : Hid (Own w.heap.size w4 v' (l ++ [meaning (hd (rest t (q + 1)))])) := by
            rw [cells_snoc] at hown'
            have e : (l ++ [meaning (hd (rest t (q + 1)))]).length = l.length + 1 := by simp
            unfold Own
            rw [e]
            exact hown'
          have HR4 : Hid (Rd b t (q + 2) k w4) := (HR3.out.alloc _).kept hgrow (fun e => by have := HO3.out.row b e.symm; omega)
          have HG4 : Hid (G b w w4) := (HG3.out.alloc _).grown hgrow HO3.out.row
          clear hown' hgrow
          go_wp2_with fail
          go_roundw
          case rel => exact ⟨l ++ [meaning (hd (rest t (q + 1)))], q + 2, by omega, by omega, by simp; omega, gathered_step HGa.out (signs_esc H92.out HM.out), HO4.out, HR4.out, HG4.out⟩
          case measure => rw [HR4.out.placeOf_eq, HR.out.placeOf_eq]; omega
      by_cases hm : plain (hd (rest t q)) = true
      · have H92 : Hid (hd (rest t q) ≠ 92) := h92
        have HM : Hid (plain (hd (rest t q)) = true) := hm
        have h0 : hd (rest t q) ≠ 0 := fun e => by rw [e] at hm; exact absurd hm (by decide)
        have hlq : q < t.size := lt_of_hd h0
        have hb : (((hd (rest t q)).toNat : Int) == 0) = false := ne_bool 0 (by decide) h0
        clear h92 hm h0
        go_wp2_with fail
        refine (take_no b t q k 34 _ HR.out hq ht HN34.out).mono ?_
        rintro e w2 ⟨rfl, g1, r1⟩
        have HG2 : Hid (G b w w2) := HG.out.trans g1
        have HR2 : Hid (Rd b t q k w2) := r1
        have HO2 : Hid (Own w.heap.size w2 u4 l) := HO.out.kept g1 hbl
        clear g1 r1
        go_wp2_with fail
        refine (sign_plain b t q k _ HR2.out ht H92.out HM.out).mono ?_
        rintro e w3 ⟨rfl, g1, r1⟩
        have HG3 : Hid (G b w w3) := HG2.out.trans g1
        have HR3 : Hid (Rd b t (q + 1) k w3) := r1
        have HO3 : Hid (Own w.heap.size w3 u4 l) := HO2.out.kept g1 hbl
        clear g1 r1
        go_wp2_with (at_builtin; refine wpList_append_own _ rfl _ _ 99 rfl w.heap.size 5 i0 (.int .u8 0) 1 1 Tryz.underlying99 hi hz0 hz1 hz2 rfl (by decide) _ _ _ rfl (HO3.out.alloc _) ⟨w3.heap.size, 0, none⟩ 1 1 [.int .u8 (hd (rest t q)).toNat] rfl rfl ?d1 ?d2 ?d3 ?d4 ?d5 ?_)
        case d1 =>
          intro j u hj
          match j, hj with
          | 0, hj => simp at hj; subst hj; simp [Addr.add]
        case d2 => intro u hu; simp at hu; subst hu; rfl
        case d3 => unfold maxLen; omega
        case d4 => omega
        case d5 => have := HG3.out.size; simp; omega
        intro v' w4 hown' hgrow _
        have HO4 : Hid (Own w.heap.size w4 v' (l ++ [hd (rest t q)])) := by
          rw [cells_snoc] at hown'
          have e : (l ++ [hd (rest t q)]).length = l.length + 1 := by simp
          unfold Own
          rw [e]
          exact hown'
        have HR4 : Hid (Rd b t (q + 1) k w4) := (HR3.out.alloc _).kept hgrow (fun e => by have := HO3.out.row b e.symm; omega)
        have HG4 : Hid (G b w w4) := (HG3.out.alloc _).grown hgrow HO3.out.row
        clear hown' hgrow
        go_wp2_with fail
        go_roundw
        case rel => exact ⟨l ++ [hd (rest t q)], q + 1, by omega, by omega, by simp; omega, gathered_step HGa.out (signs_plain HN34.out H92.out HM.out), HO4.out, HR4.out, HG4.out⟩
        case measure => rw [HR4.out.placeOf_eq, HR.out.placeOf_eq]; omega
      · have H92 : Hid (hd (rest t q) ≠ 92) := h92
        have HM : Hid (plain (hd (rest t q)) = false) := by show plain (hd (rest t q)) = false; simpa using hm
        clear h92 hm
        go_wp2_with fail
        refine (take_no b t q k 34 _ HR.out hq ht HN34.out).mono ?_
        rintro e w2 ⟨rfl, g1, r1⟩
        have HG2 : Hid (G b w w2) := HG.out.trans g1
        have HR2 : Hid (Rd b t q k w2) := r1
        clear g1 r1
        go_wp2_with fail
        refine (sign_bad2 b t q k _ HR2.out hq ht H92.out HM.out).mono ?_
        rintro e w3 ⟨rfl, g1⟩
        have HG3 : Hid (G b w w3) := HG2.out.trans g1
        clear g1
        go_wp2_with fail
        go_ret2
        refine ⟨HG3.out, Or.inl ⟨?_, rfl⟩⟩
        have := HGa.out
        unfold Gathered at this
        rw [this, signs_plain_bad HN34.out H92.out HM.out]
        rfl
  · have hq : quoted (rest t p) = none := by rw [quoted, if_neg hc]
    have HC : Hid (hd (rest t p) ≠ 34) := hc
    rw [hq]
    clear hc hq
    go_enter Tryz.func61, Tryz.ntmps61
    go_wp2_with fail
    refine (take_no b t p k 34 _ HR.out hp ht HC.out).mono ?_
    rintro e w1 ⟨rfl, g1, r1⟩
    have HG1 : Hid (G b w w1) := g1
    clear g1 r1
    go_wp2_with fail
    go_ret2
    exact ⟨HG1.out, Or.inl ⟨trivial, rfl⟩⟩
end Go.Proofs.YtaogilpkeeigoaaGreatDoor
