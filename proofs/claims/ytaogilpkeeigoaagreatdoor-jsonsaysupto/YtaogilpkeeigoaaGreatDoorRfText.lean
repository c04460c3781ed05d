/- Contracts over this translation of the reference's reader: texts. -/
import Derived.Test.YtaogilpkeeigoaaGreatDoorRfWord
import Derived.Test.YtaogilpkeeigoaaGreatDoorDocQuote
namespace Go.Proofs.YtaogilpkeeigoaaGreatDoor
open Go.RowKit
set_option linter.unusedVariables false
set_option linter.unusedSimpArgs false
def TextPost (b : Nat) (t : ByteArray) (p k : Nat) (w : World) (e : Ending) (w' : World) : Prop :=
  G b w w' ∧ ((signs (rest t (p + 1)) = none ∧ e = .returned (.tuple #[.string ⟨#[]⟩, .int .i64 3])) ∨
    ∃ (s : Bs) (q : Nat), q ≤ t.size ∧ signs (rest t (p + 1)) = some (s, rest t q) ∧ e = .returned (.tuple #[.string ⟨s.toArray⟩, .int .i64 0]) ∧ Rf b t q k w')
theorem byte_ne {c d : UInt8} (h : c ≠ d) : ((c.toNat : Int) == (d.toNat : Int)) = false := by
  rw [beq_eq_false_iff_ne]
  intro e
  exact h (UInt8.toNat_inj.1 (by omega))
theorem byte_wrap (c : UInt8) : wrap64 (c.toNat : Int) = (c.toNat : Int) := by
  have := c.toNat_lt
  unfold wrap64
  omega
theorem str_snoc (l : Bs) (c : UInt8) : (⟨l.toArray⟩ : ByteArray) ++ ⟨#[c]⟩ = ⟨(l ++ [c]).toArray⟩ := by
  apply ByteArray.ext
  simp [ByteArray.data_append]
theorem plain_iff (c : UInt8) : plain c = true ↔ (32 ≤ (c.toNat : Int) ∧ (c.toNat : Int) ≤ 126) := by
  unfold plain
  rw [Bool.and_eq_true, decide_eq_true_iff, decide_eq_true_iff, UInt8.le_iff_toNat_le, UInt8.le_iff_toNat_le]
  show 32 ≤ c.toNat ∧ c.toNat ≤ 126 ↔ _
  omega
theorem chr_at (c : UInt8) (w : World) (x : Int) (h : x = (c.toNat : Int)) :
    Calls Tryz.prog 35 #[.int .i64 x] w fun e w' => e = .returned (.string ⟨#[c]⟩) ∧ Below w.heap.size w w' := by
  subst h
  exact chr_any c w
def idxT : ByteArray := { data := #[34, 92, 110, 116] }
theorem idx_all : ∀ n : Fin 256, (if meaning (UInt8.ofNat n.val) = 0 then decide (firstIdx idxT (UInt8.ofNat n.val) < 0) else decide ((n.val = 34 ∧ firstIdx idxT (UInt8.ofNat n.val) = 0) ∨ (n.val = 92 ∧ firstIdx idxT (UInt8.ofNat n.val) = 1) ∨ (n.val = 110 ∧ firstIdx idxT (UInt8.ofNat n.val) = 2) ∨ (n.val = 116 ∧ firstIdx idxT (UInt8.ofNat n.val) = 3))) = true := by decide +kernel
theorem idx_cases (d : UInt8) : (meaning d = 0 ∧ firstIdx idxT d < 0) ∨ (d = 34 ∧ firstIdx idxT d = 0) ∨ (d = 92 ∧ firstIdx idxT d = 1) ∨ (d = 110 ∧ firstIdx idxT d = 2) ∨ (d = 116 ∧ firstIdx idxT d = 3) := by
  have h := idx_all ⟨d.toNat, d.toNat_lt⟩
  simp only [UInt8.ofNat_toNat] at h
  split at h
  · rename_i h0
    exact Or.inl ⟨h0, of_decide_eq_true h⟩
  · have h' := of_decide_eq_true h
    rcases h' with ⟨a, b⟩ | ⟨a, b⟩ | ⟨a, b⟩ | ⟨a, b⟩
    · exact Or.inr (Or.inl ⟨UInt8.toNat_inj.1 a, b⟩)
    · exact Or.inr (Or.inr (Or.inl ⟨UInt8.toNat_inj.1 a, b⟩))
    · exact Or.inr (Or.inr (Or.inr (Or.inl ⟨UInt8.toNat_inj.1 a, b⟩)))
    · exact Or.inr (Or.inr (Or.inr (Or.inr ⟨UInt8.toNat_inj.1 a, b⟩)))
set_option maxRecDepth 100000 in
set_option maxHeartbeats 4000000 in
theorem rftext_any (b : Nat) (t : ByteArray) (p k : Nat) (w : World) (h : Rf b t p k w) (hp : p < t.size) (ht : t.size ≤ 2000) :
    Calls Tryz.prog 38 #[.pointer (some ⟨b, 0, none⟩)] w (TextPost b t p k w) := by
  have HR : Hid (Rf b t p k w) := h
  have h1 := h.place
  clear h
  go_enter Tryz.func38, Tryz.ntmps38
  go_wp2_with fail
  go_loopw [4, 5] (fun o i wr => ∃ (q : Nat) (l : Bs), q ≤ t.size ∧ p + 1 + l.length ≤ q ∧ i = .int .i64 q ∧ o = .string ⟨l.toArray⟩ ∧ signs (rest t (p + 1)) = (signs (rest t q)).map (fun r => (l ++ r.1, r.2)) ∧ Rf b t p k wr ∧ G b w wr) (fun o i _ => t.size - (intOf i).toNat)
  case atStart =>
    refine ⟨p + 1, [], by omega, by simp, by go_num, rfl, ?_, HR.out, G.refl _ _⟩
    cases signs (rest t (p + 1)) <;> simp
  case round =>
    obtain ⟨q, l, hq, hl, rfl, rfl, hs, hR, hG⟩ := hrel
    have HS : Hid (signs (rest t (p + 1)) = (signs (rest t q)).map (fun r => (l ++ r.1, r.2))) := hs
    have HR1 : Hid (Rf b t p k wr) := hR
    have HG : Hid (G b w wr) := hG
    have h0 := hR.text
    have c1 := hR.place
    have c2 := hR.free 1
    have hll : l.length ≤ 2000 := by omega
    have HLl : Hid ((⟨l.toArray⟩ : ByteArray).size = l.length) := by show (⟨l.toArray⟩ : ByteArray).size = l.length; simp [ByteArray.size]
    clear hs hR hG h1
    by_cases hlt : q < t.size
    · have hI : (q : Int) < (t.size : Int) := by omega
      have HC : Hid (rest t q = t[q] :: rest t (q + 1)) := rest_cons hlt
      by_cases h34 : t[q] = 34
      · have HE : Hid (signs (rest t (p + 1)) = some (l, rest t (q + 1))) := by
          show signs (rest t (p + 1)) = _
          rw [HS.out, HC.out, signs_cons, if_pos h34]
          simp
        go_wp2_with fail
        go_ret2
        exact ⟨HG.out.setCell 1 _, Or.inr ⟨l, q + 1, by omega, HE.out, rfl, HR1.out.move (q + 1)⟩⟩
      have n34 : ((t[q].toNat : Int) == 34) = false := byte_ne h34
      by_cases h92 : t[q] = 92
      · by_cases hlt2 : q + 1 < t.size
        · have hI2 : (q : Int) + 1 < (t.size : Int) := by omega
          have HC2 : Hid (rest t (q + 1) = t[q + 1] :: rest t (q + 1 + 1)) := rest_cons hlt2
          rcases idx_cases t[q + 1] with ⟨hd1, hd2⟩ | ⟨hd1, hd2⟩ | ⟨hd1, hd2⟩ | ⟨hd1, hd2⟩ | ⟨hd1, hd2⟩
          · have HE : Hid (signs (rest t (p + 1)) = none) := by
              show signs (rest t (p + 1)) = none
              rw [HS.out, HC.out, signs_cons, if_neg h34, if_pos h92, HC2.out]
              simp only []
              rw [if_pos hd1]
              rfl
            go_wp2_with fail
            refine (index_any _ _ wr).mono ?_
            rintro e w0 ⟨rfl, rfl⟩
            have hneg : firstIdx { data := #[34, 92, 110, 116] } ((t[q + 1].toNat : Int)).toNat.toUInt8 < 0 := by rw [show ((t[q + 1].toNat : Int)).toNat.toUInt8 = t[q + 1] from by simp]; exact hd2
            generalize firstIdx { data := #[34, 92, 110, 116] } ((t[q + 1].toNat : Int)).toNat.toUInt8 = ix at *
            go_wp2_with fail
            go_ret2
            exact ⟨HG.out, Or.inl ⟨HE.out, rfl⟩⟩
          · have HE : Hid (signs (rest t (p + 1)) = (signs (rest t (q + 1 + 1))).map (fun r => (l ++ [34] ++ r.1, r.2))) := by
              show signs (rest t (p + 1)) = _
              rw [HS.out, HC.out, signs_cons, if_neg h34, if_pos h92, HC2.out]
              simp only []
              rw [hd1, if_neg (by decide)]
              have em : meaning 34 = 34 := by decide
              rw [em]
              cases signs (rest t (q + 1 + 1)) <;> simp
            go_wp2_with fail
            refine (index_any _ _ wr).mono ?_
            rintro e w0 ⟨rfl, rfl⟩
            rw [show firstIdx { data := #[34, 92, 110, 116] } (Int.toNat 34).toUInt8 = 0 from by decide +kernel]
            go_wp2_with fail
            refine Calls.mono (chr_at 34 w0 _ ?_) ?_
            · decide +kernel
            rintro e w1 ⟨rfl, b1⟩
            have HR2 : Hid (Rf b t p k w1) := (b1.block b HR1.out.lt).trans HR1.out
            have HG2 : Hid (G b w w1) := HG.out.grown (row := none) ⟨b1.os, b1.tape, b1.output, b1.size, fun k hk _ => b1.block k hk⟩ (fun k e => by cases e)
            have d1 : ¬ 9223372036854775807 < (⟨l.toArray⟩ : ByteArray).size + 1 := by rw [HLl.out]; omega
            have d2 : ¬ 9223372036854775807 < l.length + 1 := by omega
            clear b1
            go_wp2_with fail
            go_roundw
            case rel => exact ⟨q + 1 + 1, l ++ [34], by omega, by simp; omega, by go_num, by rw [← str_snoc], HE.out, HR2.out, HG2.out⟩
            case measure => simp [intOf]; omega
          · have HE : Hid (signs (rest t (p + 1)) = (signs (rest t (q + 1 + 1))).map (fun r => (l ++ [92] ++ r.1, r.2))) := by
              show signs (rest t (p + 1)) = _
              rw [HS.out, HC.out, signs_cons, if_neg h34, if_pos h92, HC2.out]
              simp only []
              rw [hd1, if_neg (by decide)]
              have em : meaning 92 = 92 := by decide
              rw [em]
              cases signs (rest t (q + 1 + 1)) <;> simp
            go_wp2_with fail
            refine (index_any _ _ wr).mono ?_
            rintro e w0 ⟨rfl, rfl⟩
            rw [show firstIdx { data := #[34, 92, 110, 116] } (Int.toNat 92).toUInt8 = 1 from by decide +kernel]
            go_wp2_with fail
            refine Calls.mono (chr_at 92 w0 _ ?_) ?_
            · decide +kernel
            rintro e w1 ⟨rfl, b1⟩
            have HR2 : Hid (Rf b t p k w1) := (b1.block b HR1.out.lt).trans HR1.out
            have HG2 : Hid (G b w w1) := HG.out.grown (row := none) ⟨b1.os, b1.tape, b1.output, b1.size, fun k hk _ => b1.block k hk⟩ (fun k e => by cases e)
            have d1 : ¬ 9223372036854775807 < (⟨l.toArray⟩ : ByteArray).size + 1 := by rw [HLl.out]; omega
            have d2 : ¬ 9223372036854775807 < l.length + 1 := by omega
            clear b1
            go_wp2_with fail
            go_roundw
            case rel => exact ⟨q + 1 + 1, l ++ [92], by omega, by simp; omega, by go_num, by rw [← str_snoc], HE.out, HR2.out, HG2.out⟩
            case measure => simp [intOf]; omega
          · have HE : Hid (signs (rest t (p + 1)) = (signs (rest t (q + 1 + 1))).map (fun r => (l ++ [10] ++ r.1, r.2))) := by
              show signs (rest t (p + 1)) = _
              rw [HS.out, HC.out, signs_cons, if_neg h34, if_pos h92, HC2.out]
              simp only []
              rw [hd1, if_neg (by decide)]
              have em : meaning 110 = 10 := by decide
              rw [em]
              cases signs (rest t (q + 1 + 1)) <;> simp
            go_wp2_with fail
            refine (index_any _ _ wr).mono ?_
            rintro e w0 ⟨rfl, rfl⟩
            rw [show firstIdx { data := #[34, 92, 110, 116] } (Int.toNat 110).toUInt8 = 2 from by decide +kernel]
            go_wp2_with fail
            refine Calls.mono (chr_at 10 w0 _ ?_) ?_
            · decide +kernel
            rintro e w1 ⟨rfl, b1⟩
            have HR2 : Hid (Rf b t p k w1) := (b1.block b HR1.out.lt).trans HR1.out
            have HG2 : Hid (G b w w1) := HG.out.grown (row := none) ⟨b1.os, b1.tape, b1.output, b1.size, fun k hk _ => b1.block k hk⟩ (fun k e => by cases e)
            have d1 : ¬ 9223372036854775807 < (⟨l.toArray⟩ : ByteArray).size + 1 := by rw [HLl.out]; omega
            have d2 : ¬ 9223372036854775807 < l.length + 1 := by omega
            clear b1
            go_wp2_with fail
            go_roundw
            case rel => exact ⟨q + 1 + 1, l ++ [10], by omega, by simp; omega, by go_num, by rw [← str_snoc], HE.out, HR2.out, HG2.out⟩
            case measure => simp [intOf]; omega
          · have HE : Hid (signs (rest t (p + 1)) = (signs (rest t (q + 1 + 1))).map (fun r => (l ++ [9] ++ r.1, r.2))) := by
              show signs (rest t (p + 1)) = _
              rw [HS.out, HC.out, signs_cons, if_neg h34, if_pos h92, HC2.out]
              simp only []
              rw [hd1, if_neg (by decide)]
              have em : meaning 116 = 9 := by decide
              rw [em]
              cases signs (rest t (q + 1 + 1)) <;> simp
            go_wp2_with fail
            refine (index_any _ _ wr).mono ?_
            rintro e w0 ⟨rfl, rfl⟩
            rw [show firstIdx { data := #[34, 92, 110, 116] } (Int.toNat 116).toUInt8 = 3 from by decide +kernel]
            go_wp2_with fail
            refine Calls.mono (chr_at 9 w0 _ ?_) ?_
            · decide +kernel
            rintro e w1 ⟨rfl, b1⟩
            have HR2 : Hid (Rf b t p k w1) := (b1.block b HR1.out.lt).trans HR1.out
            have HG2 : Hid (G b w w1) := HG.out.grown (row := none) ⟨b1.os, b1.tape, b1.output, b1.size, fun k hk _ => b1.block k hk⟩ (fun k e => by cases e)
            have d1 : ¬ 9223372036854775807 < (⟨l.toArray⟩ : ByteArray).size + 1 := by rw [HLl.out]; omega
            have d2 : ¬ 9223372036854775807 < l.length + 1 := by omega
            clear b1
            go_wp2_with fail
            go_roundw
            case rel => exact ⟨q + 1 + 1, l ++ [9], by omega, by simp; omega, by go_num, by rw [← str_snoc], HE.out, HR2.out, HG2.out⟩
            case measure => simp [intOf]; omega
        · have hI2 : ¬ (q : Int) + 1 < (t.size : Int) := by omega
          have HE : Hid (signs (rest t (p + 1)) = none) := by
            show signs (rest t (p + 1)) = none
            rw [HS.out, HC.out, signs_cons, if_neg h34, if_pos h92, rest_nil (by omega)]
            rfl
          go_wp2_with fail
          go_ret2
          exact ⟨HG.out, Or.inl ⟨HE.out, rfl⟩⟩
      have n92 : ((t[q].toNat : Int) == 92) = false := byte_ne h92
      by_cases hpl : plain t[q] = true
      · obtain ⟨g1, g2⟩ := (plain_iff t[q]).1 hpl
        have g1' : decide ((t[q].toNat : Int) < 32) = false := by rw [decide_eq_false_iff_not]; omega
        have g2' : decide ((126 : Int) < (t[q].toNat : Int)) = false := by rw [decide_eq_false_iff_not]; omega
        have HE : Hid (signs (rest t (p + 1)) = (signs (rest t (q + 1))).map (fun r => (l ++ [t[q]] ++ r.1, r.2))) := by
          show signs (rest t (p + 1)) = _
          rw [HS.out, HC.out, signs_cons, if_neg h34, if_neg h92, if_pos hpl]
          cases signs (rest t (q + 1)) <;> simp
        have hwr := byte_wrap t[q]
        clear h34 h92 hpl g1 g2
        go_wp2_with fail
        refine (chr_any t[q] wr).mono ?_
        rintro e w1 ⟨rfl, b1⟩
        have HR2 : Hid (Rf b t p k w1) := (b1.block b HR1.out.lt).trans HR1.out
        have HG2 : Hid (G b w w1) := HG.out.grown (row := none) ⟨b1.os, b1.tape, b1.output, b1.size, fun k hk _ => b1.block k hk⟩ (fun k e => by cases e)
        have d1 : ¬ 9223372036854775807 < (⟨l.toArray⟩ : ByteArray).size + 1 := by rw [HLl.out]; omega
        have d2 : ¬ 9223372036854775807 < l.length + 1 := by omega
        clear b1
        go_wp2_with fail
        go_roundw
        case rel => exact ⟨q + 1, l ++ [t[q]], by omega, by simp; omega, by go_num, by rw [← str_snoc], HE.out, HR2.out, HG2.out⟩
        case measure => simp [intOf]; omega
      · have g3 : (decide ((t[q].toNat : Int) < 32) || decide ((126 : Int) < (t[q].toNat : Int))) = true := by
          have := plain_iff t[q]
          rw [Bool.or_eq_true, decide_eq_true_iff, decide_eq_true_iff]
          apply Classical.byContradiction
          intro hc
          exact hpl (this.2 (by omega))
        have HE : Hid (signs (rest t (p + 1)) = none) := by
          show signs (rest t (p + 1)) = none
          rw [HS.out, HC.out, signs_cons, if_neg h34, if_neg h92, if_neg hpl]
          rfl
        by_cases g1 : (t[q].toNat : Int) < 32
        · go_wp2_with fail
          go_ret2
          exact ⟨HG.out, Or.inl ⟨HE.out, rfl⟩⟩
        · have g2 : (126 : Int) < (t[q].toNat : Int) := by
            rw [Bool.or_eq_true, decide_eq_true_iff, decide_eq_true_iff] at g3
            omega
          clear g3
          go_wp2_with fail
          go_ret2
          exact ⟨HG.out, Or.inl ⟨HE.out, rfl⟩⟩
    · have hI : ¬ (q : Int) < (t.size : Int) := by omega
      have HE : Hid (signs (rest t (p + 1)) = none) := by
        show signs (rest t (p + 1)) = none
        rw [HS.out, rest_nil (by omega), signs_nil]
        rfl
      go_wp2_with fail
      go_ret2
      exact ⟨HG.out, Or.inl ⟨HE.out, rfl⟩⟩
end Go.Proofs.YtaogilpkeeigoaaGreatDoor
