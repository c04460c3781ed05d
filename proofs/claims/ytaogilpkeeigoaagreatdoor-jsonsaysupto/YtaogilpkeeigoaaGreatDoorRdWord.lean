/- Contracts of the reader's methods over this translation: words. -/
import Derived.Test.YtaogilpkeeigoaaGreatDoorRdBegin
namespace Go.Proofs.YtaogilpkeeigoaaGreatDoor
open Go.RowKit
set_option linter.unusedVariables false
set_option linter.unusedSimpArgs false
theorem prefix_short {s p : ByteArray} (h : s.size < p.size) : p.data.toList.isPrefixOf s.data.toList = false := by
  rw [← Bool.not_eq_true, List.isPrefixOf_iff_prefix]
  intro hp
  have := hp.length_le
  simp at this
  omega
theorem prefix_long {s p : ByteArray} (h : p.size ≤ s.size) : p.data.toList.isPrefixOf s.data.toList = ((s.extract 0 p.size).toList == p.toList) := by
  rw [Bool.eq_iff_iff, List.isPrefixOf_iff_prefix, beq_iff_eq, ByteArray.toList_eq, ByteArray.toList_eq, List.prefix_iff_eq_take]
  have e : (s.extract 0 p.size).data.toList = s.data.toList.take p.data.toList.length := by simp
  rw [e]
  exact eq_comm
set_option maxRecDepth 100000 in
set_option maxHeartbeats 1000000 in
theorem hasPrefix_any (s p : ByteArray) (w : World) (hs : s.size ≤ 1000000) (hp : p.size ≤ 1000000) :
    Calls Tryz.prog 17 #[.string s, .string p] w fun e w' => e = .returned (.bool (p.data.toList.isPrefixOf s.data.toList)) ∧ w' = w := by
  by_cases h : p.size ≤ s.size
  · have HE : Hid (p.data.toList.isPrefixOf s.data.toList = ((s.extract 0 p.size).toList == p.toList)) := prefix_long h
    have hI : decide ((p.size : Int) ≤ (s.size : Int)) = true := by simp; omega
    go_enter Tryz.func17, Tryz.ntmps17
    go_wp2
    go_ret
    rw [HE.out]
    exact ⟨rfl, rfl⟩
  · have HE : Hid (p.data.toList.isPrefixOf s.data.toList = false) := prefix_short (by omega)
    have hI : decide ((p.size : Int) ≤ (s.size : Int)) = false := by simp; omega
    go_enter Tryz.func17, Tryz.ntmps17
    go_wp2
    go_ret
    rw [HE.out]
    exact ⟨rfl, rfl⟩
theorem extract_rest (t : ByteArray) (p : Nat) : (t.extract p t.size).data.toList = rest t p := by
  unfold rest
  simp
  rw [List.take_of_length_le (by simp)]
set_option maxRecDepth 100000 in
set_option maxHeartbeats 1000000 in
theorem word_yes (b : Nat) (t u : ByteArray) (p k : Nat) (w : World) (h : Rd b t p k w) (hp : p ≤ t.size) (ht : t.size ≤ 2000) (hu : u.size ≤ 2000) (hw : u.data.toList.isPrefixOf (rest t p) = true) :
    Calls Tryz.prog 60 #[.pointer (some ⟨b, 0, none⟩), .string u] w fun e w' => e = .returned (.int .i64 0) ∧ G b w w' ∧ Rd b t (p + u.size) k w' := by
  have h0 := h.text
  have h1 := h.place
  have HR : Hid (Rd b t p k w) := h
  have HW : Hid (u.data.toList.isPrefixOf (t.extract p t.size).data.toList = true) := by rw [extract_rest]; exact hw
  have hsz : (t.extract p t.size).size ≤ 1000000 := by simp; omega
  have HZ : Hid ((t.extract p t.size).size ≤ 1000000) := hsz
  have hI : (p : Int) ≤ (t.size : Int) := by omega
  have hw2 : u.data.toList.isPrefixOf (List.take (t.size - p) (List.drop p t.data.toList)) = true := by
    have e : List.take (t.size - p) (List.drop p t.data.toList) = rest t p := List.take_of_length_le (by simp)
    rw [e]; exact hw
  clear  h hw hsz
  go_enter Tryz.func60, Tryz.ntmps60
  go_wp2
  go_quiet (first | (go_at_call 17; exact Calls.quiet_of_same (hasPrefix_any _ _ _ (by exact HZ.out) (by omega))))
  rw [HW.out]
  have HR1 : Hid (Rd b t p k (w.drewN nq)) := HR.out.drewN nq
  have HG1 : Hid (G b w (w.drewN nq)) := (G.refl b w).drewN nq
  have c1 := HR1.out.place
  have c2 := HR1.out.free 1
  clear h0 h1
  generalize w.drewN nq = w1 at *
  go_wp2_with fail
  go_ret
  refine ⟨rfl, HG1.out.setCell 1 _, ?_⟩
  exact HR1.out.move (p + u.size)
set_option maxRecDepth 100000 in
set_option maxHeartbeats 1000000 in
theorem word_no (b : Nat) (t u : ByteArray) (p k : Nat) (w : World) (h : Rd b t p k w) (hp : p ≤ t.size) (ht : t.size ≤ 2000) (hu : u.size ≤ 2000) (hw : u.data.toList.isPrefixOf (rest t p) = false) :
    Calls Tryz.prog 60 #[.pointer (some ⟨b, 0, none⟩), .string u] w fun e w' => e = .returned (.int .i64 3) ∧ G b w w' := by
  have h0 := h.text
  have h1 := h.place
  have HR : Hid (Rd b t p k w) := h
  have HW : Hid (u.data.toList.isPrefixOf (t.extract p t.size).data.toList = false) := by
    show u.data.toList.isPrefixOf (t.extract p t.size).data.toList = false
    rw [extract_rest]; exact hw
  have hsz : (t.extract p t.size).size ≤ 1000000 := by simp; omega
  have HZ : Hid ((t.extract p t.size).size ≤ 1000000) := hsz
  have hI : (p : Int) ≤ (t.size : Int) := by omega
  have hw2 : u.data.toList.isPrefixOf (List.take (t.size - p) (List.drop p t.data.toList)) = false := by
    have e : List.take (t.size - p) (List.drop p t.data.toList) = rest t p := List.take_of_length_le (by simp)
    rw [e]; exact hw
  clear  h hw hsz
  go_enter Tryz.func60, Tryz.ntmps60
  go_wp2
  go_quiet (first | (go_at_call 17; exact Calls.quiet_of_same (hasPrefix_any _ _ _ (by exact HZ.out) (by omega))))
  rw [HW.out]
  have HG1 : Hid (G b w (w.drewN nq)) := (G.refl b w).drewN nq
  clear h0 h1
  generalize w.drewN nq = w1 at *
  go_wp2_with fail
  go_ret
  exact ⟨rfl, HG1.out⟩
/-! Digits. -/
/-- the place behind the digits -/
def digitsAt (t : ByteArray) (p : Nat) : Nat := p + ((rest t p).takeWhile isDigit).length
theorem isDigit_int (c : UInt8) : isDigit c = (decide ((48 : Int) ≤ (c.toNat : Int)) && decide ((c.toNat : Int) ≤ 57)) := by
  unfold isDigit
  congr 1
  · rw [decide_eq_decide, UInt8.le_iff_toNat_le]
    show 48 ≤ c.toNat ↔ _
    omega
  · rw [decide_eq_decide, UInt8.le_iff_toNat_le]
    show c.toNat ≤ 57 ↔ _
    omega
theorem digitsAt_step {t : ByteArray} {p : Nat} (h : isDigit (hd (rest t p)) = true) : p < t.size ∧ digitsAt t p = digitsAt t (p + 1) := by
  have hlt : p < t.size := lt_of_hd (fun e => by rw [e] at h; exact absurd h (by decide))
  refine ⟨hlt, ?_⟩
  unfold digitsAt
  rw [hd_lt hlt] at h
  rw [rest_cons hlt, List.takeWhile_cons, if_pos h, List.length_cons]
  omega
theorem digitsAt_stop {t : ByteArray} {p : Nat} (h : isDigit (hd (rest t p)) = false) : digitsAt t p = p := by
  unfold digitsAt
  rcases Nat.lt_or_ge p t.size with h' | h'
  · rw [hd_lt h'] at h
    rw [rest_cons h', List.takeWhile_cons, if_neg (by simp [h])]
    rfl
  · rw [rest_nil h']
    rfl
theorem digitsAt_le {t : ByteArray} {p : Nat} (hp : p ≤ t.size) : digitsAt t p ≤ t.size := by
  unfold digitsAt
  have h1 := (List.takeWhile_sublist isDigit (l := rest t p)).length_le
  rw [rest_len] at h1
  omega
set_option maxRecDepth 100000 in
set_option maxHeartbeats 1000000 in
theorem digits_any (b : Nat) (t : ByteArray) (p k : Nat) (w : World) (h : Rd b t p k w) (hp : p ≤ t.size) (ht : t.size ≤ 2000) :
    Calls Tryz.prog 84 #[.pointer (some ⟨b, 0, none⟩)] w fun e w' => e = .returned (.string (t.extract p (digitsAt t p))) ∧ G b w w' ∧ Rd b t (digitsAt t p) k w' := by
  have h1 := h.place
  have HR : Hid (Rd b t p k w) := h
  clear h
  go_enter Tryz.func84, Tryz.ntmps84
  go_wp2_with fail
  go_loopw [8] (fun _ wr => ∃ q, p ≤ q ∧ q ≤ t.size ∧ digitsAt t q = digitsAt t p ∧ Rd b t q k wr ∧ G b w wr) (fun _ wr => t.size - placeOf b wr)
  case atStart => exact ⟨p, Nat.le_refl _, hp, rfl, HR.out, G.refl _ _⟩
  case round =>
    obtain ⟨q, hpq, hq, hs, hR, hG⟩ := hrel
    have HS : Hid (digitsAt t q = digitsAt t p) := hs
    have HR : Hid (Rd b t q k wr) := hR
    have HG : Hid (G b w wr) := hG
    clear hs hR hG h1
    cases hdg : isDigit (hd (rest t q)) with
    | true =>
      have hst := digitsAt_step hdg
      have hlt := hst.1
      have HST : Hid (digitsAt t q = digitsAt t (q + 1)) := hst.2
      rw [isDigit_int, Bool.and_eq_true, decide_eq_true_eq, decide_eq_true_eq] at hdg
      obtain ⟨hd1, hd2⟩ := hdg
      clear hst
      go_wp2_with fail
      refine (next_g b t q k _ HR.out hq ht).mono ?_
      rintro e w1 ⟨rfl, g1, r1⟩
      have HG1 : Hid (G b w w1) := HG.out.trans g1
      have HR1 : Hid (Rd b t q k w1) := r1
      clear g1 r1
      go_wp2_with fail
      refine (next_g b t q k _ HR1.out hq ht).mono ?_
      rintro e w2 ⟨rfl, g1, r1⟩
      have HG2 : Hid (G b w w2) := HG1.out.trans g1
      have HR2 : Hid (Rd b t q k w2) := r1
      have c1 := r1.place
      have c2 := r1.free 1
      clear g1 r1
      go_wp2_with fail
      go_roundw
      case rel => exact ⟨q + 1, by omega, by omega, by rw [← HS.out, HST.out], HR2.out.move (q + 1), HG2.out.setCell 1 _⟩
      case measure => have e1 := (HR2.out.move (q + 1)).placeOf_eq; have e2 := HR.out.placeOf_eq; rw [e2]; have e3 : placeOf b (w2.setCell ⟨b, 1, none⟩ (.int .i64 ((q : Int) + 1))) = q + 1 := e1; rw [e3]; omega
    | false =>
      have HST : Hid (digitsAt t q = q) := digitsAt_stop hdg
      rw [isDigit_int] at hdg
      by_cases hd1 : (48 : Int) ≤ ((hd (rest t q)).toNat : Int)
      · have hd2 : ¬ ((hd (rest t q)).toNat : Int) ≤ 57 := by
          intro h2
          simp [hd1, h2] at hdg
        clear hdg
        go_wp2_with fail
        refine (next_g b t q k _ HR.out hq ht).mono ?_
        rintro e w1 ⟨rfl, g1, r1⟩
        have HG1 : Hid (G b w w1) := HG.out.trans g1
        have HR1 : Hid (Rd b t q k w1) := r1
        clear g1 r1
        go_wp2_with fail
        refine (next_g b t q k _ HR1.out hq ht).mono ?_
        rintro e w2 ⟨rfl, g1, r1⟩
        have HG2 : Hid (G b w w2) := HG1.out.trans g1
        have HR2 : Hid (Rd b t q k w2) := r1
        have c0 := r1.text
        have c1 := r1.place
        clear g1 r1
        go_wp2_with fail
        go_quiet (fail)
        go_wp2
        go_ret
        refine ⟨?_, HG2.out.drewN _, ?_⟩
        · rw [← HS.out, HST.out]; rfl
        · rw [← HS.out, HST.out]; exact HR2.out.drewN _
      · have hd1' : decide ((48 : Int) ≤ ((hd (rest t q)).toNat : Int)) = false := decide_eq_false hd1
        clear hdg hd1
        go_wp2_with fail
        refine (next_g b t q k _ HR.out hq ht).mono ?_
        rintro e w2 ⟨rfl, g1, r1⟩
        have HG2 : Hid (G b w w2) := HG.out.trans g1
        have HR2 : Hid (Rd b t q k w2) := r1
        have c0 := r1.text
        have c1 := r1.place
        clear g1 r1
        go_wp2_with fail
        go_quiet (fail)
        go_wp2
        go_ret
        refine ⟨?_, HG2.out.drewN _, ?_⟩
        · rw [← HS.out, HST.out]; rfl
        · rw [← HS.out, HST.out]; exact HR2.out.drewN _
end Go.Proofs.YtaogilpkeeigoaaGreatDoor
