/- Contracts over this translation of the reader of a selector's text: which bytes, blanks, signs, runs. -/
import Derived.Test.YtgaopmdpcjcooaaGreatDoorQParseQ
import Derived.Test.YtgaopmdpcjcooaaGreatDoorQG
import Derived.Test.YtgaopmdpcjcooaaGreatDoorShelf
import Derived.Test.YtgaopmdpcjcooaaGreatDoorQBuildS
import Derived.Deep.QuietTactic
import Derived.BigQuiet
namespace Go.Proofs.YtgaopmdpcjcooaaGreatDoor
open Go.RowKit
set_option linter.unusedVariables false
set_option linter.unusedSimpArgs false
/-- the reader: what is still to be read -/
def Rdr (b : Nat) (s : Bs) (w : World) : Prop := w.heap[b]? = some (.cells #[.string (Ba s)] 92 (0, 0))
section
variable {b : Nat} {s : Bs} {w w' : World}
theorem Rdr.text (h : Rdr b s w) : w.cell? ⟨b, 0, none⟩ = some (.string (Ba s)) := by rw [cell_of_row _ _ _ _ _ _ h]; rfl
theorem Rdr.free (h : Rdr b s w) (j : Nat) : w.frozen? ⟨b, j, none⟩ = false := frozen_of_row _ _ _ _ _ h
theorem Rdr.lt (h : Rdr b s w) : b < w.heap.size := lt_of_block h
theorem Rdr.move (h : Rdr b s w) (t : Bs) : Rdr b t (w.setCell ⟨b, 0, none⟩ (.string (Ba t))) := by
  have := heap_setCell_same w b 0 _ _ (.string (Ba t)) h
  exact this
theorem Rdr.below (h : Rdr b s w) (hb : Below w.heap.size w w') : Rdr b s w' := (hb.block b h.lt).trans h
theorem Rdr.kept {row : Option Nat} (h : Rdr b s w) (hg : w.grownBy w' row) (hne : some b ≠ row) : Rdr b s w' := (hg.block b h.lt hne).trans h
end
theorem G.of_below {b : Nat} {w w' : World} (h : Below w.heap.size w w') : G b w w' := ⟨h.os, h.tape, h.output, h.size, fun k hk _ => h.block k hk⟩
theorem idx_run (c : UInt8) : 0 ≤ firstIdx { data := #[45, 95, 46, 47] } c ↔ c = 45 ∨ c = 95 ∨ c = 46 ∨ c = 47 := by
  have r : List.range (ByteArray.size { data := #[45, 95, 46, 47] }) = [0, 1, 2, 3] := rfl
  have e0 : ({ data := #[45, 95, 46, 47] } : ByteArray)[0]! = 45 := rfl
  have e1 : ({ data := #[45, 95, 46, 47] } : ByteArray)[1]! = 95 := rfl
  have e2 : ({ data := #[45, 95, 46, 47] } : ByteArray)[2]! = 46 := rfl
  have e3 : ({ data := #[45, 95, 46, 47] } : ByteArray)[3]! = 47 := rfl
  unfold firstIdx
  rw [r]
  simp only [List.find?, e0, e1, e2, e3]
  by_cases h0 : (45 : UInt8) = c
  · simp [← h0]
  · have b0 : ((45 : UInt8) == c) = false := by simpa using h0
    have n0 : ¬ c = 45 := fun g => h0 g.symm
    by_cases h1 : (95 : UInt8) = c
    · simp [← h1]
    · have b1 : ((95 : UInt8) == c) = false := by simpa using h1
      have n1 : ¬ c = 95 := fun g => h1 g.symm
      by_cases h2 : (46 : UInt8) = c
      · simp [← h2]
      · have b2 : ((46 : UInt8) == c) = false := by simpa using h2
        have n2 : ¬ c = 46 := fun g => h2 g.symm
        by_cases h3 : (47 : UInt8) = c
        · simp [← h3]
        · have b3 : ((47 : UInt8) == c) = false := by simpa using h3
          have n3 : ¬ c = 47 := fun g => h3 g.symm
          simp [b0, b1, b2, b3, n0, n1, n2, n3]
theorem isRun_idx (c : UInt8) : isRun c = (letter (c.toNat : Int) || decide (0 ≤ firstIdx { data := #[45, 95, 46, 47] } c)) := by
  unfold isRun
  congr 1
  rw [Bool.eq_iff_iff, decide_eq_true_eq, idx_run]
  simp [or_assoc]
set_option maxHeartbeats 1000000 in
theorem isOfRun_any (c : UInt8) (w : World) : Calls Tryz.prog 99 #[.int .u8 c.toNat] w fun e w' => e = .returned (.bool (isRun c)) ∧ w' = w := by
  rw [isRun_idx]
  unfold letter small
  generalize hn : (c.toNat : Int) = n
  have hc : n.toNat.toUInt8 = c := by rw [← hn]; exact u8_back c
  have HI : Hid (∀ w1, Calls Tryz.prog 124 #[.string { data := #[45, 95, 46, 47] }, .int .u8 n] w1 fun e w' => e = .returned (.int .i64 (firstIdx { data := #[45, 95, 46, 47] } c)) ∧ w' = w1) := fun w1 => by
    have := index_any { data := #[45, 95, 46, 47] } n w1
    rw [hc] at this
    exact this
  clear hn hc
  generalize firstIdx { data := #[45, 95, 46, 47] } c = ix at *
  by_cases hix : 0 ≤ ix
  · go_enter Tryz.func99, Tryz.ntmps99
    go_wp2_with (go_at_call 124; refine (HI.out _).mono ?_; rintro e w' ⟨rfl, rfl⟩)
    all_goals go_ret
    all_goals refine ⟨?_, rfl⟩
    all_goals first | (simp [hix] <;> omega) | (refine ret_bool ?_; rw [Bool.eq_iff_iff]; simp only [Bool.or_eq_true, Bool.and_eq_true, decide_eq_true_eq]; omega)
  · go_enter Tryz.func99, Tryz.ntmps99
    go_wp2_with (go_at_call 124; refine (HI.out _).mono ?_; rintro e w' ⟨rfl, rfl⟩)
    all_goals go_ret
    all_goals refine ⟨?_, rfl⟩
    all_goals first | (simp [hix] <;> omega) | (refine ret_bool ?_; rw [Bool.eq_iff_iff]; simp only [Bool.or_eq_true, Bool.and_eq_true, decide_eq_true_eq]; omega)
theorem lv_trim (y : Bs) : Lib.trimLeftB y 32 = lv y := rfl
set_option maxHeartbeats 1000000 in
theorem leave_any (b : Nat) (s : Bs) (y : ByteArray) (w : World) (h : Rdr b s w) :
    Calls Tryz.prog 55 #[.pointer (some ⟨b, 0, none⟩), .string y] w fun e w' => e = .returned (.tuple #[]) ∧ G b w w' ∧ Rdr b (lv y.data.toList) w' := by
  have HT : Hid (∀ w1, Calls Tryz.prog 77 #[.string y, .string ⟨#[32]⟩] w1 fun e w' => e = .returned (.string (Ba (lv y.data.toList))) ∧ w' = w1) := fun w1 => Tryz.strings_TrimLeft_one y 32 (by decide) w1
  have h0 := h.text
  have h1 := h.free 0
  have HM : Hid (Rdr b (lv y.data.toList) (w.setCell ⟨b, 0, none⟩ (.string (Ba (lv y.data.toList))))) := h.move _
  clear h
  generalize hz : Ba (lv y.data.toList) = z at *
  go_enter Tryz.func55, Tryz.ntmps55
  go_wp2_with fail
  refine Calls.mono (HT.out _) ?_
  rintro e w1 ⟨rfl, rfl⟩
  go_wp2_with fail
  go_end0
  exact ⟨rfl, (G.refl b _).setCell 0 _, HM.out⟩
set_option maxHeartbeats 1000000 in
theorem cloneB_any (y : ByteArray) (w : World) (h : y.size ≤ 100000) : Calls Tryz.prog 38 #[.string y] w fun e w' => e = .returned (.string y) ∧ Below w.heap.size w w' := by
  have HC : Hid (Calls Tryz.prog 67 #[.string y] w fun e w' => e = .returned (.string y) ∧ Below w.heap.size w w') := Tryz.stringslite_Clone y w (by omega)
  go_enter Tryz.func38, Tryz.ntmps38
  go_wp2_with fail
  refine Calls.mono HC.out ?_
  rintro e w1 ⟨rfl, b⟩
  have HB : Hid (Below w.heap.size w w1) := b
  clear b
  go_wp2_with fail
  go_ret
  exact ⟨rfl, HB.out⟩
set_option maxHeartbeats 1000000 in
/-- a sign that is what comes next -/
theorem take_yes (b : Nat) (s r : Bs) (g : ByteArray) (w : World) (h : Rdr b s w) (ht : tk g.data.toList s = some r) :
    Calls Tryz.prog 57 #[.pointer (some ⟨b, 0, none⟩), .string g] w fun e w' => e = .returned (.bool true) ∧ G b w w' ∧ Rdr b r w' := by
  have hp : g.data.toList.isPrefixOf s = true := by
    unfold tk at ht
    by_cases hp : g.data.toList.isPrefixOf s = true
    · exact hp
    · rw [if_neg hp] at ht; cases ht
  have hr : r = lv (s.drop g.data.toList.length) := by
    unfold tk at ht
    rw [if_pos hp] at ht
    injection ht with ht
    exact ht.symm
  have HC : Hid (∀ w1, Calls Tryz.prog 80 #[.string (Ba s), .string g] w1 fun e w' => e = .returned (.tuple #[.string (Ba (s.drop g.data.toList.length)), .bool true]) ∧ w' = w1) := fun w1 => by
    have := Tryz.strings_CutPrefix (Ba s) g w1
    have hb : Lib.hasPrefix (Ba s).data.toList g.data.toList = true := by rw [ba_data]; exact hp
    unfold Lib.trimPrefix at this
    rw [hb, if_pos rfl, ba_data] at this
    exact this
  have HL : Hid (∀ w1, Rdr b s w1 → Calls Tryz.prog 55 #[.pointer (some ⟨b, 0, none⟩), .string (Ba (s.drop g.data.toList.length))] w1 fun e w' => e = .returned (.tuple #[]) ∧ G b w1 w' ∧ Rdr b r w') := fun w1 h1 => by
    have := leave_any b s (Ba (s.drop g.data.toList.length)) w1 h1
    rw [ba_data, ← hr] at this
    exact this
  have h0 := h.text
  have HR : Hid (Rdr b s w) := h
  clear h hp hr ht
  generalize Ba (s.drop g.data.toList.length) = z at *
  generalize Ba s = y at *
  go_enter Tryz.func57, Tryz.ntmps57
  go_wp2_with fail
  refine Calls.mono (HC.out _) ?_
  rintro e w1 ⟨rfl, rfl⟩
  go_wp2_with fail
  refine Calls.mono (HL.out _ HR.out) ?_
  rintro e w2 ⟨rfl, g2, r2⟩
  have HG : Hid (G b w1 w2) := g2
  have HR2 : Hid (Rdr b r w2) := r2
  clear g2 r2
  go_wp2_with fail
  go_ret
  exact ⟨rfl, HG.out, HR2.out⟩
set_option maxHeartbeats 1000000 in
theorem take_no (b : Nat) (s : Bs) (g : ByteArray) (w : World) (h : Rdr b s w) (ht : tk g.data.toList s = none) :
    Calls Tryz.prog 57 #[.pointer (some ⟨b, 0, none⟩), .string g] w fun e w' => e = .returned (.bool false) ∧ G b w w' ∧ Rdr b s w' := by
  have hp : g.data.toList.isPrefixOf s = false := by
    unfold tk at ht
    by_cases hp : g.data.toList.isPrefixOf s = true
    · rw [if_pos hp] at ht; cases ht
    · exact Bool.eq_false_iff.2 hp
  have HC : Hid (∀ w1, Calls Tryz.prog 80 #[.string (Ba s), .string g] w1 fun e w' => e = .returned (.tuple #[.string (Ba s), .bool false]) ∧ w' = w1) := fun w1 => by
    have := Tryz.strings_CutPrefix (Ba s) g w1
    have hb : Lib.hasPrefix (Ba s).data.toList g.data.toList = false := by rw [ba_data]; exact hp
    unfold Lib.trimPrefix at this
    rw [hb, if_neg (by simp), ba_data] at this
    exact this
  have h0 := h.text
  have HR : Hid (Rdr b s w) := h
  clear h hp ht
  generalize Ba s = y at *
  go_enter Tryz.func57, Tryz.ntmps57
  go_wp2_with fail
  refine Calls.mono (HC.out _) ?_
  rintro e w1 ⟨rfl, rfl⟩
  go_wp2_with fail
  go_ret
  exact ⟨rfl, G.refl b _, HR.out⟩
theorem tw_stop {p : UInt8 → Bool} : ∀ (s : Bs) (m : Nat), m ≤ s.length → (∀ i (hi : i < s.length), i < m → p s[i] = true) → (∀ hm : m < s.length, p s[m] = false) → s.takeWhile p = s.take m ∧ s.dropWhile p = s.drop m
  | [], m, _, _, _ => by simp
  | c :: s, 0, _, _, h2 => by
    have h0 : p c = false := h2 (Nat.zero_lt_succ _)
    simp [h0]
  | c :: s, m + 1, hm, h1, h2 => by
    have h0 : p c = true := h1 0 (Nat.zero_lt_succ _) (Nat.zero_lt_succ _)
    have ih := tw_stop s m (by simpa using hm) (fun i hi him => by have := h1 (i + 1) (by simpa using hi) (by omega); simpa using this) (fun hm' => by have := h2 (by simpa using hm'); simpa using this)
    simp only [List.takeWhile_cons, List.dropWhile_cons, h0, if_true, List.take_succ_cons, List.drop_succ_cons, ih.1, ih.2]
    exact ⟨trivial, trivial⟩
theorem ba_at {s : Bs} {k : Nat} (hk : k < (Ba s).size) (hk2 : k < s.length) : (Ba s)[k] = s[k] := rfl
set_option maxRecDepth 100000 in
set_option maxHeartbeats 2000000 in
theorem run_any (b : Nat) (s : Bs) (w : World) (h : Rdr b s w) (hs : s.length ≤ 1000) :
    Calls Tryz.prog 78 #[.pointer (some ⟨b, 0, none⟩)] w fun e w' => e = .returned (.string (Ba (rn s))) ∧ G b w w' ∧ Rdr b (rr s) w' := by
  have hsz := ba_size s
  have HR : Hid (Rdr b s w) := h
  have hI : (s.length : Int) ≤ 1000 := by omega
  have HFin : Hid (∀ k, k ≤ s.length → (∀ i (hi : i < s.length), i < k → isRun s[i] = true) → (∀ hm : k < s.length, isRun s[k] = false) → (Ba s).extract 0 k = Ba (rn s) ∧ lv ((Ba s).extract k (Ba s).size).data.toList = rr s) := fun k hk h1 h2 => by
    obtain ⟨e1, e2⟩ := tw_stop s k hk h1 h2
    constructor
    · apply ByteArray.ext
      have : ((Ba s).extract 0 k).data.toList = (Ba (rn s)).data.toList := by
        rw [Lib.extract_from_zero, ba_data, ba_data]
        unfold rn
        rw [e1]
      exact Array.toList_inj.1 this
    · rw [Lib.extract_to_end, ba_data]
      unfold rr
      rw [e2]
  have HQ : Hid (∀ k (hk : k < (Ba s).size) w1, Calls Tryz.prog 99 #[.int .u8 (Ba s)[k].toNat] w1 fun e w' => e = .returned (.bool (isRun (Ba s)[k])) ∧ w' = w1) := fun k hk w1 => isOfRun_any _ w1
  have HAt : Hid (∀ k (hk : k < (Ba s).size) (hk2 : k < s.length), (Ba s)[k]'hk = s[k]'hk2) := fun k hk hk2 => rfl
  clear h
  generalize hy : Ba s = y at *
  have HY : Hid (y.size = s.length) := hsz
  go_enter Tryz.func78, Tryz.ntmps78
  go_wp2_with fail
  go_loopw [3] (fun i wr => ∃ k : Nat, k ≤ s.length ∧ i = .int .i64 k ∧ (∀ j (hj : j < s.length), j < k → isRun s[j] = true) ∧ wr = w) (fun i _ => s.length - (intOf i).toNat)
  case atStart => exact ⟨0, Nat.zero_le _, rfl, fun j _ h => absurd h (Nat.not_lt_zero _), rfl⟩
  case round =>
    obtain ⟨k, hk, rfl, hall, rfl⟩ := hrel
    have HA : Hid (∀ j (hj : j < s.length), j < k → isRun s[j] = true) := hall
    clear hall
    have h0 := HR.out.text
    rw [hy] at h0
    have hyl := HY.out
    by_cases hlt : k < s.length
    · have hky : k < y.size := by omega
      have hkI : (k : Int) < (y.size : Int) := by omega
      have HQk : Hid (∀ w1, Calls Tryz.prog 99 #[.int .u8 (y[k]'hky).toNat] w1 fun e w' => e = .returned (.bool (isRun (y[k]'hky))) ∧ w' = w1) := HQ.out k hky
      have hat := HAt.out k hky hlt
      cases hx : isRun (y[k]'hky) with
      | true =>
        rw [hx] at HQk
        have HN : Hid (∀ j (hj : j < s.length), j < k + 1 → isRun s[j] = true) := fun j hj h => by
          rcases Nat.lt_succ_iff_lt_or_eq.1 h with h | h
          · exact HA.out j hj h
          · subst h; rw [← hat]; exact hx
        clear hx hat HA HFin HAt HQ
        go_wp2_with (go_at_call 99; refine (HQk.out _).mono ?_; rintro e w' ⟨rfl, rfl⟩)
        go_roundw
        case rel => exact ⟨k + 1, by omega, by go_num, HN.out, trivial⟩
        case measure => simp [intOf]; omega
      | false =>
        rw [hx] at HQk
        obtain ⟨e1, e2⟩ := HFin.out k hk HA.out (fun hm => by rw [← hat]; exact hx)
        have hyI : (y.size : Int) ≤ 1000 := by omega
        have E1 : Hid (_) := e1
        have E2 : Hid (_) := e2
        clear e1 e2 hyl hsz
        clear hx hat HA HFin HAt HQ
        go_wp2_with (go_at_call 99; refine (HQk.out _).mono ?_; rintro e w' ⟨rfl, rfl⟩)
        refine Calls.mono (cloneB_any _ _ ?c1) ?_
        case c1 => rw [E1.out, ba_size]; have := rn_len s; omega
        rintro e w1 ⟨rfl, b1⟩
        have HG1 : Hid (G b w' w1) := G.of_below b1
        have HR1 : Hid (Rdr b s w1) := HR.out.below b1
        have h1 := HR1.out.text
        rw [hy] at h1
        clear b1
        go_wp2_with fail
        refine Calls.mono (leave_any b s _ _ HR1.out) ?_
        rintro e w2 ⟨rfl, g2, r2⟩
        rw [E2.out] at r2
        have HG2 : Hid (G b w' w2) := HG1.out.trans g2
        have HR2 : Hid (Rdr b (rr s) w2) := r2
        clear g2 r2
        go_wp2_with fail
        go_ret
        exact ⟨by rw [E1.out]; rfl, HG2.out, HR2.out⟩
    · have hkI : ¬ (k : Int) < (y.size : Int) := by omega
      obtain ⟨e1, e2⟩ := HFin.out k hk HA.out (fun hm => absurd hm hlt)
      have hyI : (y.size : Int) ≤ 1000 := by omega
      have hkI2 : (k : Int) ≤ (y.size : Int) := by omega
      have E1 : Hid (_) := e1
      have E2 : Hid (_) := e2
      clear e1 e2 hyl hsz
      clear HA HFin HAt HQ
      go_wp2_with fail
      refine Calls.mono (cloneB_any _ _ ?c1) ?_
      case c1 => rw [E1.out, ba_size]; have := rn_len s; omega
      rintro e w1 ⟨rfl, b1⟩
      have HG1 : Hid (G b wr w1) := G.of_below b1
      have HR1 : Hid (Rdr b s w1) := HR.out.below b1
      have h1 := HR1.out.text
      rw [hy] at h1
      clear b1
      go_wp2_with fail
      refine Calls.mono (leave_any b s _ _ HR1.out) ?_
      rintro e w2 ⟨rfl, g2, r2⟩
      rw [E2.out] at r2
      have HG2 : Hid (G b wr w2) := HG1.out.trans g2
      have HR2 : Hid (Rdr b (rr s) w2) := r2
      clear g2 r2
      go_wp2_with fail
      go_ret
      exact ⟨by rw [E1.out]; rfl, HG2.out, HR2.out⟩
end Go.Proofs.YtgaopmdpcjcooaaGreatDoor
