/- Several texts in one: SlRfHex, SlRfUnhex. -/
import Derived.Test.YtmbpjbghhimedaaGreatDoorSlRfBits
import Derived.Test.YtmbpjbghhimedaaGreatDoorSlHex
import Derived.BigQuiet
import Derived.Test.YtmbpjbghhimedaaGreatDoorSlUnhex
/- Contract over this translation: what the document's Hex answers. -/
namespace Go.Proofs.YtmbpjbghhimedaaGreatDoor
open Go.RowKit
set_option linter.unusedVariables false
set_option linter.unusedSimpArgs false
theorem hex_part (i : Nat) (h : i < 16) : (((⟨#[48, 49, 50, 51, 52, 53, 54, 55, 56, 57, 97, 98, 99, 100, 101, 102]⟩ : ByteArray).extract i 16).extract 0 1) = Ba [hx i] := by
  have : i = 0 ∨ i = 1 ∨ i = 2 ∨ i = 3 ∨ i = 4 ∨ i = 5 ∨ i = 6 ∨ i = 7 ∨ i = 8 ∨ i = 9 ∨ i = 10 ∨ i = 11 ∨ i = 12 ∨ i = 13 ∨ i = 14 ∨ i = 15 := by omega
  rcases this with rfl | rfl | rfl | rfl | rfl | rfl | rfl | rfl | rfl | rfl | rfl | rfl | rfl | rfl | rfl | rfl
  all_goals decide +kernel
set_option maxRecDepth 100000 in
set_option maxHeartbeats 4000000 in
theorem refhex_any (s : Bs) (w : World) (hs : s.length ≤ 4194304) :
    Calls Tryz.prog 21 #[.string (Ba s)] w fun e w' => e = .returned (.string (Ba (hexP s))) ∧ Below w.heap.size w w' := by
  have hsz : (Ba s).size = s.length := ba_size s
  have HB0 : Hid (Below w.heap.size w w) := Below.refl _ _
  have HT : Hid (∀ k (h : k < s.length), hexP (s.take (k + 1)) = hexP (s.take k) ++ ([hx (s[k].toNat / 16)] ++ [hx (s[k].toNat % 16)])) := fun k h => by
    show _ = _
    rw [hexP_take s k h]
    rfl
  have HL : Hid (∀ k, (hexP (s.take k)).length ≤ 2 * s.length) := fun k => by
    show _ ≤ _
    rw [hexP_length, List.length_take]
    omega
  have HE : Hid (hexP (s.take s.length) = hexP s) := by show _ = _; rw [List.take_length]
  have H0 : Hid (hexP (s.take 0) = []) := rfl
  go_enter Tryz.func21, Tryz.ntmps21
  go_wp2_with fail
  go_loopw [3, 7] (fun o i wr => ∃ k : Nat, k ≤ s.length ∧ i = .int .i64 k ∧ o = .string (Ba (hexP (s.take k))) ∧ Below w.heap.size w wr) (fun _ i _ => s.length - (intOf i).toNat)
  case atStart => exact ⟨0, Nat.zero_le _, rfl, by rw [H0.out], HB0.out⟩
  case round =>
    obtain ⟨k, hk, rfl, rfl, hbel⟩ := hrel
    have HB : Hid (Below w.heap.size w wr) := hbel
    clear hbel
    by_cases hlt : k < s.length
    · have HTk : Hid (_) := HT.out k hlt
      have hal := HL.out k
      have hgt : (Ba s)[k]'(by rw [ba_size]; exact hlt) = s[k] := ba_get s k hlt
      have hc : s[k].toNat < 256 := s[k].toNat_lt
      have hkI : (k : Int) < (s.length : Int) := by omega
      generalize han : hexP (s.take (k + 1)) = an at *
      generalize hexP (s.take k) = ak at *
      generalize s[k] = x at *
      have HP1 : Hid (_) := hex_part (x.toNat / 16) (by omega)
      have HP2 : Hid (_) := hex_part (x.toNat % 16) (by omega)
      go_wp2_with fail
      go_quiet (fail)
      have HBq : Hid (Below w.heap.size w (wr.drewN nq)) := below_drewN HB.out _
      generalize wr.drewN nq = wq at *
      clear HB
      go_wp2_with fail
      go_roundw
      case rel => exact ⟨k + 1, by omega, by go_num, by rw [HP1.out, HP2.out, ba_append, ba_append, han, HTk.out], HBq.out⟩
      case measure => simp [intOf]; omega
    · have hke : k = s.length := by omega
      have hres : Hid (Ba (hexP (s.take k)) = Ba (hexP s)) := by show _ = _; rw [hke, HE.out]
      have hkI : ¬ ((k : Int) < (s.length : Int)) := by omega
      clear hke
      go_wp2_with fail
      go_ret
      exact ⟨by rw [hres.out]; rfl, HB.out⟩
end Go.Proofs.YtmbpjbghhimedaaGreatDoor
/- Contract over this translation: what the document's Unhex answers. -/
namespace Go.Proofs.YtmbpjbghhimedaaGreatDoor
open Go.RowKit
set_option linter.unusedVariables false
set_option linter.unusedSimpArgs false
set_option maxRecDepth 100000 in
set_option maxHeartbeats 4000000 in
theorem refunhex_any (s : Bs) (w : World) (hs : s.length ≤ 4194304) :
    Calls Tryz.prog 25 #[.string (Ba s)] w fun e w' => e = .returned (unhexA s) ∧ Below w.heap.size w w' := by
  have hsz : (Ba s).size = s.length := ba_size s
  have HB0 : Hid (Below w.heap.size w w) := Below.refl _ _
  have hchr : ∀ (a b : UInt8), 0 ≤ dgt a → 0 ≤ dgt b → ∀ w, Calls Tryz.prog 43 #[.int .i64 (16 * dgt a + dgt b)] w fun e w' => e = .returned (.string (Ba [byteP a b])) ∧ Below w.heap.size w w' := fun a b ha hb w => by
    have h := chr_any (byteP a b) w
    rw [byte_val a b ha hb, show dgt a * 16 + dgt b = 16 * dgt a + dgt b by omega] at h
    exact h
  have HChr : Hid (_) := hchr
  clear hchr
  have HOdd : Hid (s.length % 2 = 1 → unhexP s = none) := unhex_odd s
  go_enter Tryz.func25, Tryz.ntmps25
  go_wp2_with fail
  go_loopw [4, 5] (fun o i wr => ∃ (k : Nat) (done : Bs), 2 * k ≤ s.length ∧ (∃ j : Nat, j = 2 * k ∧ i = .int .i64 j) ∧ o = .string (Ba done) ∧ UInv s k done ∧ Below w.heap.size w wr) (fun _ i _ => s.length - (intOf i).toNat)
  case atStart => exact ⟨0, [], Nat.zero_le _, ⟨0, rfl, rfl⟩, rfl, UInv.start s, HB0.out⟩
  case round =>
    obtain ⟨k, done, hk, ⟨j, hj, rfl⟩, rfl, hinv, hbel⟩ := hrel
    have HB : Hid (Below w.heap.size w wr) := hbel
    have HV : Hid (UInv s k done) := hinv
    have hdl : done.length = k := hinv.1
    clear hbel hinv
    by_cases hlt : 2 * k < s.length
    · have hj0 : j < s.length := by omega
      obtain ⟨j1, hje⟩ : ∃ j1, j1 = j + 1 := ⟨_, rfl⟩
      have hwj : IntKind.i64.wrap ((j : Int) + 1) = (j1 : Int) := by rw [IntKind.wrap_i64]; omega
      by_cases hodd : 2 * k + 1 = s.length
      · have hun := HOdd.out (by omega)
        have hjo : (j1 : Int) = (s.length : Int) := by omega
        clear hlt hodd hk
        go_wp2_with fail
        go_ret2
        exact ⟨by rw [unhexA_none hun]; rfl, HB.out⟩
      · have hlt1 : 2 * k + 1 < s.length := by omega
        have hj1 : j + 1 < s.length := by omega
        have HN : Hid (0 ≤ dgt s[2 * k] → 0 ≤ dgt s[2 * k + 1] → UInv s (k + 1) (done ++ [byteP s[2 * k] s[2 * k + 1]])) := fun a b => HV.out.next hlt1 a b
        have HX : Hid (dgt s[2 * k] < 0 ∨ dgt s[2 * k + 1] < 0 → unhexP s = none) := fun h => HV.out.bad hlt1 h
        have hga : (Ba s)[j]'(by rw [ba_size]; exact hj0) = s[2 * k] := by rw [ba_get s _ hj0]; congr 1
        have hjl : j1 < s.length := by omega
        have hjI : ¬ ((j1 : Int) = (s.length : Int)) := by omega
        have hgb : (Ba s)[j1]'(by rw [ba_size]; exact hjl) = s[2 * k + 1] := by rw [ba_get s _ hjl]; congr 1; omega
        have HJE : Hid (j1 = j + 1) := hje
        clear hje hj1
        have HJ : Hid (j = 2 * k) := hj
        have HK : Hid (2 * k ≤ s.length) := hk
        clear hj hk
        have hcr := HChr.out s[2 * k] s[2 * k + 1]
        generalize hsa : s[2 * k] = xa at *
        generalize hsb : s[2 * k + 1] = xb at *
        obtain ⟨ra, rb, rc⟩ := dgt_range xa
        obtain ⟨sa, sb, sc⟩ := dgt_range xb
        have CA : Hid (∀ w, Calls Tryz.prog 50 #[.string ⟨#[48, 49, 50, 51, 52, 53, 54, 55, 56, 57, 97, 98, 99, 100, 101, 102]⟩, .int .u8 xa.toNat] w fun e w' => e = .returned (.int .i64 (dgt xa)) ∧ w' = w) := index_sign xa
        have CB : Hid (∀ w, Calls Tryz.prog 50 #[.string ⟨#[48, 49, 50, 51, 52, 53, 54, 55, 56, 57, 97, 98, 99, 100, 101, 102]⟩, .int .u8 xb.toNat] w fun e w' => e = .returned (.int .i64 (dgt xb)) ∧ w' = w) := index_sign xb
        have HCR : Hid (_) := hcr
        generalize byteP xa xb = y at *
        generalize dgt xa = da at *
        generalize dgt xb = db at *
        clear rc sc hsa hsb HV hlt hlt1 hodd hcr
        go_wp2_with fail
        go_quiet (first | (go_at_call 50; exact Calls.quiet_of_same (CA.out _)) | (go_at_call 50; exact Calls.quiet_of_same (CB.out _)))
        have HBq : Hid (Below w.heap.size w (wr.drewN nq)) := below_drewN HB.out _
        generalize wr.drewN nq = wq at *
        clear HB CA CB
        by_cases hbad : da < 0 ∨ db < 0
        · have hun := HX.out hbad
          by_cases hda : da < 0
          · go_wp2_with fail
            go_ret2
            exact ⟨by rw [unhexA_none hun]; rfl, HBq.out⟩
          · have hdb : db < 0 := by omega
            go_wp2_with fail
            go_ret2
            exact ⟨by rw [unhexA_none hun]; rfl, HBq.out⟩
        · have hda : 0 ≤ da := by omega
          have hdb : 0 ≤ db := by omega
          have HCq := HCR.out hda hdb wq
          have HCQ : Hid (_) := HCq
          clear HCq
          have HN2 := HN.out hda hdb
          have HN2' : Hid (_) := HN2
          clear HN2
          have hln : (Ba done).size = done.length := ba_size done
          have hln1 : (Ba [y]).size = 1 := ba_size [y]
          have hbig : ¬ (9223372036854775807 < (Ba done).size + (Ba [y]).size) := by rw [hln, hln1, hdl]; have := HK.out; omega
          have hcat : Ba done ++ Ba [y] = Ba (done ++ [y]) := ba_append done [y]
          have hz : (0 : Int) ≤ 16 * da + db := by omega
          go_wp2_with fail
          refine Calls.mono HCQ.out ?_
          rintro e w2 ⟨rfl, b2⟩
          have HB2 : Hid (Below w.heap.size w w2) := HBq.out.trans (b2.mono HBq.out.size)
          clear b2 HBq
          go_wp2_with fail
          have := HJ.out
          have := HJE.out
          have := HK.out
          go_roundw
          case rel => exact ⟨k + 1, done ++ [y], by omega, ⟨j + 2, by omega, by go_num⟩, by rw [← hcat], HN2'.out, HB2.out⟩
          case measure => simp [intOf]; omega
    · have hE := HV.out.all (by omega)
      have hjn : ¬ ((j : Int) < (s.length : Int)) := by omega
      go_wp2_with fail
      go_ret2
      exact ⟨by rw [unhexA_some hE]; rfl, HB.out⟩
end Go.Proofs.YtmbpjbghhimedaaGreatDoor
