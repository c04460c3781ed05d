/- Contract over this translation: what the document's Mac answers. -/
import Derived.Test.YtmbpjbghhimedaaGreatDoorSlRfSum
namespace Go.Proofs.YtmbpjbghhimedaaGreatDoor
open Go.RowKit
set_option linter.unusedVariables false
set_option linter.unusedSimpArgs false
theorem keyP_eq {key : Bs} (h : key.length ≤ 64) : keyP key = key ++ List.replicate (64 - key.length) 0 := by
  unfold keyP over
  rw [List.take_zero, List.nil_append, Nat.zero_add, List.drop_replicate]
theorem xor54 : ∀ n : Fin 256, bits .xor .i64 (n.val : Int) 54 = ((n.val ^^^ 54 : Nat) : Int) := by decide +kernel
theorem xor92 : ∀ n : Fin 256, bits .xor .i64 (n.val : Int) 92 = ((n.val ^^^ 92 : Nat) : Int) := by decide +kernel
theorem mask_take (b : Bs) (x : UInt8) (k : Nat) (h : k < b.length) : maskP (b.take (k + 1)) x = maskP (b.take k) x ++ [b[k] ^^^ x] := by
  rw [List.take_succ_eq_append_getElem h]
  simp only [maskP, List.map_append, List.map_cons, List.map_nil]
set_option maxRecDepth 100000 in
set_option maxHeartbeats 8000000 in
theorem refmac_short (key s : Bs) (w : World) (hk : key.length ≤ 64) (hs : s.length ≤ 1099511627000) :
    Calls Tryz.prog 22 #[.string (Ba key), .string (Ba s)] w fun e w' => e = .returned (.string (Ba (macK key s))) ∧ Below w.heap.size w w' := by
  have hks : (Ba key).size = key.length := ba_size key
  have HZ : Hid (∀ w, Calls Tryz.prog 43 #[.int .i64 0] w fun e w' => e = .returned (.string (Ba [0])) ∧ Below w.heap.size w w') := fun w => chr_any 0 w
  have hnI : ¬ ((64 : Int) < (key.length : Int)) := by omega
  obtain ⟨z, hz⟩ : ∃ z, z = 64 - key.length := ⟨_, rfl⟩
  have hz64 : z ≤ 64 := by omega
  have hw : IntKind.i64.wrap (64 - (key.length : Int)) = (z : Int) := by rw [IntKind.wrap_i64]; omega
  have hw2 : 64 - (key.length : Int) = (z : Int) := by omega
  have HRep : Hid (∀ w, Calls Tryz.prog 42 #[.string (Ba [0]), .int .i64 z] w fun e w' => e = .returned (.string (Ba (List.replicate z 0))) ∧ Below w.heap.size w w') := fun w => by
    have h := Tryz.strings_Repeat ⟨#[0]⟩ z w (by omega) (by show 1 * z ≤ _; omega)
    rw [show (⟨#[0]⟩ : ByteArray).data.toList = [0] from rfl, rep_zero] at h
    exact h
  obtain ⟨kk, hkk⟩ : ∃ kk, kk = keyP key := ⟨_, rfl⟩
  have hkl : kk.length = 64 := by rw [hkk, keyP_length hk]
  have hcat : Ba key ++ Ba (List.replicate z 0) = Ba kk := by rw [ba_append, hkk, keyP_eq hk, hz]
  have hrs : (Ba (List.replicate z 0)).size = z := by rw [ba_size, List.length_replicate]
  have hkks : (Ba kk).size = 64 := by rw [ba_size, hkl]
  have H1 : Hid (∀ k (h : k < kk.length), maskP (kk.take (k + 1)) 54 = maskP (kk.take k) 54 ++ [kk[k] ^^^ 54]) := fun k h => mask_take kk 54 k h
  have H2 : Hid (∀ k (h : k < kk.length), maskP (kk.take (k + 1)) 92 = maskP (kk.take k) 92 ++ [kk[k] ^^^ 92]) := fun k h => mask_take kk 92 k h
  have HLn : Hid (∀ k x, (maskP (kk.take k) x).length ≤ 64) := fun k x => by
    show _ ≤ _
    rw [maskP_length, List.length_take]
    omega
  have HE : Hid (∀ x, maskP (kk.take 64) x = maskP kk x) := fun x => by
    show _ = _
    rw [List.take_of_length_le (by omega)]
  have HM : Hid (macK key s = sumP (maskP kk 92 ++ sumP (maskP kk 54 ++ s))) := by rw [hkk]; rfl
  have HS1 : Hid (∀ w, Calls Tryz.prog 41 #[.string (Ba (maskP kk 54 ++ s))] w fun e w' => e = .returned (.string (Ba (sumP (maskP kk 54 ++ s)))) ∧ Below w.heap.size w w') := fun w => refsum_any _ w (by rw [List.length_append, maskP_length, hkl]; omega)
  have HS2 : Hid (∀ w, Calls Tryz.prog 41 #[.string (Ba (maskP kk 92 ++ sumP (maskP kk 54 ++ s)))] w fun e w' => e = .returned (.string (Ba (sumP (maskP kk 92 ++ sumP (maskP kk 54 ++ s))))) ∧ Below w.heap.size w w') := fun w => refsum_any _ w (by rw [List.length_append, maskP_length, hkl, sumP_length]; omega)
  have hl1 : (maskP kk 54).length = 64 := by rw [maskP_length, hkl]
  have hl2 : (maskP kk 92).length = 64 := by rw [maskP_length, hkl]
  have HLS : Hid (∀ x : Bs, (sumP x).length = 32) := sumP_length
  have HZz : Hid (z = 64 - key.length) := hz
  clear hz hkk
  generalize macK key s = ans at *
  go_enter Tryz.func22, Tryz.ntmps22
  go_wp2_with fail
  refine Calls.mono (HZ.out _) ?_
  rintro e w1 ⟨rfl, hb1⟩
  have HB1 : Hid (Below w.heap.size w w1) := hb1
  clear hb1
  go_wp2_with fail
  refine Calls.mono (HRep.out _) ?_
  rintro e w2 ⟨rfl, hb2⟩
  have HB2 : Hid (Below w.heap.size w w2) := HB1.out.trans (hb2.mono HB1.out.size)
  have hbig : ¬ (9223372036854775807 < key.length + z) := by omega
  have hbig2 : ¬ (9223372036854775807 < (Ba key).size + (Ba (List.replicate z 0)).size) := by rw [hks, hrs]; exact hbig
  clear hb2 HB1 hw hw2
  go_wp2_with fail
  go_loopw [5, 6, 20] (fun a b i wr => ∃ k : Nat, k ≤ 64 ∧ i = .int .i64 k ∧ a = .string (Ba (maskP (kk.take k) 54)) ∧ b = .string (Ba (maskP (kk.take k) 92)) ∧ Below w.heap.size w wr) (fun _ _ i _ => 64 - (intOf i).toNat)
  case atStart => exact ⟨0, Nat.zero_le _, rfl, rfl, rfl, HB2.out⟩
  case round =>
    obtain ⟨k, hk64, rfl, rfl, rfl, hbel⟩ := hrel
    have HB : Hid (Below w.heap.size w wr) := hbel
    clear hbel HB2
    by_cases hlt : k < 64
    · have hkI : (k : Int) < 64 := by omega
      have hkb : k < kk.length := by omega
      have h1 : Hid (_) := H1.out k hkb
      have h2 : Hid (_) := H2.out k hkb
      have hgt : (Ba kk)[k]'(by rw [ba_size]; exact hkb) = kk[k] := ba_get kk k hkb
      have hle1 := HLn.out k 54
      have hle2 := HLn.out k 92
      have hc := kk[k].toNat_lt
      have hx1 : bits .xor .i64 (kk[k].toNat : Int) 54 = ((kk[k] ^^^ 54).toNat : Int) := by
        rw [UInt8.toNat_xor]
        exact xor54 ⟨_, hc⟩
      have hx2 : bits .xor .i64 (kk[k].toNat : Int) 92 = ((kk[k] ^^^ 92).toNat : Int) := by
        rw [UInt8.toNat_xor]
        exact xor92 ⟨_, hc⟩
      have HC1 : Hid (∀ w, Calls Tryz.prog 43 #[.int .i64 (kk[k] ^^^ 54).toNat] w fun e w' => e = .returned (.string (Ba [kk[k] ^^^ 54])) ∧ Below w.heap.size w w') := fun w => chr_any _ w
      have HC2 : Hid (∀ w, Calls Tryz.prog 43 #[.int .i64 (kk[k] ^^^ 92).toNat] w fun e w' => e = .returned (.string (Ba [kk[k] ^^^ 92])) ∧ Below w.heap.size w w') := fun w => chr_any _ w
      generalize han : maskP (kk.take (k + 1)) 54 = an at *
      generalize hbn : maskP (kk.take (k + 1)) 92 = bn at *
      generalize maskP (kk.take k) 54 = ak at *
      generalize maskP (kk.take k) 92 = bk at *
      generalize kk[k] ^^^ 54 = y1 at *
      generalize kk[k] ^^^ 92 = y2 at *
      generalize kk[k] = x at *
      have hs1 : (Ba ak).size = ak.length := ba_size ak
      have hs2 : (Ba bk).size = bk.length := ba_size bk
      have ht1 : (Ba [y1]).size = 1 := ba_size [y1]
      have ht2 : (Ba [y2]).size = 1 := ba_size [y2]
      have hn1 : ¬ (9223372036854775807 < (Ba ak).size + (Ba [y1]).size) := by omega
      have hn2 : ¬ (9223372036854775807 < (Ba bk).size + (Ba [y2]).size) := by omega
      generalize hy1 : y1.toNat = n1 at *
      generalize hy2 : y2.toNat = n2 at *
      have hwx : wrap64 (x.toNat : Int) = (x.toNat : Int) := by unfold wrap64; omega
      go_wp2_with fail
      refine Calls.mono (HC1.out _) ?_
      rintro e w3 ⟨rfl, hb3⟩
      have HB3 : Hid (Below w.heap.size w w3) := HB.out.trans (hb3.mono HB.out.size)
      clear hb3 HB
      go_wp2_with fail
      refine Calls.mono (HC2.out _) ?_
      rintro e w4 ⟨rfl, hb4⟩
      have HB4 : Hid (Below w.heap.size w w4) := HB3.out.trans (hb4.mono HB3.out.size)
      clear hb4 HB3
      go_wp2_with fail
      go_roundw
      case rel => exact ⟨k + 1, by omega, by go_num, by rw [ba_append, han, h1.out], by rw [ba_append, hbn, h2.out], HB4.out⟩
      case measure => simp [intOf]; omega
    · have hke : k = 64 := by omega
      have hkI : ¬ ((k : Int) < 64) := by omega
      have e1 : maskP (kk.take k) 54 = maskP kk 54 := by rw [hke]; exact HE.out 54
      have e2 : maskP (kk.take k) 92 = maskP kk 92 := by rw [hke]; exact HE.out 92
      rw [e1, e2]
      have hc1 : Ba (maskP kk 54) ++ Ba s = Ba (maskP kk 54 ++ s) := ba_append _ _
      have hl3 := HLS.out (maskP kk 54 ++ s)
      have hc2 : Ba (maskP kk 92) ++ Ba (sumP (maskP kk 54 ++ s)) = Ba (maskP kk 92 ++ sumP (maskP kk 54 ++ s)) := ba_append _ _
      clear e1 e2 hke HE H1 H2 HLn
      generalize hr : sumP (maskP kk 92 ++ sumP (maskP kk 54 ++ s)) = res at *
      generalize ha : maskP kk 92 ++ sumP (maskP kk 54 ++ s) = t2 at *
      generalize hb : sumP (maskP kk 54 ++ s) = t3 at *
      generalize hd : maskP kk 54 ++ s = t1 at *
      generalize maskP kk 54 = m1 at *
      generalize maskP kk 92 = m2 at *
      have hsz1 : (Ba m1).size = 64 := by rw [ba_size]; exact hl1
      have hsz2 : (Ba m2).size = 64 := by rw [ba_size]; exact hl2
      have hsz3 : (Ba t3).size = 32 := by rw [ba_size]; exact hl3
      have hsz4 : (Ba s).size = s.length := ba_size s
      have hn1 : ¬ (9223372036854775807 < (Ba m1).size + (Ba s).size) := by omega
      have hn2 : ¬ (9223372036854775807 < (Ba m2).size + (Ba t3).size) := by omega
      go_wp2_with fail
      refine Calls.mono (HS1.out _) ?_
      rintro e w3 ⟨rfl, hb3⟩
      have HB3 : Hid (Below w.heap.size w w3) := HB.out.trans (hb3.mono HB.out.size)
      clear hb3 HB
      go_wp2_with fail
      refine Calls.mono (HS2.out _) ?_
      rintro e w4 ⟨rfl, hb4⟩
      have HB4 : Hid (Below w.heap.size w w4) := HB3.out.trans (hb4.mono HB3.out.size)
      clear hb4 HB3
      go_wp2_with fail
      go_ret
      exact ⟨by rw [HM.out]; rfl, HB4.out⟩
end Go.Proofs.YtmbpjbghhimedaaGreatDoor
