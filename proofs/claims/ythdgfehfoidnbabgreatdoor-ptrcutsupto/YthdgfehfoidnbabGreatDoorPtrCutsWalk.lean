/- The law PtrCuts over this translation: it answers true at every two texts, and leaves old memory alone. -/
import Derived.Test.YthdgfehfoidnbabGreatDoorPtrCutsPlain
namespace Go.Proofs.YthdgfehfoidnbabGreatDoor
open Go.RowKit
set_option linter.unusedVariables false
set_option linter.unusedSimpArgs false
set_option maxRecDepth 100000 in
set_option maxHeartbeats 4000000 in
theorem ptrCuts_walk (N : Nat) (hN : 20 ≤ N) (hM : N ≤ 100000) (doc p : ByteArray) (w : World) (hd : doc.size ≤ 2000000) (hp : p.size ≤ 2000000) (hE : Env w) :
    Calls Tryz.prog 5 #[.string doc, .string p] w fun e w' => e = .returned (.bool true) ∧ Below w.heap.size w w' := by
  have H1 : Hid (Says w 10 #[.string ⟨#[49]⟩, .string ⟨#[]⟩] (.tuple #[.string ByteArray.empty, .int .i64 1])) := cut_says N hN hM (x := [49]) (y := []) hE (by show 1 ≤ _; omega) (by show 0 ≤ _; omega) rfl rfl cutA_one
  rcases cutA_cases N hN doc.data.toList p.data.toList with ⟨er, her, hg⟩ | ⟨D, M, s, R, hr, hs, hc, hT, hg⟩
  · have HG : Hid (Says w 10 #[.string doc, .string p] (.tuple #[.string ByteArray.empty, .int .i64 er])) := cut_says N hN hM hE (by omega) (by omega) rfl rfl hg
    have hbe : ((er : Int) != 0) = true := by rw [bne_iff_ne]; omega
    clear hE hg
    go_enter Tryz.func5, Tryz.ntmps5
    go_wp2_with fail
    refine Calls.mono (H1.out w (Below.refl _ _)) ?_
    rintro e w1 ⟨rfl, b1⟩
    have HB1 : Hid (Below w.heap.size w w1) := b1
    clear b1
    go_wp2_with fail
    refine Calls.mono (HG.out w1 HB1.out) ?_
    rintro e w2 ⟨rfl, b2⟩
    have HB2 : Hid (Below w.heap.size w w2) := HB1.out.trans (b2.mono HB1.out.size)
    clear b2
    go_wp2_with fail
    go_ret
    exact ⟨rfl, HB2.out⟩
  · have HG : Hid (Says w 10 #[.string doc, .string p] (.tuple #[.string ⟨(tell N R).toArray⟩, .int .i64 0])) := cut_says N hN hM hE (by omega) (by omega) rfl rfl hg
    have hTD := rd20_told hN hr
    have hF := cut_facts s M N D R hTD.good hc
    obtain ⟨H, hH, hk⟩ := hF.holder
    have hTH := hTD.get hH
    obtain ⟨hl1, hl2, hl3, hl4⟩ := ahead hs
    have hlR := hT.len
    have hlH := hTH.len
    have HL : Hid (∀ w, Calls Tryz.prog 11 #[.string p, .string ⟨#[47]⟩] w fun e w' => e = .returned (.int .i64 ((joinB M).length : Int)) ∧ Below w.heap.size w w') := by
      intro w
      refine (Tryz.strings_LastIndex_one p ⟨#[47]⟩ rfl (by omega) w).mono ?_
      rintro e w' ⟨rfl, rfl⟩
      refine ⟨?_, Below.refl _ _⟩
      rw [← hl1]
      rfl
    have HU : Hid (Says w 6 #[.string doc, .string (p.extract 0 (joinB M).length)] (.tuple #[.string ⟨(tell N H).toArray⟩, .int .i64 0])) := by
      refine get_says N hN hE (by omega) (by rw [ByteArray.size_extract]; omega) rfl hl3 ?_
      unfold getA
      rw [hr]
      simp only [hl4, hH]
      exact hTH.told
    obtain ⟨jH, hjH, _, hkH⟩ := told_read10 hTH
    have hzH : (⟨(tell N H).toArray⟩ : ByteArray).size ≤ maxLen := by rw [size_arr]; unfold maxLen; omega
    have hzR : (⟨(tell N R).toArray⟩ : ByteArray).size ≤ maxLen := by rw [size_arr]; unfold maxLen; omega
    have hzR' : (⟨(tell N R).toArray⟩ : ByteArray).size ≤ 8000000 := by rw [size_arr]; omega
    obtain ⟨jD, hjD, htD, hnD⟩ := rd20_nodes hN hr
    obtain ⟨jR, hjR, hnR, _⟩ := told_read10 hT
    have hnn := hF.nodes
    generalize hkk : (joinB M).length = kk at *
    clear hkk
    rcases hk with hk | ⟨hk, ⟨c, hcc, hput⟩, hno⟩
    · have HK : Hid (Says w 12 #[.string ⟨(tell N H).toArray⟩] (.tuple #[.int .i64 (5 : Nat), .int .i64 0])) := kind_ok2 hzH rfl hjH (hkH.trans hk)
      have HZ1 : Hid (Says w 13 #[.string doc] (.tuple #[.int .i64 (nodes N D), .int .i64 (depth 10 jD), .int .i64 0])) := (size_ok (by unfold maxLen; omega) rfl hjD).mono (by rw [hnD])
      have HZ2 : Hid (Says w 13 #[.string ⟨(tell N R).toArray⟩] (.tuple #[.int .i64 (nodes N R), .int .i64 (depth 10 jR), .int .i64 0])) := (size_ok hzR rfl hjR).mono (by rw [hnR])
      have hlt : ((nodes N R : Nat) : Int) < ((nodes N D : Nat) : Int) := by omega
      clear hE hg hTD hF hTH hl1 hl3 hl4 hlR hlH hzH hzR hzR' hnD hnR hnn hT hr hs hc hH hk hkH hjH hjD hjR htD
      generalize (⟨(tell N H).toArray⟩ : ByteArray) = th at *
      generalize (⟨(tell N R).toArray⟩ : ByteArray) = tr at *
      generalize nodes N R = nr at *
      generalize nodes N D = nd at *
      generalize depth 10 jD = dd at *
      generalize depth 10 jR = dr at *
      go_enter Tryz.func5, Tryz.ntmps5
      go_wp2_with fail
      refine Calls.mono (H1.out w (Below.refl _ _)) ?_
      rintro e w1 ⟨rfl, b1⟩
      have HB1 : Hid (Below w.heap.size w w1) := b1
      clear b1
      go_wp2_with fail
      refine Calls.mono (HG.out w1 HB1.out) ?_
      rintro e w2 ⟨rfl, b2⟩
      have HB2 : Hid (Below w.heap.size w w2) := HB1.out.trans (b2.mono HB1.out.size)
      clear b2
      go_wp2_with fail
      refine Calls.mono (HL.out w2) ?_
      rintro e w3 ⟨rfl, b3⟩
      have HB3 : Hid (Below w.heap.size w w3) := HB2.out.trans (b3.mono HB2.out.size)
      clear b3
      go_wp2_with fail
      refine Calls.mono (HU.out w3 HB3.out) ?_
      rintro e w4 ⟨rfl, b4⟩
      have HB4 : Hid (Below w.heap.size w w4) := HB3.out.trans (b4.mono HB3.out.size)
      clear b4
      go_wp2_with fail
      refine Calls.mono (HK.out w4 HB4.out) ?_
      rintro e w5 ⟨rfl, b5⟩
      have HB5 : Hid (Below w.heap.size w w5) := HB4.out.trans (b5.mono HB4.out.size)
      clear b5
      go_wp2_with fail
      refine Calls.mono (HZ1.out w5 HB5.out) ?_
      rintro e w6 ⟨rfl, b6⟩
      have HB6 : Hid (Below w.heap.size w w6) := HB5.out.trans (b6.mono HB5.out.size)
      clear b6
      go_wp2_with fail
      refine Calls.mono (HZ2.out w6 HB6.out) ?_
      rintro e w7 ⟨rfl, b7⟩
      have HB7 : Hid (Below w.heap.size w w7) := HB6.out.trans (b7.mono HB6.out.size)
      clear b7
      go_wp2_with fail
      go_ret
      exact ⟨rfl, HB7.out⟩
    · have HK : Hid (Says w 12 #[.string ⟨(tell N H).toArray⟩] (.tuple #[.int .i64 (6 : Nat), .int .i64 0])) := kind_ok2 hzH rfl hjH (hkH.trans hk)
      have hTc := hTD.get hcc
      have hlc := hTc.len
      have hzc : (⟨(tell N c).toArray⟩ : ByteArray).size ≤ 8000000 := by rw [size_arr]; omega
      have HW : Hid (Says w 6 #[.string doc, .string p] (.tuple #[.string ⟨(tell N c).toArray⟩, .int .i64 0])) := by
        refine get_says N hN hE (by omega) (by omega) rfl rfl ?_
        unfold getA
        rw [hr]
        simp only [hs, hcc]
        exact hTc.told
      have HX : Hid (Says w 6 #[.string ⟨(tell N R).toArray⟩, .string p] (.tuple #[.string ByteArray.empty, .int .i64 7])) := by
        refine get_says N hN hE hzR' (by omega) rfl rfl ?_
        unfold getA
        rw [hT.again hN]
        simp only [hs, hno]
      have hpr : putR N R (M ++ [s]) c = .ok D := by
        unfold putR
        rw [if_neg (by simp), List.dropLast_concat]
        have e : (M ++ [s]).getLast?.getD [] = s := by simp
        rw [e]
        refine hput _ (fun m c0 hm e => ?_)
        show lift N m c = c0
        rw [← e, lift_lift _ _ _ _ (Nat.le_trans (depth_bound m c0) hm), lift_self]
      have HP : Hid (Says w 7 #[.string ⟨(tell N R).toArray⟩, .string p, .string ⟨(tell N c).toArray⟩] (.tuple #[.string ⟨(tell N D).toArray⟩, .int .i64 0])) :=
        (put_says N hN (doc := ⟨(tell N R).toArray⟩) (v := ⟨(tell N c).toArray⟩) (G := c) hE hzR' (by omega) hzc (hT.again hN) hs (hTc.again hN) (fun R' e => by rw [hpr] at e; cases e; exact hTD.fine)).mono (by rw [hpr]; exact congrArg _ hTD.told)
      have HC : Hid (Says w 8 #[.string doc] (.tuple #[.string ⟨(tell N D).toArray⟩, .bool true])) := keep_ok hE.tab (by unfold maxLen; omega) rfl hjD htD.symm
      clear hE hg hTD hF hTH hl1 hl3 hl4 hlR hlH hzH hzR hzR' hnD hnR hnn hT hr hs hc hH hk hkH hjH hjD hjR htD hTc hlc hzc hpr hput hno hcc
      generalize (⟨(tell N H).toArray⟩ : ByteArray) = th at *
      generalize (⟨(tell N R).toArray⟩ : ByteArray) = tr at *
      generalize (⟨(tell N c).toArray⟩ : ByteArray) = tc at *
      generalize (⟨(tell N D).toArray⟩ : ByteArray) = td at *
      go_enter Tryz.func5, Tryz.ntmps5
      go_wp2_with fail
      refine Calls.mono (H1.out w (Below.refl _ _)) ?_
      rintro e w1 ⟨rfl, b1⟩
      have HB1 : Hid (Below w.heap.size w w1) := b1
      clear b1
      go_wp2_with fail
      refine Calls.mono (HG.out w1 HB1.out) ?_
      rintro e w2 ⟨rfl, b2⟩
      have HB2 : Hid (Below w.heap.size w w2) := HB1.out.trans (b2.mono HB1.out.size)
      clear b2
      go_wp2_with fail
      refine Calls.mono (HL.out w2) ?_
      rintro e w3 ⟨rfl, b3⟩
      have HB3 : Hid (Below w.heap.size w w3) := HB2.out.trans (b3.mono HB2.out.size)
      clear b3
      go_wp2_with fail
      refine Calls.mono (HU.out w3 HB3.out) ?_
      rintro e w4 ⟨rfl, b4⟩
      have HB4 : Hid (Below w.heap.size w w4) := HB3.out.trans (b4.mono HB3.out.size)
      clear b4
      go_wp2_with fail
      refine Calls.mono (HK.out w4 HB4.out) ?_
      rintro e w5 ⟨rfl, b5⟩
      have HB5 : Hid (Below w.heap.size w w5) := HB4.out.trans (b5.mono HB4.out.size)
      clear b5
      go_wp2_with fail
      refine Calls.mono (HW.out w5 HB5.out) ?_
      rintro e w6 ⟨rfl, b6⟩
      have HB6 : Hid (Below w.heap.size w w6) := HB5.out.trans (b6.mono HB5.out.size)
      clear b6
      go_wp2_with fail
      refine Calls.mono (HX.out w6 HB6.out) ?_
      rintro e w7 ⟨rfl, b7⟩
      have HB7 : Hid (Below w.heap.size w w7) := HB6.out.trans (b7.mono HB6.out.size)
      clear b7
      go_wp2_with fail
      refine Calls.mono (HP.out w7 HB7.out) ?_
      rintro e w8 ⟨rfl, b8⟩
      have HB8 : Hid (Below w.heap.size w w8) := HB7.out.trans (b8.mono HB7.out.size)
      clear b8
      go_wp2_with fail
      refine Calls.mono (HC.out w8 HB8.out) ?_
      rintro e w9 ⟨rfl, b9⟩
      have HB9 : Hid (Below w.heap.size w w9) := HB8.out.trans (b9.mono HB8.out.size)
      clear b9
      go_wp2_with fail
      go_ret
      exact ⟨rfl, HB9.out⟩
end Go.Proofs.YthdgfehfoidnbabGreatDoor
