/- The law PtrSame over this translation: it answers true at every two texts, and leaves old memory alone. -/
import Derived.Test.YthdgfehfoidnbabGreatDoorM13
namespace Go.Proofs.YthdgfehfoidnbabGreatDoor
open Go.RowKit
set_option linter.unusedVariables false
set_option linter.unusedSimpArgs false
set_option maxRecDepth 100000 in
set_option maxHeartbeats 4000000 in
theorem same_walk (N : Nat) (hN : 20 ≤ N) (doc p : ByteArray) (w : World) (hd : doc.size ≤ 8000000) (hp : p.size ≤ 8000000) (hE : Env w) :
    Calls Tryz.prog 3 #[.string doc, .string p] w fun e w' => e = .returned (.bool true) ∧ Below w.heap.size w w' := by
  have H1 : Hid (Says w 6 #[.string ⟨#[49]⟩, .string ⟨#[47, 97]⟩] (.tuple #[.string ByteArray.empty, .int .i64 7])) := one_says N hN hE
  rcases getA_cases N hN doc.data.toList p.data.toList with ⟨er, her, hlt, hg⟩ | ⟨D, L, c, hr, hs, hgp, hT, hg⟩
  · have HG : Hid (Says w 6 #[.string doc, .string p] (.tuple #[.string ByteArray.empty, .int .i64 er])) := get_says N hN hE hd hp rfl rfl hg
    have hbe : ((er : Int) != 0) = true := by rw [bne_iff_ne]; omega
    clear hE hg
    go_enter Tryz.func3, Tryz.ntmps3
    go_wp2_with fail
    refine Calls.mono (HG.out w (Below.refl _ _)) ?_
    rintro e w1 ⟨rfl, b1⟩
    have HB1 : Hid (Below w.heap.size w w1) := b1
    clear b1
    go_wp2_with fail
    refine Calls.mono (H1.out w1 HB1.out) ?_
    rintro e w2 ⟨rfl, b2⟩
    have HB2 : Hid (Below w.heap.size w w2) := HB1.out.trans (b2.mono HB1.out.size)
    clear b2
    go_wp2_with fail
    go_ret
    exact ⟨rfl, HB2.out⟩
  · have HG : Hid (Says w 6 #[.string doc, .string p] (.tuple #[.string ⟨(tell N c).toArray⟩, .int .i64 0])) := get_says N hN hE hd hp rfl rfl hg
    have hTD := rd20_told hN hr
    have hput := putR_same (rise_of_good _ _ hTD.good) hgp
    have hlen := hT.len
    have hz : (⟨(tell N c).toArray⟩ : ByteArray).size ≤ 8000000 := by rw [size_arr]; omega
    have HP : Hid (Says w 7 #[.string doc, .string p, .string ⟨(tell N c).toArray⟩] (.tuple #[.string ⟨(tell N D).toArray⟩, .int .i64 0])) :=
      (put_says N hN (v := ⟨(tell N c).toArray⟩) (G := c) hE hd hp hz hr hs (hT.again hN) (fun R e => by rw [hput] at e; cases e; exact hTD.fine)).mono (by rw [hput]; exact congrArg _ hTD.told)
    obtain ⟨j, hj, htl⟩ := rd20_read hN hr
    have HC : Hid (Says w 8 #[.string doc] (.tuple #[.string ⟨(tell N D).toArray⟩, .bool true])) := keep_ok hE.tab (by unfold maxLen; omega) rfl hj htl.symm
    clear hE hg hTD hput hlen hz hr hs hgp hT hj htl
    generalize (⟨(tell N c).toArray⟩ : ByteArray) = tc at *
    generalize (⟨(tell N D).toArray⟩ : ByteArray) = td at *
    go_enter Tryz.func3, Tryz.ntmps3
    go_wp2_with fail
    refine Calls.mono (HG.out w (Below.refl _ _)) ?_
    rintro e w1 ⟨rfl, b1⟩
    have HB1 : Hid (Below w.heap.size w w1) := b1
    clear b1
    go_wp2_with fail
    refine Calls.mono (H1.out w1 HB1.out) ?_
    rintro e w2 ⟨rfl, b2⟩
    have HB2 : Hid (Below w.heap.size w w2) := HB1.out.trans (b2.mono HB1.out.size)
    clear b2
    go_wp2_with fail
    refine Calls.mono (HP.out w2 HB2.out) ?_
    rintro e w3 ⟨rfl, b3⟩
    have HB3 : Hid (Below w.heap.size w w3) := HB2.out.trans (b3.mono HB2.out.size)
    clear b3
    go_wp2_with fail
    refine Calls.mono (HC.out w3 HB3.out) ?_
    rintro e w4 ⟨rfl, b4⟩
    have HB4 : Hid (Below w.heap.size w w4) := HB3.out.trans (b4.mono HB3.out.size)
    clear b4
    go_wp2_with fail
    go_ret
    exact ⟨rfl, HB4.out⟩
end Go.Proofs.YthdgfehfoidnbabGreatDoor
