/- Contract over this translation of ptr.Get. -/
import Derived.Test.YthdgfehfoidnbabGreatDoorPtrSub
namespace Go.Proofs.YthdgfehfoidnbabGreatDoor
open Go.RowKit
set_option linter.unusedVariables false
set_option linter.unusedSimpArgs false
/-- what Get answers -/
def getA (N : Nat) (doc p : Bs) : Array Value :=
  match rd20 N doc with
  | .error e => #[.string ByteArray.empty, .int .i64 e]
  | .ok D => match stepsE p with
    | .error e => #[.string ByteArray.empty, .int .i64 e]
    | .ok L => match getP N D L with
      | none => #[.string ByteArray.empty, .int .i64 7]
      | some c => toldE N c
theorem toldE_form (n : Nat) (j : J n) : ∃ (s : ByteArray) (er : Nat), toldE n j = #[.string s, .int .i64 er] := by
  unfold toldE
  split
  · exact ⟨_, 4, rfl⟩
  · split
    · exact ⟨_, 2, rfl⟩
    · split
      · exact ⟨_, 2, rfl⟩
      · exact ⟨_, 0, rfl⟩
set_option maxRecDepth 100000 in
set_option maxHeartbeats 2000000 in
theorem get_any (N : Nat) (hN : 20 ≤ N) (doc p : ByteArray) (w : World) (hd' : doc.size ≤ 8000000) (hp : p.size ≤ 8000000) (hE : Env w) :
    Calls Tryz.prog 6 #[.string doc, .string p] w fun e w' => e = .returned (.tuple (getA N doc.data.toList p.data.toList)) ∧ Below w.heap.size w w' := by
  have HE : Hid (Env w) := hE
  obtain ⟨res, hres⟩ : ∃ res, getA N doc.data.toList p.data.toList = res := ⟨_, rfl⟩
  have HG : Hid (getA N doc.data.toList p.data.toList = res) := hres
  rw [hres]
  have hpl : p.data.toList.length = p.size := by simp
  clear hE hres
  go_enter Tryz.func6, Tryz.ntmps6
  go_wp2_with fail
  refine (readDoc_any N hN doc p w hd' hp HE.out).mono ?_
  rintro e w1 ⟨b1, h1⟩
  have HB1 : Hid (Below w.heap.size w w1) := b1
  clear b1
  rcases h1 with ⟨er, h2, h3, h4, rfl⟩ | ⟨D, er, h2, h3, h4, h5, rfl⟩ | ⟨D, L, T, x, q, cap, h2, h3, rfl, h4, h5⟩
  · have HR : Hid (res = #[.string ByteArray.empty, .int .i64 er]) := by
      show res = _
      rw [← HG.out, getA, h2]
    have hbe : ((er : Int) != 0) = true := by rw [bne_iff_ne]; omega
    clear h2
    go_wp2_with fail
    go_ret2
    exact ⟨by rw [HR.out]; rfl, HB1.out⟩
  · have HR : Hid (res = #[.string ByteArray.empty, .int .i64 er]) := by
      show res = _
      rw [← HG.out, getA, h2]
      simp only [h3]
    have hbe : ((er : Int) != 0) = true := by rw [bne_iff_ne]; omega
    clear h2 h3
    go_wp2_with fail
    go_ret2
    exact ⟨by rw [HR.out]; rfl, HB1.out⟩
  · have HR : Hid (res = match getP N D L with
        | none => #[.string ByteArray.empty, .int .i64 7]
        | some c => toldE N c) := by
      show res = _
      rw [← HG.out, getA, h2]
      simp only [h3]
    have hT := rd20_told hN h2
    have HT : Hid (Told20 N D) := hT
    have hsum := steps_sum h3
    have hlen := (join_steps h3).2
    have HF : Hid (Calls Tryz.prog 15 #[.iface T x, .slice q L.length cap] w1 (FindPost (fun _ => False) (getP N D L) w1)) :=
      findSteps_any (fun _ => False) D T x _ L w1 h4 (rise_of_good _ _ hT.good) (by have := hT.nodes; omega) h5 (by omega) (fun s hs => by
        obtain ⟨i, hi, rfl⟩ := List.getElem_of_mem hs
        have := len_le_sum L i hi
        omega) (HE.out.below HB1.out)
    clear h2 h3 h4 h5 hT hsum hlen
    go_wp2_with fail
    refine Calls.mono HF.out ?_
    rintro e w2 ⟨b2, h2⟩
    have HB2 : Hid (Below w.heap.size w w2) := HB1.out.trans (b2.mono HB1.out.size)
    clear b2
    rcases h2 with ⟨h2, rfl⟩ | ⟨m, c, T2, x2, h2, h3, rfl, h4⟩
    · have HR2 : Hid (res = #[.string ByteArray.empty, .int .i64 7]) := by show res = _; rw [HR.out, h2]
      clear h2
      go_wp2_with fail
      go_ret2
      exact ⟨by rw [HR2.out]; rfl, HB2.out⟩
    · have hTc : Told20 N (lift m N c) := HT.out.get h3
      have hFc : Fine m c := fine_low c h2 hTc (fit_low m N c (Nat.le_trans (depth_bound m c) h2) (fit_of_good _ _ hTc.good))
      have HR2 : Hid (res = toldE m c) := by show res = _; rw [HR.out, h3]; exact toldE_lift c h2
      have HTl := tellJ_any m c (.iface T2 x2) w2 h4 hFc (HE.out.below HB2.out).tab
      obtain ⟨s, er, hform⟩ := toldE_form m c
      rw [hform] at HTl
      have HR3 : Hid (res = #[.string s, .int .i64 er]) := HR2.out.trans hform
      have HTl' : Hid (Calls Tryz.prog 16 #[.iface T2 x2] w2 fun e w' => e = .returned (.tuple #[.string s, .int .i64 er]) ∧ Below w2.heap.size w2 w') := HTl
      clear HTl hTc hFc h3 h4 hform
      go_wp2_with fail
      refine Calls.mono HTl'.out ?_
      rintro e w3 ⟨rfl, b3⟩
      have HB3 : Hid (Below w.heap.size w w3) := HB2.out.trans (b3.mono HB2.out.size)
      clear b3
      go_wp2_with fail
      go_ret2
      exact ⟨by rw [HR3.out]; rfl, HB3.out⟩
end Go.Proofs.YthdgfehfoidnbabGreatDoor
