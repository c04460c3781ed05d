/- Contracts over this translation of json.Equal and Same, at every text. -/
import Derived.Test.YtaogilpkeeigoaaDoorTop
namespace Go.Proofs.YtaogilpkeeigoaaDoor
open Go.RowKit
set_option linter.unusedVariables false
set_option linter.unusedSimpArgs false
/-- two values, one document -/
def sameE (a b : Bs) : Array Value :=
  match read a with
  | .error e => #[.bool false, .int .i64 e]
  | .ok j => match read b with
    | .error e => #[.bool false, .int .i64 e]
    | .ok i => #[.bool (tell 10 j == tell 10 i), .int .i64 0]
set_option maxRecDepth 100000 in
set_option maxHeartbeats 2000000 in
theorem equal_any (j i : J 10) (av av' : Nat → Prop) (x y : Value) (w : World) (hx : St av w 10 j x) (hy : St av' w 10 i y) (gj : Fit 10 j) (gi : Fit 10 i) (hT : Tab w.heap.size w) (lj : (tell 10 j).length ≤ 100000000) (li : (tell 10 i).length ≤ 100000000) :
    Calls Tryd.prog 14 #[x, y] w fun e w' => e = .returned (.bool (tell 10 j == tell 10 i)) ∧ Below w.heap.size w w' := by
  have h1 := text_any 10 av j x w hx gj hT lj
  have HY : Hid (∀ w1, Below w.heap.size w w1 → Calls Tryd.prog 13 #[y] w1 fun e w' => e = .returned (.string ⟨(tell 10 i).toArray⟩) ∧ Below w1.heap.size w1 w') := fun w1 hb =>
    text_any 10 (fun c => w.heap.size ≤ c) i y w1 ((hy.wide (fun c hc => Or.inr hc)).step hb.size (fun c hc _ => hb.block c hc)) gi ((hT.below hb).mono hb.size) li
  have HX : Hid (Calls Tryd.prog 13 #[x] w fun e w' => e = .returned (.string ⟨(tell 10 j).toArray⟩) ∧ Below w.heap.size w w') := h1
  clear h1 hx hy gj gi hT lj li
  have HEq : Hid (((⟨(tell 10 j).toArray⟩ : ByteArray).toList == (⟨(tell 10 i).toArray⟩ : ByteArray).toList) = (tell 10 j == tell 10 i)) := by
    show _ = _
    rw [ByteArray.toList_eq, ByteArray.toList_eq]
  generalize (⟨(tell 10 j).toArray⟩ : ByteArray) = tj at *
  generalize (⟨(tell 10 i).toArray⟩ : ByteArray) = ti at *
  generalize (tell 10 j == tell 10 i) = eq at *
  go_enter Tryd.func14, Tryd.ntmps14
  go_wp2_with fail
  refine Calls.mono HX.out ?_
  rintro e w1 ⟨rfl, b1⟩
  have HB1 : Hid (Below w.heap.size w w1) := b1
  clear b1
  go_wp2_with fail
  refine Calls.mono (HY.out w1 HB1.out) ?_
  rintro e w2 ⟨rfl, b2⟩
  have HB2 : Hid (Below w.heap.size w w2) := HB1.out.trans (b2.mono HB1.out.size)
  clear b2
  go_wp2_with fail
  go_ret
  exact ⟨by rw [← HEq.out]; rfl, HB2.out⟩
set_option maxRecDepth 100000 in
set_option maxHeartbeats 2000000 in
theorem same_any (a b : ByteArray) (w : World) (ha : a.size ≤ maxLen) (hb : b.size ≤ maxLen) (hT : Tab w.heap.size w) :
    Calls Tryd.prog 7 #[.string a, .string b] w fun e w' => e = .returned (.tuple (sameE a.data.toList b.data.toList)) ∧ Below w.heap.size w w' := by
  have HT : Hid (Tab w.heap.size w) := hT
  clear hT
  go_enter Tryd.func7, Tryd.ntmps7
  go_wp2_with fail
  refine (read_any a w ha).mono ?_
  rintro e w1 ⟨b1, h1⟩
  have HB1 : Hid (Below w.heap.size w w1) := b1
  clear b1
  rcases h1 with ⟨er, hr, her, her2, rfl⟩ | ⟨j, v, hr, rfl, hone, hst⟩
  · have HE : Hid (sameE a.data.toList b.data.toList = #[.bool false, .int .i64 er]) := by
      show sameE _ _ = _
      rw [sameE, hr]
    have hbe : ((er : Int) != 0) = true := by rw [bne_iff_ne]; omega
    clear hr
    go_wp2_with fail
    go_ret2
    exact ⟨by rw [HE.out]; rfl, HB1.out⟩
  · have HR : Hid (read a.data.toList = .ok j) := hr
    have HSt : Hid (St (fun c => c < w.heap.size) w1 10 j v) := hst
    clear hr hst
    go_wp2_with fail
    refine (read_any b w1 hb).mono ?_
    rintro e w2 ⟨b2, h2⟩
    have HB2 : Hid (Below w1.heap.size w1 w2) := b2
    have HB02 : Hid (Below w.heap.size w w2) := HB1.out.trans (b2.mono HB1.out.size)
    clear b2
    rcases h2 with ⟨er, hr, her, her2, rfl⟩ | ⟨i, u, hr, rfl, hone2, hst2⟩
    · have HE : Hid (sameE a.data.toList b.data.toList = #[.bool false, .int .i64 er]) := by
        show sameE _ _ = _
        rw [sameE, HR.out]
        simp only [hr]
      have hbe : ((er : Int) != 0) = true := by rw [bne_iff_ne]; omega
      clear hr
      go_wp2_with fail
      go_ret2
      exact ⟨by rw [HE.out]; rfl, HB02.out⟩
    · have HE : Hid (sameE a.data.toList b.data.toList = #[.bool (tell 10 j == tell 10 i), .int .i64 0]) := by
        show sameE _ _ = _
        rw [sameE, HR.out]
        simp only [hr]
      have s1 := read_short HR.out
      have s2 := read_short hr
      have hv2 : St (fun c => w1.heap.size ≤ c) w2 10 j v := ((HSt.out.wide (fun c hc => Or.inr hc)).step HB2.out.size (fun c hc _ => HB2.out.block c hc))
      have hq := equal_any j i _ _ v u w2 hv2 hst2 (fit_of_good _ _ (read_good HR.out)) (fit_of_good _ _ (read_good hr)) ((HT.out.below HB02.out).mono HB02.out.size) (by omega) (by omega)
      have HQ : Hid (Calls Tryd.prog 14 #[v, u] w2 fun e w' => e = .returned (.bool (tell 10 j == tell 10 i)) ∧ Below w2.heap.size w2 w') := hq
      clear hr hst2 hq hv2 s1 s2
      generalize (tell 10 j == tell 10 i) = eq at *
      go_wp2_with fail
      refine Calls.mono HQ.out ?_
      rintro e w3 ⟨rfl, b3⟩
      have HB3 : Hid (Below w.heap.size w w3) := HB02.out.trans (b3.mono HB02.out.size)
      clear b3
      go_wp2_with fail
      go_ret2
      exact ⟨by rw [HE.out]; rfl, HB3.out⟩
end Go.Proofs.YtaogilpkeeigoaaDoor
