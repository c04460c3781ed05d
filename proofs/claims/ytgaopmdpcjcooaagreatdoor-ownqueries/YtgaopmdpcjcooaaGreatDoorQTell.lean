/- Contracts over this translation: strings.Join at texts, query.tellVals, query.tellPart. -/
import Derived.Test.YtgaopmdpcjcooaaGreatDoorQMem
import Derived.Test.YtgaopmdpcjcooaaGreatDoorShelf
import Derived.Lib.Join
import Derived.Deep.QuietTactic
import Derived.BigQuiet
import Derived.RegionTactic
namespace Go.Proofs.YtgaopmdpcjcooaaGreatDoor
open Go.RowKit
set_option linter.unusedVariables false
set_option linter.unusedSimpArgs false
theorem ba_append (a b : Bs) : Ba a ++ Ba b = Ba (a ++ b) := by
  apply ByteArray.ext
  simp [Ba]
theorem join_len : ∀ (xs : List Bs), (∀ x ∈ xs, x.length ≤ 64) → (Lib.join xs [44]).length ≤ xs.length * 65
  | [], _ => by simp [Lib.join_nil]
  | [x], h => by
    rw [Lib.join_one]
    have := h x (by simp)
    simp only [List.length_singleton]
    omega
  | x :: y :: r, h => by
    have ih := join_len (y :: r) (fun z hz => h z (List.mem_cons_of_mem _ hz))
    have hx := h x (by simp)
    have e : Lib.join (x :: y :: r) [44] = x ++ ([44] ++ Lib.join (y :: r) [44]) := by
      rw [Lib.join_cons, Lib.join_cons]
      simp [Lib.joinTail]
    rw [e]
    simp only [List.length_append, List.length_cons, List.length_nil] at ih ⊢
    omega
theorem join_any (v : Value) (vs : List Bs) (w : World) (hv : Strs w v vs) (h8 : vs.length ≤ 8) (hl : ∀ x ∈ vs, x.length ≤ 64) :
    Calls Tryz.prog 94 #[v, .string ⟨#[44]⟩] w fun e w' => e = .returned (.string (Ba (Lib.join vs [44]))) ∧ Below w.heap.size w w' := by
  rcases hv with ⟨rfl, p, c, rfl⟩ | ⟨g, o, cap, rfl, hlc, hcm, hg, hcell⟩
  · refine (Tryz.strings_Join_none p c ⟨#[44]⟩ w).mono ?_
    rintro e w' ⟨rfl, rfl⟩
    exact ⟨rfl, Below.refl _ _⟩
  · have hm : (vs.map Ba).map (·.data.toList) = vs := by
      rw [List.map_map]
      have : ((fun x : ByteArray => x.data.toList) ∘ Ba) = id := by funext x; simp [Ba]
      rw [this, List.map_id]
    have hj := join_len vs hl
    have h := Tryz.strings_Join g o cap (vs.map Ba) ⟨#[44]⟩ w (fun j x hx => by
      rw [List.getElem?_map] at hx
      obtain ⟨s, hs, rfl⟩ := Option.map_eq_some_iff.1 hx
      exact hcell j s hs) hg (by rw [List.length_map]; omega) (by rw [List.length_map]; exact hlc) (by rw [hm]; show (Lib.join vs [44]).length ≤ _; omega)
    rw [hm, List.length_map] at h
    exact h
/-- Vals, told -/
def tellV (vs : List Bs) (sg wd : Bs) : Bs := if vs.length = 1 then sg ++ vs.headD [] else [32] ++ wd ++ [32, 40] ++ Lib.join vs [44] ++ [41]
/-- a part, told -/
def tellP (r : Rq) : Bs := if r.2.1 = 1 then r.1 ++ tellV r.2.2 [61] [105, 110] else if r.2.1 = 2 then r.1 ++ tellV r.2.2 [33, 61] [110, 111, 116, 105, 110] else if r.2.1 = 4 then [33] ++ r.1 else r.1
theorem tellV_one {vs : List Bs} {sg wd : Bs} (h : vs.length = 1) (h0 : 0 < vs.length) : tellV vs sg wd = sg ++ vs[0] := by
  rw [tellV, if_pos h]
  match vs, h with
  | [x], _ => rfl
theorem tellV_more {vs : List Bs} {sg wd : Bs} (h : ¬ vs.length = 1) : tellV vs sg wd = [32] ++ wd ++ [32, 40] ++ Lib.join vs [44] ++ [41] := by rw [tellV, if_neg h]
theorem tellV_len {vs : List Bs} {sg wd : Bs} (h8 : vs.length ≤ 8) (hl : ∀ x ∈ vs, x.length ≤ 64) (hs : sg.length ≤ 8) (hw : wd.length ≤ 8) : (tellV vs sg wd).length ≤ 600 := by
  by_cases h : vs.length = 1
  · rw [tellV_one h (by omega), List.length_append]
    have := hl vs[0] (List.getElem_mem _)
    omega
  · rw [tellV_more h]
    have := join_len vs hl
    simp only [List.length_append, List.length_cons, List.length_nil]
    omega
theorem tellP_len {r : Rq} (hk : r.1.length ≤ 64) (h8 : r.2.2.length ≤ 8) (hl : ∀ x ∈ r.2.2, x.length ≤ 64) : (tellP r).length ≤ 700 := by
  unfold tellP
  split
  · have := tellV_len (sg := [61]) (wd := [105, 110]) h8 hl (by decide) (by decide)
    rw [List.length_append]; omega
  · split
    · have := tellV_len (sg := [33, 61]) (wd := [110, 111, 116, 105, 110]) h8 hl (by decide) (by decide)
      rw [List.length_append]; omega
    · split
      · simp only [List.length_append, List.length_cons, List.length_nil]; omega
      · omega
set_option maxHeartbeats 2000000 in
theorem tellVals_any (v : Value) (vs : List Bs) (sg wd : Bs) (w : World) (hv : Strs w v vs) (h8 : vs.length ≤ 8) (hl : ∀ x ∈ vs, x.length ≤ 64) (hs : sg.length ≤ 8) (hw : wd.length ≤ 8) :
    Calls Tryz.prog 76 #[v, .string (Ba sg), .string (Ba wd)] w fun e w' => e = .returned (.string (Ba (tellV vs sg wd))) ∧ Below w.heap.size w w' := by
  have HJ : Hid (Calls Tryz.prog 94 #[v, .string ⟨#[44]⟩] w fun e w' => e = .returned (.string (Ba (Lib.join vs [44]))) ∧ Below w.heap.size w w') := join_any v vs w hv h8 hl
  have hjl := join_len vs hl
  obtain ⟨p, c, rfl, hn, hcell⟩ := hv.open
  have s1 : (Ba sg).size ≤ 8 := by rw [ba_size]; exact hs
  have s2 : (Ba wd).size ≤ 8 := by rw [ba_size]; exact hw
  by_cases h1 : vs.length = 1
  · have h0 : 0 < vs.length := by omega
    obtain ⟨g, o, rfl, hlc, hc0⟩ := hcell 0 h0
    have hc := hc0 w (Below.refl _ _)
    have s3 : (Ba vs[0]).size ≤ 64 := by rw [ba_size]; exact hl _ (List.getElem_mem _)
    have HX : Hid (Ba (tellV vs sg wd) = Ba sg ++ Ba vs[0]) := by show _ = _; rw [ba_append, tellV_one h1 h0]
    generalize Ba (tellV vs sg wd) = res at *
    rw [h1] at hlc ⊢
    clear hc0 hcell hv HJ hjl hn h8 hl hs hw
    generalize Ba vs[0] = y at *
    generalize Ba sg = sgB at *
    generalize Ba wd = wdB at *
    rw [Nat.add_zero] at hc
    go_enter Tryz.func76, Tryz.ntmps76
    go_wp2_with fail
    go_ret
    exact ⟨by rw [HX.out]; rfl, Below.refl _ _⟩
  · have h1b : ((vs.length : Int) == 1) = false := by simp; omega
    have s3 : (Ba (Lib.join vs [44])).size ≤ 520 := by rw [ba_size]; omega
    have HX : Hid (Ba (tellV vs sg wd) = ⟨#[32]⟩ ++ Ba wd ++ ⟨#[32, 40]⟩ ++ Ba (Lib.join vs [44]) ++ ⟨#[41]⟩) := by
      show _ = Ba [32] ++ Ba wd ++ Ba [32, 40] ++ Ba (Lib.join vs [44]) ++ Ba [41]
      rw [ba_append, ba_append, ba_append, ba_append, tellV_more h1]
    generalize Ba (tellV vs sg wd) = res at *
    clear hcell hv hjl hl hs hw
    generalize Ba (Lib.join vs [44]) = y at *
    generalize Ba sg = sgB at *
    generalize Ba wd = wdB at *
    generalize vs.length = nv at *
    go_enter Tryz.func76, Tryz.ntmps76
    go_wp2_with fail
    refine Calls.mono HJ.out ?_
    rintro e w1 ⟨rfl, b1⟩
    have HB : Hid (Below w.heap.size w w1) := b1
    clear b1
    go_wp2_with fail
    go_ret
    exact ⟨by rw [HX.out]; rfl, HB.out⟩
end Go.Proofs.YtgaopmdpcjcooaaGreatDoor
