/- The walk of the law QueryImplied over this translation. -/
import Derived.Test.YtglmffplnglkdabDoorQImp
import Derived.Test.YtglmffplnglkdabDoorQStrange
namespace Go.Proofs.YtglmffplnglkdabDoor
open Go.RowKit
set_option linter.unusedVariables false
set_option linter.unusedSimpArgs false
set_option maxHeartbeats 4000000 in
theorem implied_a (p : Option Addr) (nl c : Nat) (p2 : Option Addr) (nm c2 : Nat) (p3 : Option Addr) (nls c3 : Nat) (w : World) (ce : Int) (hce : ce ≠ 0) (hI : Calls Tryd.prog 10 #[.slice p nl c, .slice p2 nm c2] w fun e w' => e = .returned (.tuple #[.bool false, .slice none 0 0, .int .i64 ce]) ∧ Below w.heap.size w w') (hcl : ∀ w1, Below w.heap.size w w1 → Calls Tryd.prog 11 #[.slice p nl c] w1 fun e w' => e = .returned (.int .i64 ce) ∧ Below w1.heap.size w1 w')
    (hS : ∀ w1, Below w.heap.size w w1 → Calls Tryd.prog 7 #[] w1 fun e w' => e = .returned (.bool true) ∧ Below w1.heap.size w1 w') :
    Calls Tryd.prog 5 #[.slice p nl c, .slice p2 nm c2, .slice p3 nls c3] w fun e w' => e = .returned (.bool true) ∧ Below w.heap.size w w' := by
  have HI : Hid (_) := hI
  have HS : Hid (∀ w1, Below w.heap.size w w1 → Calls Tryd.prog 7 #[] w1 fun e w' => e = .returned (.bool true) ∧ Below w1.heap.size w1 w') := hS
  have HCl : Hid (_) := hcl
  have hb : (ce != 0) = true := by simpa using hce
  clear hI hS hcl hce
  go_enter Tryd.func5, Tryd.ntmps5
  go_wp2_with fail
  refine Calls.mono HI.out ?_
  rintro e w1 ⟨rfl, b1⟩
  have HB1 : Hid (Below w.heap.size w w1) := b1
  clear b1
  go_wp2_with fail
  refine Calls.mono (HS.out w1 HB1.out) ?_
  rintro e w2 ⟨rfl, b2⟩
  have HB2 : Hid (Below w.heap.size w w2) := HB1.out.trans (b2.mono HB1.out.size)
  clear b2
  go_wp2_with fail
  refine Calls.mono (HCl.out w2 HB2.out) ?_
  rintro e w3 ⟨rfl, b3⟩
  have HB3 : Hid (Below w.heap.size w w3) := HB2.out.trans (b3.mono HB2.out.size)
  clear b3
  go_wp2_with fail
  go_ret
  exact ⟨rfl, HB3.out⟩
set_option maxHeartbeats 4000000 in
theorem implied_b (p : Option Addr) (nl c : Nat) (p2 : Option Addr) (nm c2 : Nat) (p3 : Option Addr) (nls c3 : Nat) (w : World) (ce : Int) (hce : ce ≠ 0) (hI : Calls Tryd.prog 10 #[.slice p nl c, .slice p2 nm c2] w fun e w' => e = .returned (.tuple #[.bool false, .slice none 0 0, .int .i64 ce]) ∧ Below w.heap.size w w') (hcl : ∀ w1, Below w.heap.size w w1 → Calls Tryd.prog 11 #[.slice p nl c] w1 fun e w' => e = .returned (.int .i64 0) ∧ Below w1.heap.size w1 w') (hcm : ∀ w1, Below w.heap.size w w1 → Calls Tryd.prog 11 #[.slice p2 nm c2] w1 fun e w' => e = .returned (.int .i64 ce) ∧ Below w1.heap.size w1 w')
    (hS : ∀ w1, Below w.heap.size w w1 → Calls Tryd.prog 7 #[] w1 fun e w' => e = .returned (.bool true) ∧ Below w1.heap.size w1 w') :
    Calls Tryd.prog 5 #[.slice p nl c, .slice p2 nm c2, .slice p3 nls c3] w fun e w' => e = .returned (.bool true) ∧ Below w.heap.size w w' := by
  have HI : Hid (_) := hI
  have HS : Hid (∀ w1, Below w.heap.size w w1 → Calls Tryd.prog 7 #[] w1 fun e w' => e = .returned (.bool true) ∧ Below w1.heap.size w1 w') := hS
  have HCl : Hid (_) := hcl
  have HCm : Hid (_) := hcm
  have hb : (ce != 0) = true := by simpa using hce
  clear hI hS hcl hcm hce
  go_enter Tryd.func5, Tryd.ntmps5
  go_wp2_with fail
  refine Calls.mono HI.out ?_
  rintro e w1 ⟨rfl, b1⟩
  have HB1 : Hid (Below w.heap.size w w1) := b1
  clear b1
  go_wp2_with fail
  refine Calls.mono (HS.out w1 HB1.out) ?_
  rintro e w2 ⟨rfl, b2⟩
  have HB2 : Hid (Below w.heap.size w w2) := HB1.out.trans (b2.mono HB1.out.size)
  clear b2
  go_wp2_with fail
  refine Calls.mono (HCl.out w2 HB2.out) ?_
  rintro e w3 ⟨rfl, b3⟩
  have HB3 : Hid (Below w.heap.size w w3) := HB2.out.trans (b3.mono HB2.out.size)
  clear b3
  go_wp2_with fail
  refine Calls.mono (HCm.out w3 HB3.out) ?_
  rintro e w4 ⟨rfl, b4⟩
  have HB4 : Hid (Below w.heap.size w w4) := HB3.out.trans (b4.mono HB3.out.size)
  clear b4
  go_wp2_with fail
  go_ret
  exact ⟨rfl, HB4.out⟩
set_option maxHeartbeats 4000000 in
theorem implied_c1 (p : Option Addr) (nl c : Nat) (p2 : Option Addr) (nm c2 : Nat) (p3 : Option Addr) (nls c3 : Nat) (w : World) (le : Int) (hle : le ≠ 0) (hI : Calls Tryd.prog 10 #[.slice p nl c, .slice p2 nm c2] w fun e w' => (∃ p4 c4, e = .returned (.tuple #[.bool true, .slice p4 0 c4, .int .i64 0])) ∧ Below w.heap.size w w') (hml : ∀ w1, Below w.heap.size w w1 → Calls Tryd.prog 8 #[.slice p nl c, .slice p3 nls c3] w1 fun e w' => e = .returned (.tuple #[.bool false, .int .i64 le]) ∧ Below w1.heap.size w1 w') (hmm : ∀ w1, Below w.heap.size w w1 → Calls Tryd.prog 8 #[.slice p2 nm c2, .slice p3 nls c3] w1 fun e w' => e = .returned (.tuple #[.bool false, .int .i64 le]) ∧ Below w1.heap.size w1 w')
    (hS : ∀ w1, Below w.heap.size w w1 → Calls Tryd.prog 7 #[] w1 fun e w' => e = .returned (.bool true) ∧ Below w1.heap.size w1 w') :
    Calls Tryd.prog 5 #[.slice p nl c, .slice p2 nm c2, .slice p3 nls c3] w fun e w' => e = .returned (.bool true) ∧ Below w.heap.size w w' := by
  have HI : Hid (_) := hI
  have HS : Hid (∀ w1, Below w.heap.size w w1 → Calls Tryd.prog 7 #[] w1 fun e w' => e = .returned (.bool true) ∧ Below w1.heap.size w1 w') := hS
  have HMl : Hid (_) := hml
  have HMm : Hid (_) := hmm
  have hb : (le != 0) = true := by simpa using hle
  clear hle
  clear hI hS hml hmm
  go_enter Tryd.func5, Tryd.ntmps5
  go_wp2_with fail
  refine Calls.mono HI.out ?_
  rintro e w1 ⟨⟨p4, c4, rfl⟩, b1⟩
  have HB1 : Hid (Below w.heap.size w w1) := b1
  clear b1
  go_wp2_with fail
  refine Calls.mono (HS.out w1 HB1.out) ?_
  rintro e w2 ⟨rfl, b2⟩
  have HB2 : Hid (Below w.heap.size w w2) := HB1.out.trans (b2.mono HB1.out.size)
  clear b2
  go_wp2_with fail
  refine Calls.mono (HMl.out w2 HB2.out) ?_
  rintro e w3 ⟨rfl, b3⟩
  have HB3 : Hid (Below w.heap.size w w3) := HB2.out.trans (b3.mono HB2.out.size)
  clear b3
  go_wp2_with fail
  refine Calls.mono (HMm.out w3 HB3.out) ?_
  rintro e w4 ⟨rfl, b4⟩
  have HB4 : Hid (Below w.heap.size w w4) := HB3.out.trans (b4.mono HB3.out.size)
  clear b4
  go_wp2_with fail
  go_ret
  exact ⟨rfl, HB4.out⟩
set_option maxHeartbeats 4000000 in
theorem implied_c2 (p : Option Addr) (nl c : Nat) (p2 : Option Addr) (nm c2 : Nat) (p3 : Option Addr) (nls c3 : Nat) (w : World) (y : Bool) (hI : Calls Tryd.prog 10 #[.slice p nl c, .slice p2 nm c2] w fun e w' => (∃ p4 c4, e = .returned (.tuple #[.bool true, .slice p4 0 c4, .int .i64 0])) ∧ Below w.heap.size w w') (hml : ∀ w1, Below w.heap.size w w1 → Calls Tryd.prog 8 #[.slice p nl c, .slice p3 nls c3] w1 fun e w' => e = .returned (.tuple #[.bool false, .int .i64 0]) ∧ Below w1.heap.size w1 w') (hmm : ∀ w1, Below w.heap.size w w1 → Calls Tryd.prog 8 #[.slice p2 nm c2, .slice p3 nls c3] w1 fun e w' => e = .returned (.tuple #[.bool y, .int .i64 0]) ∧ Below w1.heap.size w1 w')
    (hS : ∀ w1, Below w.heap.size w w1 → Calls Tryd.prog 7 #[] w1 fun e w' => e = .returned (.bool true) ∧ Below w1.heap.size w1 w') :
    Calls Tryd.prog 5 #[.slice p nl c, .slice p2 nm c2, .slice p3 nls c3] w fun e w' => e = .returned (.bool true) ∧ Below w.heap.size w w' := by
  have HI : Hid (_) := hI
  have HS : Hid (∀ w1, Below w.heap.size w w1 → Calls Tryd.prog 7 #[] w1 fun e w' => e = .returned (.bool true) ∧ Below w1.heap.size w1 w') := hS
  have HMl : Hid (_) := hml
  have HMm : Hid (_) := hmm
  clear hI hS hml hmm
  go_enter Tryd.func5, Tryd.ntmps5
  go_wp2_with fail
  refine Calls.mono HI.out ?_
  rintro e w1 ⟨⟨p4, c4, rfl⟩, b1⟩
  have HB1 : Hid (Below w.heap.size w w1) := b1
  clear b1
  go_wp2_with fail
  refine Calls.mono (HS.out w1 HB1.out) ?_
  rintro e w2 ⟨rfl, b2⟩
  have HB2 : Hid (Below w.heap.size w w2) := HB1.out.trans (b2.mono HB1.out.size)
  clear b2
  go_wp2_with fail
  refine Calls.mono (HMl.out w2 HB2.out) ?_
  rintro e w3 ⟨rfl, b3⟩
  have HB3 : Hid (Below w.heap.size w w3) := HB2.out.trans (b3.mono HB2.out.size)
  clear b3
  go_wp2_with fail
  refine Calls.mono (HMm.out w3 HB3.out) ?_
  rintro e w4 ⟨rfl, b4⟩
  have HB4 : Hid (Below w.heap.size w w4) := HB3.out.trans (b4.mono HB3.out.size)
  clear b4
  go_wp2_with fail
  go_ret
  exact ⟨rfl, HB4.out⟩
set_option maxHeartbeats 4000000 in
theorem implied_c3 (p : Option Addr) (nl c : Nat) (p2 : Option Addr) (nm c2 : Nat) (p3 : Option Addr) (nls c3 : Nat) (w : World) (hI : Calls Tryd.prog 10 #[.slice p nl c, .slice p2 nm c2] w fun e w' => (∃ p4 c4, e = .returned (.tuple #[.bool true, .slice p4 0 c4, .int .i64 0])) ∧ Below w.heap.size w w') (hml : ∀ w1, Below w.heap.size w w1 → Calls Tryd.prog 8 #[.slice p nl c, .slice p3 nls c3] w1 fun e w' => e = .returned (.tuple #[.bool true, .int .i64 0]) ∧ Below w1.heap.size w1 w') (hmm : ∀ w1, Below w.heap.size w w1 → Calls Tryd.prog 8 #[.slice p2 nm c2, .slice p3 nls c3] w1 fun e w' => e = .returned (.tuple #[.bool true, .int .i64 0]) ∧ Below w1.heap.size w1 w')
    (hS : ∀ w1, Below w.heap.size w w1 → Calls Tryd.prog 7 #[] w1 fun e w' => e = .returned (.bool true) ∧ Below w1.heap.size w1 w') :
    Calls Tryd.prog 5 #[.slice p nl c, .slice p2 nm c2, .slice p3 nls c3] w fun e w' => e = .returned (.bool true) ∧ Below w.heap.size w w' := by
  have HI : Hid (_) := hI
  have HS : Hid (∀ w1, Below w.heap.size w w1 → Calls Tryd.prog 7 #[] w1 fun e w' => e = .returned (.bool true) ∧ Below w1.heap.size w1 w') := hS
  have HMl : Hid (_) := hml
  have HMm : Hid (_) := hmm
  clear hI hS hml hmm
  go_enter Tryd.func5, Tryd.ntmps5
  go_wp2_with fail
  refine Calls.mono HI.out ?_
  rintro e w1 ⟨⟨p4, c4, rfl⟩, b1⟩
  have HB1 : Hid (Below w.heap.size w w1) := b1
  clear b1
  go_wp2_with fail
  refine Calls.mono (HS.out w1 HB1.out) ?_
  rintro e w2 ⟨rfl, b2⟩
  have HB2 : Hid (Below w.heap.size w w2) := HB1.out.trans (b2.mono HB1.out.size)
  clear b2
  go_wp2_with fail
  refine Calls.mono (HMl.out w2 HB2.out) ?_
  rintro e w3 ⟨rfl, b3⟩
  have HB3 : Hid (Below w.heap.size w w3) := HB2.out.trans (b3.mono HB2.out.size)
  clear b3
  go_wp2_with fail
  refine Calls.mono (HMm.out w3 HB3.out) ?_
  rintro e w4 ⟨rfl, b4⟩
  have HB4 : Hid (Below w.heap.size w w4) := HB3.out.trans (b4.mono HB3.out.size)
  clear b4
  go_wp2_with fail
  go_ret
  exact ⟨rfl, HB4.out⟩
set_option maxHeartbeats 4000000 in
theorem implied_d (p : Option Addr) (nl c : Nat) (p2 : Option Addr) (nm c2 : Nat) (p3 : Option Addr) (nls c3 : Nat) (w : World) (u : World → Value → Prop) (hI : Calls Tryd.prog 10 #[.slice p nl c, .slice p2 nm c2] w fun e w' => (∃ p4 n4 c4, e = .returned (.tuple #[.bool false, .slice p4 n4 c4, .int .i64 0]) ∧ u w' (.slice p4 n4 c4)) ∧ Below w.heap.size w w') (hml : ∀ w1 w2 x, Below w.heap.size w w1 → u w1 x → Below w1.heap.size w1 w2 → Calls Tryd.prog 8 #[.slice p nl c, x] w2 fun e w' => e = .returned (.tuple #[.bool true, .int .i64 0]) ∧ Below w2.heap.size w2 w') (hmm : ∀ w1 w2 x, Below w.heap.size w w1 → u w1 x → Below w1.heap.size w1 w2 → Calls Tryd.prog 8 #[.slice p2 nm c2, x] w2 fun e w' => e = .returned (.tuple #[.bool false, .int .i64 0]) ∧ Below w2.heap.size w2 w')
    (hS : ∀ w1, Below w.heap.size w w1 → Calls Tryd.prog 7 #[] w1 fun e w' => e = .returned (.bool true) ∧ Below w1.heap.size w1 w') :
    Calls Tryd.prog 5 #[.slice p nl c, .slice p2 nm c2, .slice p3 nls c3] w fun e w' => e = .returned (.bool true) ∧ Below w.heap.size w w' := by
  have HI : Hid (_) := hI
  have HS : Hid (∀ w1, Below w.heap.size w w1 → Calls Tryd.prog 7 #[] w1 fun e w' => e = .returned (.bool true) ∧ Below w1.heap.size w1 w') := hS
  have HMl : Hid (_) := hml
  have HMm : Hid (_) := hmm
  clear hI hS hml hmm
  go_enter Tryd.func5, Tryd.ntmps5
  go_wp2_with fail
  refine Calls.mono HI.out ?_
  rintro e w1 ⟨⟨p4, n4, c4, rfl, hu⟩, b1⟩
  have HB1 : Hid (Below w.heap.size w w1) := b1
  have HMl1 : Hid (∀ w2, Below w1.heap.size w1 w2 → Calls Tryd.prog 8 #[.slice p nl c, .slice p4 n4 c4] w2 fun e w' => e = .returned (.tuple #[.bool true, .int .i64 0]) ∧ Below w2.heap.size w2 w') := fun w2 hb => HMl.out w1 w2 _ b1 hu hb
  have HMm1 : Hid (∀ w2, Below w1.heap.size w1 w2 → Calls Tryd.prog 8 #[.slice p2 nm c2, .slice p4 n4 c4] w2 fun e w' => e = .returned (.tuple #[.bool false, .int .i64 0]) ∧ Below w2.heap.size w2 w') := fun w2 hb => HMm.out w1 w2 _ b1 hu hb
  clear b1 hu
  go_wp2_with fail
  refine Calls.mono (HS.out w1 HB1.out) ?_
  rintro e w2 ⟨rfl, b2⟩
  have HB2 : Hid (Below w.heap.size w w2) := HB1.out.trans (b2.mono HB1.out.size)
  have HD2 : Hid (Below w1.heap.size w1 w2) := b2
  clear b2
  go_wp2_with fail
  refine Calls.mono (HMl1.out w2 HD2.out) ?_
  rintro e w3 ⟨rfl, b3⟩
  have HB3 : Hid (Below w.heap.size w w3) := HB2.out.trans (b3.mono HB2.out.size)
  have HD3 : Hid (Below w1.heap.size w1 w3) := HD2.out.trans (b3.mono HD2.out.size)
  clear b3
  go_wp2_with fail
  refine Calls.mono (HMm1.out w3 HD3.out) ?_
  rintro e w4 ⟨rfl, b4⟩
  have HB4 : Hid (Below w.heap.size w w4) := HB3.out.trans (b4.mono HB3.out.size)
  clear b4
  go_wp2_with fail
  go_ret
  exact ⟨rfl, HB4.out⟩
theorem implied_walk (v u vl : Value) (l m : List Rq) (ls : List Lb) (w : World) (hv : Reqs w v l) (hfl : ∀ r ∈ l, Fit r) (hg : GoodV v) (hu : Reqs w u m) (hfm : ∀ r ∈ m, Fit r) (hl : Labs w vl ls) (hfa : FitL ls) (hR : Room w) :
    Calls Tryd.prog 5 #[v, u, vl] w fun e w' => e = .returned (.bool true) ∧ Below w.heap.size w w' := by
  have hS : ∀ w1, Below w.heap.size w w1 → Calls Tryd.prog 7 #[] w1 fun e w' => e = .returned (.bool true) ∧ Below w1.heap.size w1 w' := fun w1 hb => strange_any w1 (hR.below hb)
  have hcl := fun w1 (hb : Below w.heap.size w w1) => chk_any v l w1 (hv.below hb) hfl (hR.below hb)
  have hcm := fun w1 (hb : Below w.heap.size w w1) => chk_any u m w1 (hu.below hb) hfm (hR.below hb)
  have hml := fun w1 (hb : Below w.heap.size w w1) => match_any v vl l ls w1 (hv.below hb) hfl (hl.below hb) hfa (hR.below hb)
  have hmm := fun w1 (hb : Below w.heap.size w w1) => match_any u vl m ls w1 (hu.below hb) hfm (hl.below hb) hfa (hR.below hb)
  have ha := fun w1 w2 x zs (hb : Below w.heap.size w w1) (hz : Labs w1 x zs) (hfz : FitL zs) (hb2 : Below w1.heap.size w1 w2) => match_any v x l zs w2 ((hv.below hb).below hb2) hfl (hz.below hb2) hfz ((hR.below hb).below hb2)
  have hb' := fun w1 w2 x zs (hb : Below w.heap.size w w1) (hz : Labs w1 x zs) (hfz : FitL zs) (hb2 : Below w1.heap.size w1 w2) => match_any u x m zs w2 ((hu.below hb).below hb2) hfm (hz.below hb2) hfz ((hR.below hb).below hb2)
  have hI1 := imp_bad1 v u l m w hv hu hfl hR
  have hI2 := imp_bad2 v u l m w hv hu hfl hfm hR
  have hI3 := imp_loop v u l m w hv hg hu hfl hfm hR
  obtain ⟨p, c, rfl, _, _⟩ := hv.open
  obtain ⟨p2, c2, rfl, _, _⟩ := hu.open
  obtain ⟨p3, c3, rfl, _, _⟩ := hl.open
  by_cases h1 : chkI l = 0
  · by_cases h2 : chkI m = 0
    · have hI := hI3 h1 h2
      cases hx : impliesP l m with
      | mk yes zs =>
        rw [hx] at hI
        cases yes with
        | true =>
          have hall := implies_true h1 h2 (by rw [hx])
          have hzs : zs = [] := by
            unfold impliesP at hx
            cases hf : m.findSome? fun r => solveP (l ++ [oppR r]) with
            | some q => rw [hf] at hx; cases hx
            | none => rw [hf] at hx; cases hx; rfl
          subst hzs
          have hI' : Calls Tryd.prog 10 #[.slice p l.length c, .slice p2 m.length c2] w fun e w' => (∃ p4 c4, e = .returned (.tuple #[.bool true, .slice p4 0 c4, .int .i64 0])) ∧ Below w.heap.size w w' := by
            refine hI.mono ?_
            rintro e w' ⟨uu, rfl, hla, b⟩
            obtain ⟨p4, c4, rfl, _, _⟩ := hla.open
            exact ⟨⟨p4, c4, rfl⟩, b⟩
          by_cases g : labelsI ls = 0
          · rw [matchE_ok h1 g] at hml
            rw [matchE_ok h2 g] at hmm
            cases hx1 : matchB l ls with
            | true =>
              rw [hx1] at hml
              rw [hall ls hx1] at hmm
              exact implied_c3 p _ c p2 _ c2 p3 _ c3 w hI' hml hmm hS
            | false =>
              rw [hx1] at hml
              exact implied_c2 p _ c p2 _ c2 p3 _ c3 w (matchB m ls) hI' hml hmm hS
          · rw [matchE_labs h1 g] at hml
            rw [matchE_labs h2 g] at hmm
            exact implied_c1 p _ c p2 _ c2 p3 _ c3 w (labelsI ls) g hI' hml hmm hS
        | false =>
          obtain ⟨hz1, hz2, hz3⟩ := implies_false h1 h2 hx
          have hfz := fitL_of_labels hz1
          refine implied_d p _ c p2 _ c2 p3 _ c3 w (fun w' x => Labs w' x zs) (hI.mono ?_) (fun w1 w2 x hb hz hb2 => ?_) (fun w1 w2 x hb hz hb2 => ?_) hS
          · rintro e w' ⟨uu, rfl, hla, b⟩
            obtain ⟨p4, c4, rfl, _, _⟩ := hla.open
            exact ⟨⟨p4, _, c4, rfl, hla⟩, b⟩
          · have := ha w1 w2 x zs hb hz hfz hb2
            rw [matchE_ok h1 hz1, hz2] at this
            exact this
          · have := hb' w1 w2 x zs hb hz hfz hb2
            rw [matchE_ok h2 hz1, hz3] at this
            exact this
    · exact implied_b p _ c p2 _ c2 p3 _ c3 w (chkI m) h2 (hI2 h1 h2) (by rw [h1] at hcl; exact hcl) hcm hS
  · exact implied_a p _ c p2 _ c2 p3 _ c3 w (chkI l) h1 (hI1 h1) hcl hS
end Go.Proofs.YtglmffplnglkdabDoor
