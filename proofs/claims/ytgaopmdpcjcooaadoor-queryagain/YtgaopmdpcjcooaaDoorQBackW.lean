/- The walks of the laws QueryBack and QueryAgain over this translation. -/
import Derived.Test.YtgaopmdpcjcooaaDoorQParseF
import Derived.Test.YtgaopmdpcjcooaaDoorQSame
import Derived.Test.YtgaopmdpcjcooaaDoorQStrange
namespace Go.Proofs.YtgaopmdpcjcooaaDoor
open Go.RowKit
set_option linter.unusedVariables false
set_option linter.unusedSimpArgs false
theorem print_len (l : List Rq) : (printE l).1.length ≤ 300 := by
  by_cases h1 : chkI l = 0
  · by_cases h2 : 300 < (tellAll l).length
    · rw [printE_large h1 h2]; simp
    · rw [printE_ok h1 h2]; show (tellAll l).length ≤ 300; omega
  · rw [printE_bad h1]; simp
theorem reqs_form {w : World} {v : Value} {l : List Rq} (h : Reqs w v l) : ∃ p c, v = .slice p l.length c := by
  obtain ⟨p, c, e, _⟩ := h.open
  exact ⟨p, c, e⟩
set_option maxRecDepth 100000 in
set_option maxHeartbeats 2000000 in
theorem back_yes (v : Value) (l : List Rq) (w : World) (hv : Reqs w v l) (hf : ∀ r ∈ l, Fit r) (hR : Room w) (h0 : (printE l).2 = 0) :
    Calls Tryd.prog 3 #[v] w fun e w' => e = .returned (.bool true) ∧ Below w.heap.size w w' := by
  obtain ⟨N, hN⟩ : ∃ N, 310 ≤ N := ⟨310, Nat.le_refl _⟩
  have HPr : Hid (∀ w1, Below w.heap.size w w1 → Calls Tryd.prog 5 #[v] w1 fun e w' => e = .returned (.tuple #[.string (Ba (printE l).1), .int .i64 0]) ∧ Below w1.heap.size w1 w') := fun w1 hb => by
    have := print_any v l w1 (hv.below hb) hf (hR.below hb)
    rw [h0] at this
    exact this
  have HSt : Hid (∀ w1, Below w.heap.size w w1 → Calls Tryd.prog 6 #[] w1 fun e w' => e = .returned (.bool true) ∧ Below w1.heap.size w1 w') := fun w1 hb => strange_any w1 (hR.below hb)
  have hE : parseE N (printE l).1 = (l, 0) := parse_print (by omega) h0
  have HPa : Hid (∀ w1, Below w.heap.size w w1 → Calls Tryd.prog 8 #[.string (Ba (printE l).1)] w1 fun e w' => ∃ p c, e = .returned (.tuple #[.slice p l.length c, .int .i64 0]) ∧ Reqs w' (.slice p l.length c) l ∧ Below w1.heap.size w1 w') := fun w1 hb => by
    refine (parse_all N (printE l).1 w1 hN (by have := print_len l; unfold maxLen; omega) (hR.below hb)).mono ?_
    rintro e w' ⟨v, er, rfl, ⟨h1, h2⟩, b⟩
    rw [hE] at h1 h2
    have h1 : er = 0 := h1
    subst h1
    rcases h2 with ⟨h2, _⟩ | ⟨_, h2⟩
    · exact absurd rfl h2
    · obtain ⟨p, c, rfl⟩ := reqs_form h2.reqs
      exact ⟨p, c, rfl, h2.reqs, b⟩
  have HSa : Hid (∀ w1 u, Below w.heap.size w w1 → Reqs w1 u l → Calls Tryd.prog 9 #[v, u, .func (.func 10) #[] #[]] w1 fun e w' => e = .returned (.bool true) ∧ Below w1.heap.size w1 w') := fun w1 u hb hu => sameAll_yes v u l w1 (hv.below hb) hu
  obtain ⟨p0, c0, rfl⟩ := reqs_form hv
  clear hv hf hR h0 hE hN
  generalize Ba (printE l).1 = y at *
  generalize hnl : l.length = nl at *
  clear hnl
  go_enter Tryd.func3, Tryd.ntmps3
  go_wp2_with fail
  refine Calls.mono (HPr.out _ (Below.refl _ _)) ?_
  rintro e w1 ⟨rfl, b⟩
  have HB1 : Hid (Below w.heap.size w w1) := b
  clear b
  go_wp2_with fail
  refine Calls.mono (HSt.out _ HB1.out) ?_
  rintro e w2 ⟨rfl, b⟩
  have HB2 : Hid (Below w.heap.size w w2) := HB1.out.trans (b.mono HB1.out.size)
  clear b
  go_wp2_with fail
  refine Calls.mono (HPa.out _ HB2.out) ?_
  rintro e w3 ⟨p, c, rfl, hr, b⟩
  have HB3 : Hid (Below w.heap.size w w3) := HB2.out.trans (b.mono HB2.out.size)
  have HRq : Hid (Reqs w3 (.slice p nl c) l) := hr
  clear b hr
  go_wp2_with (go_at_call 9; refine (HSa.out _ _ HB3.out HRq.out).mono ?_; rintro e w' ⟨rfl, hbb⟩)
  go_ret
  exact ⟨rfl, HB3.out.trans (hbb.mono HB3.out.size)⟩
set_option maxRecDepth 100000 in
set_option maxHeartbeats 2000000 in
theorem back_no (v : Value) (l : List Rq) (w : World) (hv : Reqs w v l) (hf : ∀ r ∈ l, Fit r) (hR : Room w) (h0 : (printE l).2 ≠ 0) :
    Calls Tryd.prog 3 #[v] w fun e w' => e = .returned (.bool true) ∧ Below w.heap.size w w' := by
  have HPr : Hid (∀ w1, Below w.heap.size w w1 → Calls Tryd.prog 5 #[v] w1 fun e w' => e = .returned (.tuple #[.string (Ba (printE l).1), .int .i64 (printE l).2]) ∧ Below w1.heap.size w1 w') := fun w1 hb => print_any v l w1 (hv.below hb) hf (hR.below hb)
  have HSt : Hid (∀ w1, Below w.heap.size w w1 → Calls Tryd.prog 6 #[] w1 fun e w' => e = .returned (.bool true) ∧ Below w1.heap.size w1 w') := fun w1 hb => strange_any w1 (hR.below hb)
  have HCk : Hid (∀ w1, Below w.heap.size w w1 → Calls Tryd.prog 7 #[v] w1 fun e w' => e = .returned (.int .i64 (chkI l)) ∧ Below w1.heap.size w1 w') := fun w1 hb => chk_any v l w1 (hv.below hb) hf (hR.below hb)
  obtain ⟨p0, c0, rfl⟩ := reqs_form hv
  obtain ⟨h1, h2⟩ := print_cases l h0
  have hyb : ((Ba (printE l).1).toList == []) = true := beq_nil' rfl h1
  have hne : ((printE l).2 != 0) = true := by simpa using h0
  clear hv hf hR h1
  generalize hce : chkI l = ce at *
  clear hce
  generalize Ba (printE l).1 = y at *
  generalize (printE l).2 = er at *
  generalize hnl : l.length = nl at *
  clear hnl
  by_cases h3 : er = 2
  · have h3b : (er == 2) = true := by simpa using h3
    clear h2 h3 h0
    go_enter Tryd.func3, Tryd.ntmps3
    go_wp2_with fail
    refine Calls.mono (HPr.out _ (Below.refl _ _)) ?_
    rintro e w1 ⟨rfl, b⟩
    have HB1 : Hid (Below w.heap.size w w1) := b
    clear b
    go_wp2_with fail
    refine Calls.mono (HSt.out _ HB1.out) ?_
    rintro e w2 ⟨rfl, b⟩
    have HB2 : Hid (Below w.heap.size w w2) := HB1.out.trans (b.mono HB1.out.size)
    clear b
    go_wp2_with fail
    go_ret
    exact ⟨rfl, HB2.out⟩
  · have h3b : (er == 2) = false := by simpa using h3
    have h4 : ce = er := by
      rcases h2 with h2 | h2
      · exact absurd h2 h3
      · exact h2
    have h4b : (ce == er) = true := by simpa using h4
    clear h2 h3 h4 h0
    go_enter Tryd.func3, Tryd.ntmps3
    go_wp2_with fail
    refine Calls.mono (HPr.out _ (Below.refl _ _)) ?_
    rintro e w1 ⟨rfl, b⟩
    have HB1 : Hid (Below w.heap.size w w1) := b
    clear b
    go_wp2_with fail
    refine Calls.mono (HSt.out _ HB1.out) ?_
    rintro e w2 ⟨rfl, b⟩
    have HB2 : Hid (Below w.heap.size w w2) := HB1.out.trans (b.mono HB1.out.size)
    clear b
    go_wp2_with (go_at_call 7; refine (HCk.out _ HB2.out).mono ?_; rintro e w' ⟨rfl, hbb⟩)
    go_ret
    exact ⟨rfl, HB2.out.trans (hbb.mono HB2.out.size)⟩
theorem back_walk (v : Value) (l : List Rq) (w : World) (hv : Reqs w v l) (hf : ∀ r ∈ l, Fit r) (hR : Room w) :
    Calls Tryd.prog 3 #[v] w fun e w' => e = .returned (.bool true) ∧ Below w.heap.size w w' := by
  by_cases h : (printE l).2 = 0
  · exact back_yes v l w hv hf hR h
  · exact back_no v l w hv hf hR h
set_option maxRecDepth 100000 in
set_option maxHeartbeats 2000000 in
theorem again_no (N : Nat) (s : Bs) (w : World) (hN : 310 ≤ N) (hs : s.length ≤ maxLen) (hR : Room w) (h0 : (parseE N s).2 ≠ 0) :
    Calls Tryd.prog 4 #[.string (Ba s)] w fun e w' => e = .returned (.bool true) ∧ Below w.heap.size w w' := by
  have HPa : Hid (∀ w1, Below w.heap.size w w1 → Calls Tryd.prog 8 #[.string (Ba s)] w1 fun e w' => e = .returned (.tuple #[.slice none 0 0, .int .i64 (parseE N s).2]) ∧ Below w1.heap.size w1 w') := fun w1 hb => by
    refine (parse_all N s w1 hN hs (hR.below hb)).mono ?_
    rintro e w' ⟨v, er, rfl, ⟨h1, h2⟩, b⟩
    rcases h2 with ⟨_, h2⟩ | ⟨h2, _⟩
    · exact ⟨by rw [h1, h2], b⟩
    · exact absurd h2 h0
  have HSt : Hid (∀ w1, Below w.heap.size w w1 → Calls Tryd.prog 6 #[] w1 fun e w' => e = .returned (.bool true) ∧ Below w1.heap.size w1 w') := fun w1 hb => strange_any w1 (hR.below hb)
  have hne : ((parseE N s).2 != 0) = true := by simpa using h0
  clear hN hs hR h0
  generalize (parseE N s).2 = er at *
  generalize Ba s = y at *
  go_enter Tryd.func4, Tryd.ntmps4
  go_wp2_with fail
  refine Calls.mono (HPa.out _ (Below.refl _ _)) ?_
  rintro e w1 ⟨rfl, b⟩
  have HB1 : Hid (Below w.heap.size w w1) := b
  clear b
  go_wp2_with fail
  refine Calls.mono (HSt.out _ HB1.out) ?_
  rintro e w2 ⟨rfl, b⟩
  have HB2 : Hid (Below w.heap.size w w2) := HB1.out.trans (b.mono HB1.out.size)
  clear b
  go_wp2_with fail
  go_ret
  exact ⟨rfl, HB2.out⟩
/-- Parse, where it goes well -/
theorem parse_yes (N : Nat) (s : Bs) (w : World) (hN : 310 ≤ N) (hs : s.length ≤ maxLen) (hR : Room w) (l : List Rq) (hE : parseE N s = (l, 0)) :
    Calls Tryd.prog 8 #[.string (Ba s)] w fun e w' => ∃ p c, e = .returned (.tuple #[.slice p l.length c, .int .i64 0]) ∧ Reqs w' (.slice p l.length c) l ∧ Below w.heap.size w w' := by
  refine (parse_all N s w hN hs hR).mono ?_
  rintro e w' ⟨v, er, rfl, ⟨h1, h2⟩, b⟩
  rw [hE] at h1 h2
  have h1 : er = 0 := h1
  subst h1
  rcases h2 with ⟨h2, _⟩ | ⟨_, h2⟩
  · exact absurd rfl h2
  · obtain ⟨p, c, rfl⟩ := reqs_form h2.reqs
    exact ⟨p, c, rfl, h2.reqs, b⟩
theorem ba_cat (a b : Bs) : Ba a ++ Ba b = Ba (a ++ b) := by
  apply ByteArray.ext
  simp [Ba]
theorem blanks_cat (s : Bs) : (⟨#[32, 32]⟩ : ByteArray) ++ Ba s ++ ⟨#[32]⟩ = Ba ([32, 32] ++ s ++ [32]) := by
  rw [← ba_cat, ← ba_cat]
set_option maxRecDepth 100000 in
set_option maxHeartbeats 4000000 in
theorem again_yes (N : Nat) (s : Bs) (w : World) (hN : 310 ≤ N) (hs : s.length ≤ maxLen) (hR : Room w) (h0 : (parseE N s).2 = 0) :
    Calls Tryd.prog 4 #[.string (Ba s)] w fun e w' => e = .returned (.bool true) ∧ Below w.heap.size w w' := by
  obtain ⟨l, hE⟩ : ∃ l, parseE N s = (l, 0) := ⟨(parseE N s).1, by rw [← h0]⟩
  have hck : chkI l = 0 := by
    have := parse_good h0
    rw [hE] at this
    exact this
  have hfit : ∀ r ∈ l, Fit r := by
    have := parse_fit (N := N) (s := s)
    rw [hE] at this
    exact this
  have HSt : Hid (∀ w1, Below w.heap.size w w1 → Calls Tryd.prog 6 #[] w1 fun e w' => e = .returned (.bool true) ∧ Below w1.heap.size w1 w') := fun w1 hb => strange_any w1 (hR.below hb)
  have HPa : Hid (∀ w1, Below w.heap.size w w1 → Calls Tryd.prog 8 #[.string (Ba s)] w1 fun e w' => ∃ p c, e = .returned (.tuple #[.slice p l.length c, .int .i64 0]) ∧ Reqs w' (.slice p l.length c) l ∧ Below w1.heap.size w1 w') := fun w1 hb => parse_yes N s w1 hN hs (hR.below hb) l hE
  have HPb : Hid (s.length < 290 → ∀ w1, Below w.heap.size w w1 → Calls Tryd.prog 8 #[.string (⟨#[32, 32]⟩ ++ Ba s ++ ⟨#[32]⟩)] w1 fun e w' => ∃ p c, e = .returned (.tuple #[.slice p l.length c, .int .i64 0]) ∧ Reqs w' (.slice p l.length c) l ∧ Below w1.heap.size w1 w') := fun hl w1 hb => by
    rw [blanks_cat]
    exact parse_yes N _ w1 hN (by unfold maxLen; simp; omega) (hR.below hb) l (by rw [parse_blanks h0 hl, hE])
  have HPr : Hid (∀ w1 v, Below w.heap.size w w1 → Reqs w1 v l → Calls Tryd.prog 5 #[v] w1 fun e w' => e = .returned (.tuple #[.string (Ba (printE l).1), .int .i64 (printE l).2]) ∧ Below w1.heap.size w1 w') := fun w1 v hb hv => print_any v l w1 hv hfit (hR.below hb)
  have HPc : Hid ((printE l).2 = 0 → ∀ w1, Below w.heap.size w w1 → Calls Tryd.prog 8 #[.string (Ba (printE l).1)] w1 fun e w' => ∃ p c, e = .returned (.tuple #[.slice p l.length c, .int .i64 0]) ∧ Reqs w' (.slice p l.length c) l ∧ Below w1.heap.size w1 w') := fun h w1 hb => parse_yes N _ w1 hN (by have := print_len l; unfold maxLen; omega) (hR.below hb) l (parse_print (by omega) h)
  have HSa : Hid (∀ w1 v u, Reqs w1 v l → Reqs w1 u l → Calls Tryd.prog 9 #[v, u, .func (.func 10) #[] #[]] w1 fun e w' => e = .returned (.bool true) ∧ Below w1.heap.size w1 w') := fun w1 v u hv hu => sameAll_yes v u l w1 hv hu
  have HPe : Hid ((printE l).2 ≠ 0 → (printE l).2 = 2) := fun h => by
    rcases (print_cases l h).2 with h2 | h2
    · exact h2
    · rw [hck] at h2; exact absurd h2.symm h
  have hsz := ba_size s
  have hcat : (⟨#[32, 32]⟩ ++ Ba s ++ ⟨#[32]⟩ : ByteArray).size = s.length + 3 := by rw [blanks_cat, ba_size]; simp
  have HSz : Hid ((Ba s).size = s.length) := hsz
  have HCat : Hid (_) := hcat
  clear hE hck hfit hR h0 hN hsz hcat
  generalize (printE l).2 = er at *
  generalize Ba (printE l).1 = z at *
  generalize hnl : l.length = nl at *
  clear hnl
  unfold maxLen at hs
  generalize hy : Ba s = y at *
  clear hy
  go_enter Tryd.func4, Tryd.ntmps4
  go_wp2_with fail
  refine Calls.mono (HPa.out _ (Below.refl _ _)) ?_
  rintro e w1 ⟨p1, c1, rfl, hr, b⟩
  have HB1 : Hid (Below w.heap.size w w1) := b
  have HR1 : Hid (Reqs w1 (.slice p1 nl c1) l) := hr
  clear b hr
  go_wp2_with fail
  refine Calls.mono (HSt.out _ HB1.out) ?_
  rintro e w2 ⟨rfl, b⟩
  have HB2 : Hid (Below w.heap.size w w2) := HB1.out.trans (b.mono HB1.out.size)
  have HR2 : Hid (Reqs w2 (.slice p1 nl c1) l) := HR1.out.below b
  clear b
  by_cases hl : s.length < 290
  · have hlI : (y.size : Int) < 290 := by have := HSz.out; omega
    have hcat2 : (⟨#[32, 32]⟩ ++ y ++ ⟨#[32]⟩ : ByteArray).size ≤ 1000 := by have := HCat.out; omega
    have HPb2 : Hid (_) := HPb.out hl
    have hcat1 : (⟨#[32, 32]⟩ ++ y : ByteArray).size ≤ 1000 := by
      have h9 := HCat.out
      rw [ByteArray.size_append] at h9
      omega
    clear hl
    go_wp2_with fail
    refine Calls.mono (HPb2.out _ HB2.out) ?_
    rintro e w3 ⟨p3, c3, rfl, hr3, b⟩
    have HB3 : Hid (Below w.heap.size w w3) := HB2.out.trans (b.mono HB2.out.size)
    have HR3 : Hid (Reqs w3 (.slice p1 nl c1) l) := HR2.out.below b
    have HSa3 : Hid (_) := HSa.out w3 _ _ HR3.out hr3
    clear b hr3
    go_wp2_with fail
    refine Calls.mono HSa3.out ?_
    rintro e w4 ⟨rfl, b4⟩
    have HB4 : Hid (Below w.heap.size w w4) := HB3.out.trans (b4.mono HB3.out.size)
    have HR4 : Hid (Reqs w4 (.slice p1 nl c1) l) := HR3.out.below b4
    clear b4
    go_wp2_with fail
    refine Calls.mono (HPr.out _ _ HB4.out HR4.out) ?_
    rintro e w5 ⟨rfl, b⟩
    have HB5 : Hid (Below w.heap.size w w5) := HB4.out.trans (b.mono HB4.out.size)
    have HR5 : Hid (Reqs w5 (.slice p1 nl c1) l) := HR4.out.below b
    clear b
    by_cases he : er = 0
    · have HPc2 : Hid (_) := HPc.out he
      have heb : (er != 0) = false := by simpa using he
      clear he HPc HPe
      go_wp2_with fail
      refine Calls.mono (HPc2.out _ HB5.out) ?_
      rintro e w8 ⟨p8, c8, rfl, hr8, b⟩
      have HB8 : Hid (Below w.heap.size w w8) := HB5.out.trans (b.mono HB5.out.size)
      have HSa8 : Hid (_) := HSa.out w8 _ _ (HR5.out.below b) hr8
      clear b hr8
      go_wp2_with fail
      refine Calls.mono HSa8.out ?_
      rintro e w9 ⟨rfl, hbb⟩
      go_wp2_with fail
      go_ret
      exact ⟨rfl, HB8.out.trans (hbb.mono HB8.out.size)⟩
    · have he2 := HPe.out he
      have heb : (er != 0) = true := by simpa using he
      have heb2 : (er == 2) = true := by simpa using he2
      clear he he2 HPc HPe
      go_wp2_with fail
      go_ret
      exact ⟨rfl, HB5.out⟩
  · have hlI : ¬ (y.size : Int) < 290 := by have := HSz.out; omega
    clear hl
    go_wp2_with fail
    refine Calls.mono (HPr.out _ _ HB2.out HR2.out) ?_
    rintro e w3 ⟨rfl, b⟩
    have HB3 : Hid (Below w.heap.size w w3) := HB2.out.trans (b.mono HB2.out.size)
    have HR3 : Hid (Reqs w3 (.slice p1 nl c1) l) := HR2.out.below b
    clear b
    by_cases he : er = 0
    · have HPc2 : Hid (_) := HPc.out he
      have heb : (er != 0) = false := by simpa using he
      clear he HPc HPe
      go_wp2_with fail
      refine Calls.mono (HPc2.out _ HB3.out) ?_
      rintro e w8 ⟨p8, c8, rfl, hr8, b⟩
      have HB8 : Hid (Below w.heap.size w w8) := HB3.out.trans (b.mono HB3.out.size)
      have HSa8 : Hid (_) := HSa.out w8 _ _ (HR3.out.below b) hr8
      clear b hr8
      go_wp2_with fail
      refine Calls.mono HSa8.out ?_
      rintro e w9 ⟨rfl, hbb⟩
      go_wp2_with fail
      go_ret
      exact ⟨rfl, HB8.out.trans (hbb.mono HB8.out.size)⟩
    · have he2 := HPe.out he
      have heb : (er != 0) = true := by simpa using he
      have heb2 : (er == 2) = true := by simpa using he2
      clear he he2 HPc HPe
      go_wp2_with fail
      go_ret
      exact ⟨rfl, HB3.out⟩
theorem again_walk (s : Bs) (w : World) (hs : s.length ≤ maxLen) (hR : Room w) :
    Calls Tryd.prog 4 #[.string (Ba s)] w fun e w' => e = .returned (.bool true) ∧ Below w.heap.size w w' := by
  obtain ⟨N, hN⟩ : ∃ N, 310 ≤ N := ⟨310, Nat.le_refl _⟩
  by_cases h : (parseE N s).2 = 0
  · exact again_yes N s w hN hs hR h
  · exact again_no N s w hN hs hR h
theorem again_walkB (y : ByteArray) (w : World) (hs : y.size ≤ maxLen) (hR : Room w) :
    Calls Tryd.prog 4 #[.string y] w fun e w' => e = .returned (.bool true) ∧ Below w.heap.size w w' := by
  have e : y = Ba y.data.toList := by cases y; rfl
  have := again_walk y.data.toList w (by rw [← ba_size, ← e]; exact hs) hR
  rw [← e] at this
  exact this
end Go.Proofs.YtgaopmdpcjcooaaDoor
