/- Walks over this translation: seneschalref.SameUser; TokenBack: who has a token is told up to its time. -/
import Derived.Test.YtmbpjbghhimedaaGreatDoorTkCheck
namespace Go.Proofs.YtmbpjbghhimedaaGreatDoor
open Go.RowKit
set_option linter.unusedVariables false
set_option linter.unusedSimpArgs false
theorem sameUser_any (n m : Bs) (u v : Value) (gs hs : List Bs) (w : World) (hu : Strs w u gs) (hv : Strs w v hs) :
    Calls Tryz.prog 10 #[.agg #[.string (Ba n), u], .agg #[.string (Ba m), v]] w fun e w' => e = .returned (.bool (decide (n = m) && (gs == hs))) ∧ Below w.heap.size w w' := by
  obtain ⟨p, c, rfl, _⟩ := hu.form
  obtain ⟨q, d, rfl, _⟩ := hv.form
  have hB : Below w.heap.size w ((w.alloc (.cells #[.string (Ba n), .slice p gs.length c] 24)).alloc (.cells #[.string (Ba m), .slice q hs.length d] 24)) := ((Below.refl _ _).alloc (Nat.le_refl _) _).alloc (by simp) _
  have HB : Hid (_) := hB
  have HE : Hid (Calls Tryz.prog 28 #[.slice p gs.length c, .slice q hs.length d] ((w.alloc (.cells #[.string (Ba n), .slice p gs.length c] 24)).alloc (.cells #[.string (Ba m), .slice q hs.length d] 24)) fun e w' => e = .returned (.bool (gs == hs)) ∧ Below w.heap.size w w') := by
    refine (rfeq_any _ _ gs hs _ (hu.below hB) (hv.below hB)).mono ?_
    rintro e w' ⟨rfl, b⟩
    exact ⟨rfl, hB.trans (b.mono hB.size)⟩
  have hbq := ba_beq n m
  clear hu hv hB
  by_cases hnm : n = m
  · rw [decide_eq_true hnm] at hbq ⊢
    clear hnm
    generalize Ba n = y at *
    generalize Ba m = z at *
    generalize (gs == hs) = r at *
    go_enter Tryz.func10, Tryz.ntmps10
    go_wp2_with fail
    refine Calls.mono HE.out ?_
    rintro e w1 ⟨rfl, b⟩
    have B1 : Hid (Below w.heap.size w w1) := b
    clear b
    go_wp2_with fail
    go_ret
    exact ⟨by simp, B1.out⟩
  · rw [decide_eq_false hnm] at hbq ⊢
    clear hnm HE
    generalize Ba n = y at *
    generalize Ba m = z at *
    go_enter Tryz.func10, Tryz.ntmps10
    go_wp2_with fail
    go_ret
    exact ⟨by simp, HB.out⟩
theorem iss_err {key n : Bs} {gs : List Bs} {u : Int} (h : (issP key n gs u).1 ≠ 0) : (issP key n gs u).2 = [] := by
  revert h
  unfold issP
  split
  · intro _; rfl
  · split
    · intro _; rfl
    · split
      · intro _; rfl
      · intro h; exact absurd rfl h
theorem iss_len {key n : Bs} {gs : List Bs} {u : Int} : (issP key n gs u).2.length ≤ 264 := by
  unfold issP
  split
  · simp
  · split
    · simp
    · rename_i hu
      split
      · simp
      · rename_i ht
        have htt := timeB_iff.1 (by simpa using ht)
        have := tell_len (u := u.toNat) (n := n) (gs := gs) (by simpa using hu) (by omega)
        simp only [List.length_append, signP, hexP_length, macP_length]
        omega
theorem chk_empty : chkP [] [] 0 = (1, [], []) := chk_arg (Or.inl rfl)
set_option maxRecDepth 100000 in
set_option maxHeartbeats 8000000 in
theorem back_walk (key n : Bs) (v : Value) (gs : List Bs) (u now : Int) (w : World) (hk : key.length ≤ maxLen) (hn : n.length ≤ maxLen) (hv : Strs w v gs) (hg : ∀ g ∈ gs, g.length ≤ maxLen) (hT : TkW w) :
    Calls Tryz.prog 4 #[.string (Ba key), .agg #[.string (Ba n), v], .int .i64 u, .int .i64 now] w fun e w' => e = .returned (.bool true) ∧ Below w.heap.size w w' := by
  have hvf := hv.form
  obtain ⟨p, c, rfl, hln⟩ := hvf
  obtain ⟨w0, hw0⟩ : ∃ w0, w0 = w.alloc (.cells #[.string (Ba n), .slice p gs.length c] 24) := ⟨_, rfl⟩
  have hB0 : Below w.heap.size w w0 := by rw [hw0]; exact (Below.refl _ _).alloc (Nat.le_refl _) _
  have hbx : Bx2 w0 w.heap.size (.string (Ba n)) (.slice p gs.length c) 24 := by rw [hw0]; exact bx2_new _ _ _ _
  have HB0 : Hid (Below w.heap.size w w0) := hB0
  have HX0 : Hid (Bx2 w0 w.heap.size (.string (Ba n)) (.slice p gs.length c) 24) := hbx
  have HI : Hid (Calls Tryz.prog 6 #[.string (Ba key), .agg #[.string (Ba n), .slice p gs.length c], .int .i64 u] w0 fun e w' => e = .returned (issV (issP key n gs u)) ∧ Below w0.heap.size w0 w') := issue_any key n _ gs u w0 hk hn (hv.below hB0) hg (hT.below hB0)
  have HC0 : Hid (∀ w1, Below w.heap.size w w1 → Calls Tryz.prog 8 #[.string ⟨#[]⟩, .string ⟨#[]⟩, .int .i64 0] w1 fun e w' => (∃ p c, e = .returned (.tuple #[.agg #[.string ⟨#[]⟩, .slice p 0 c], .int .i64 1])) ∧ Below w1.heap.size w1 w') := fun w1 hb => by
    have h := tcheck_any [] [] 0 w1 (by simp) (by simp) (hT.below hb)
    rw [chk_empty] at h
    refine h.mono ?_
    rintro e w' ⟨⟨gv, rfl, hs⟩, b⟩
    obtain ⟨p, c, rfl, _⟩ := hs.form
    exact ⟨⟨p, c, rfl⟩, b⟩
  have HC : Hid (∀ w1, Below w.heap.size w w1 → Calls Tryz.prog 8 #[.string (Ba key), .string (Ba (issP key n gs u).2), .int .i64 now] w1 fun e w' => ChkP (chkP key (issP key n gs u).2 now) e w' ∧ Below w1.heap.size w1 w') := fun w1 hb =>
    tcheck_any key _ now w1 hk (by have := iss_len (key := key) (n := n) (gs := gs) (u := u); omega) (hT.below hb)
  have HS : Hid (∀ w1, Below w.heap.size w w1 → Strs w1 (.slice p gs.length c) gs) := fun w1 hb => hv.below hb
  have HBk : Hid ((issP key n gs u).1 = 0 → chkP key (issP key n gs u).2 now = if timeB now = false then (1, [], []) else if u < now then (15, [], []) else (0, n, gs)) := fun h => back_plain (t := (issP key n gs u).2) (by rw [← h]) now
  have HEr : Hid ((issP key n gs u).1 ≠ 0 → (issP key n gs u).2 = []) := iss_err
  clear hv hg hT hB0 hbx
  generalize issP key n gs u = iss at *
  obtain ⟨ie, it⟩ := iss
  have hiv : issV (ie, it) = .tuple #[.string (Ba it), .int .i64 ie] := rfl
  rw [hiv] at HI
  clear hiv
  dsimp only at *
  unfold maxLen at hk hn hln
  by_cases hie : ie = 0
  · subst hie
    have HB := HBk.out rfl
    have HBh : Hid (_) := HB
    clear HB HEr HBk
    cases htb : timeB now with
    | false =>
      have HChk : Hid (chkP key it now = (1, [], [])) := by show _ = _; rw [HBh.out, if_pos htb]
      have hnn : now < 0 ∨ 1099511627776 < now := by
        by_cases h : 0 ≤ now ∧ now ≤ 1099511627776
        · rw [timeB_iff.2 h] at htb
          cases htb
        · omega
      clear HBh htb
      by_cases hneg : now < 0
      · have hneg2 : Hid (now < 0) := hneg
        go_enter Tryz.func4, Tryz.ntmps4
        have q0 := HX0.out.c0
        have q1 := HX0.out.c1
        go_wp2_with fail
        rw [← hw0]
        clear hw0
        refine Calls.mono HI.out ?_
        rintro e w1 ⟨rfl, b⟩
        have HB1 : Hid (Below w.heap.size w w1) := HB0.out.trans (b.mono HB0.out.size)
        have HX1 : Hid (Bx2 w1 w.heap.size (.string (Ba n)) (.slice p gs.length c) 24) := HX0.out.below b
        clear b q0 q1
        go_wp2_with fail
        refine Calls.mono (HC0.out _ HB1.out) ?_
        rintro e w2 ⟨⟨p0, c0, rfl⟩, b⟩
        have hb2 := b.alloc b.size (o := .cells #[.string ⟨#[]⟩, .slice p0 0 c0] 24)
        have HB2 : Hid (Below w.heap.size w (w2.alloc (.cells #[.string ⟨#[]⟩, .slice p0 0 c0] 24))) := HB1.out.trans (hb2.mono HB1.out.size)
        have HX2 : Hid (Bx2 (w2.alloc (.cells #[.string ⟨#[]⟩, .slice p0 0 c0] 24)) w.heap.size (.string (Ba n)) (.slice p gs.length c) 24) := HX1.out.below hb2
        clear b hb2
        have HCk : Hid (Calls Tryz.prog 8 #[.string (Ba key), .string (Ba it), .int .i64 now] (w2.alloc (.cells #[.string ⟨#[]⟩, .slice p0 0 c0] 24)) fun e w' => ChkP (1, [], []) e w' ∧ Below (w2.alloc (.cells #[.string ⟨#[]⟩, .slice p0 0 c0] 24)).heap.size (w2.alloc (.cells #[.string ⟨#[]⟩, .slice p0 0 c0] 24)) w') := by
          have h := HC.out _ HB2.out
          rw [HChk.out] at h
          exact h
        go_wp2_with fail
        refine Calls.mono HCk.out ?_
        rintro e w3 ⟨⟨gv, rfl, hs⟩, b⟩
        obtain ⟨p1, c1, rfl, _⟩ := hs.form
        have HB3 : Hid (Below w.heap.size w (w3.alloc (.cells #[.string (Ba []), .slice p1 0 c1] 24))) := by
          have h := HB2.out.trans (b.mono HB2.out.size)
          exact h.alloc h.size _
        clear b hs
        go_wp2_with fail
        go_ret
        exact ⟨rfl, HB3.out⟩
      · have hpos : 1099511627776 < now := by omega
        go_enter Tryz.func4, Tryz.ntmps4
        have q0 := HX0.out.c0
        have q1 := HX0.out.c1
        go_wp2_with fail
        rw [← hw0]
        clear hw0
        refine Calls.mono HI.out ?_
        rintro e w1 ⟨rfl, b⟩
        have HB1 : Hid (Below w.heap.size w w1) := HB0.out.trans (b.mono HB0.out.size)
        have HX1 : Hid (Bx2 w1 w.heap.size (.string (Ba n)) (.slice p gs.length c) 24) := HX0.out.below b
        clear b q0 q1
        go_wp2_with fail
        refine Calls.mono (HC0.out _ HB1.out) ?_
        rintro e w2 ⟨⟨p0, c0, rfl⟩, b⟩
        have hb2 := b.alloc b.size (o := .cells #[.string ⟨#[]⟩, .slice p0 0 c0] 24)
        have HB2 : Hid (Below w.heap.size w (w2.alloc (.cells #[.string ⟨#[]⟩, .slice p0 0 c0] 24))) := HB1.out.trans (hb2.mono HB1.out.size)
        have HX2 : Hid (Bx2 (w2.alloc (.cells #[.string ⟨#[]⟩, .slice p0 0 c0] 24)) w.heap.size (.string (Ba n)) (.slice p gs.length c) 24) := HX1.out.below hb2
        clear b hb2
        have HCk : Hid (Calls Tryz.prog 8 #[.string (Ba key), .string (Ba it), .int .i64 now] (w2.alloc (.cells #[.string ⟨#[]⟩, .slice p0 0 c0] 24)) fun e w' => ChkP (1, [], []) e w' ∧ Below (w2.alloc (.cells #[.string ⟨#[]⟩, .slice p0 0 c0] 24)).heap.size (w2.alloc (.cells #[.string ⟨#[]⟩, .slice p0 0 c0] 24)) w') := by
          have h := HC.out _ HB2.out
          rw [HChk.out] at h
          exact h
        go_wp2_with fail
        refine Calls.mono HCk.out ?_
        rintro e w3 ⟨⟨gv, rfl, hs⟩, b⟩
        obtain ⟨p1, c1, rfl, _⟩ := hs.form
        have HB3 : Hid (Below w.heap.size w (w3.alloc (.cells #[.string (Ba []), .slice p1 0 c1] 24))) := by
          have h := HB2.out.trans (b.mono HB2.out.size)
          exact h.alloc h.size _
        clear b hs
        go_wp2_with fail
        go_ret
        exact ⟨rfl, HB3.out⟩
    | true =>
      obtain ⟨t0, t1⟩ := timeB_iff.1 htb
      have hn0 : ¬ now < 0 := by omega
      have hn1 : ¬ 1099511627776 < now := by omega
      by_cases hlate : u < now
      · have HChk : Hid (chkP key it now = (15, [], [])) := by show _ = _; rw [HBh.out, if_neg (by simp [htb]), if_pos hlate]
        clear HBh htb t0 t1
        go_enter Tryz.func4, Tryz.ntmps4
        have q0 := HX0.out.c0
        have q1 := HX0.out.c1
        go_wp2_with fail
        rw [← hw0]
        clear hw0
        refine Calls.mono HI.out ?_
        rintro e w1 ⟨rfl, b⟩
        have HB1 : Hid (Below w.heap.size w w1) := HB0.out.trans (b.mono HB0.out.size)
        have HX1 : Hid (Bx2 w1 w.heap.size (.string (Ba n)) (.slice p gs.length c) 24) := HX0.out.below b
        clear b q0 q1
        go_wp2_with fail
        refine Calls.mono (HC0.out _ HB1.out) ?_
        rintro e w2 ⟨⟨p0, c0, rfl⟩, b⟩
        have hb2 := b.alloc b.size (o := .cells #[.string ⟨#[]⟩, .slice p0 0 c0] 24)
        have HB2 : Hid (Below w.heap.size w (w2.alloc (.cells #[.string ⟨#[]⟩, .slice p0 0 c0] 24))) := HB1.out.trans (hb2.mono HB1.out.size)
        have HX2 : Hid (Bx2 (w2.alloc (.cells #[.string ⟨#[]⟩, .slice p0 0 c0] 24)) w.heap.size (.string (Ba n)) (.slice p gs.length c) 24) := HX1.out.below hb2
        clear b hb2
        have HCk : Hid (Calls Tryz.prog 8 #[.string (Ba key), .string (Ba it), .int .i64 now] (w2.alloc (.cells #[.string ⟨#[]⟩, .slice p0 0 c0] 24)) fun e w' => ChkP (15, [], []) e w' ∧ Below (w2.alloc (.cells #[.string ⟨#[]⟩, .slice p0 0 c0] 24)).heap.size (w2.alloc (.cells #[.string ⟨#[]⟩, .slice p0 0 c0] 24)) w') := by
          have h := HC.out _ HB2.out
          rw [HChk.out] at h
          exact h
        go_wp2_with fail
        refine Calls.mono HCk.out ?_
        rintro e w3 ⟨⟨gv, rfl, hs⟩, b⟩
        obtain ⟨p1, c1, rfl, _⟩ := hs.form
        have HB3 : Hid (Below w.heap.size w (w3.alloc (.cells #[.string (Ba []), .slice p1 0 c1] 24))) := by
          have h := HB2.out.trans (b.mono HB2.out.size)
          exact h.alloc h.size _
        clear b hs
        go_wp2_with fail
        go_ret
        exact ⟨rfl, HB3.out⟩
      · have HChk : Hid (chkP key it now = (0, n, gs)) := by show _ = _; rw [HBh.out, if_neg (by simp [htb]), if_neg hlate]
        clear HBh htb t0 t1
        go_enter Tryz.func4, Tryz.ntmps4
        have q0 := HX0.out.c0
        have q1 := HX0.out.c1
        go_wp2_with fail
        rw [← hw0]
        clear hw0
        refine Calls.mono HI.out ?_
        rintro e w1 ⟨rfl, b⟩
        have HB1 : Hid (Below w.heap.size w w1) := HB0.out.trans (b.mono HB0.out.size)
        have HX1 : Hid (Bx2 w1 w.heap.size (.string (Ba n)) (.slice p gs.length c) 24) := HX0.out.below b
        clear b q0 q1
        go_wp2_with fail
        refine Calls.mono (HC0.out _ HB1.out) ?_
        rintro e w2 ⟨⟨p0, c0, rfl⟩, b⟩
        have hb2 := b.alloc b.size (o := .cells #[.string ⟨#[]⟩, .slice p0 0 c0] 24)
        have HB2 : Hid (Below w.heap.size w (w2.alloc (.cells #[.string ⟨#[]⟩, .slice p0 0 c0] 24))) := HB1.out.trans (hb2.mono HB1.out.size)
        have HX2 : Hid (Bx2 (w2.alloc (.cells #[.string ⟨#[]⟩, .slice p0 0 c0] 24)) w.heap.size (.string (Ba n)) (.slice p gs.length c) 24) := HX1.out.below hb2
        clear b hb2
        have HCk : Hid (Calls Tryz.prog 8 #[.string (Ba key), .string (Ba it), .int .i64 now] (w2.alloc (.cells #[.string ⟨#[]⟩, .slice p0 0 c0] 24)) fun e w' => ChkP (0, n, gs) e w' ∧ Below (w2.alloc (.cells #[.string ⟨#[]⟩, .slice p0 0 c0] 24)).heap.size (w2.alloc (.cells #[.string ⟨#[]⟩, .slice p0 0 c0] 24)) w') := by
          have h := HC.out _ HB2.out
          rw [HChk.out] at h
          exact h
        go_wp2_with fail
        refine Calls.mono HCk.out ?_
        rintro e w3 ⟨⟨gv, rfl, hs⟩, b⟩
        obtain ⟨p1, c1, rfl, _⟩ := hs.form
        have hb3 := b.alloc b.size (o := .cells #[.string (Ba n), .slice p1 gs.length c1] 24)
        have HB3 : Hid (Below w.heap.size w (w3.alloc (.cells #[.string (Ba n), .slice p1 gs.length c1] 24))) := HB2.out.trans (hb3.mono HB2.out.size)
        have HX3 : Hid (Bx2 (w3.alloc (.cells #[.string (Ba n), .slice p1 gs.length c1] 24)) w.heap.size (.string (Ba n)) (.slice p gs.length c) 24) := HX2.out.below hb3
        have HSm : Hid (Calls Tryz.prog 10 #[.agg #[.string (Ba n), .slice p gs.length c], .agg #[.string (Ba n), .slice p1 gs.length c1]] (w3.alloc (.cells #[.string (Ba n), .slice p1 gs.length c1] 24)) fun e w' => e = .returned (.bool true) ∧ Below (w3.alloc (.cells #[.string (Ba n), .slice p1 gs.length c1] 24)).heap.size (w3.alloc (.cells #[.string (Ba n), .slice p1 gs.length c1] 24)) w') := by
          have h := sameUser_any n n _ _ gs gs _ (HS.out _ HB3.out) (hs.below ((Below.refl _ _).alloc (Nat.le_refl _) _))
          rw [show (decide (n = n) && (gs == gs)) = true by simp] at h
          exact h
        have x0 := HX3.out.c0
        have x1 := HX3.out.c1
        clear b hb3 hs HX2
        go_wp2_with fail
        refine Calls.mono HSm.out ?_
        rintro e w4 ⟨rfl, b⟩
        have HB4 : Hid (Below w.heap.size w w4) := HB3.out.trans (b.mono HB3.out.size)
        clear b
        go_wp2_with fail
        go_ret
        exact ⟨rfl, HB4.out⟩
  · have hib : (ie != 0) = true := by simp [hie]
    have he := HEr.out hie
    subst he
    clear HBk HEr hie
    go_enter Tryz.func4, Tryz.ntmps4
    have q0 := HX0.out.c0
    have q1 := HX0.out.c1
    go_wp2_with fail
    rw [← hw0]
    clear hw0
    refine Calls.mono HI.out ?_
    rintro e w1 ⟨rfl, b⟩
    have HB1 : Hid (Below w.heap.size w w1) := HB0.out.trans (b.mono HB0.out.size)
    have HX1 : Hid (Bx2 w1 w.heap.size (.string (Ba n)) (.slice p gs.length c) 24) := HX0.out.below b
    clear b q0 q1
    go_wp2_with fail
    refine Calls.mono (HC0.out _ HB1.out) ?_
    rintro e w2 ⟨⟨p0, c0, rfl⟩, b⟩
    have hb2 := b.alloc b.size (o := .cells #[.string ⟨#[]⟩, .slice p0 0 c0] 24)
    have HB2 : Hid (Below w.heap.size w (w2.alloc (.cells #[.string ⟨#[]⟩, .slice p0 0 c0] 24))) := HB1.out.trans (hb2.mono HB1.out.size)
    have HX2 : Hid (Bx2 (w2.alloc (.cells #[.string ⟨#[]⟩, .slice p0 0 c0] 24)) w.heap.size (.string (Ba n)) (.slice p gs.length c) 24) := HX1.out.below hb2
    clear b hb2
    go_wp2_with fail
    go_ret
    exact ⟨rfl, HB2.out⟩
end Go.Proofs.YtmbpjbghhimedaaGreatDoor
