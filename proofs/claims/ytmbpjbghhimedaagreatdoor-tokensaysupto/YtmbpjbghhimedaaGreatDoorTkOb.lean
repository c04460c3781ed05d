/- Several texts in one: TkBackW, TkOneW. -/
import Derived.Test.YtmbpjbghhimedaaGreatDoorTkCheck
/- Walks over this translation: seneschalref.SameUser; TokenBack: who has a token is told up to its time. -/
namespace Go.Proofs.YtmbpjbghhimedaaGreatDoor
open Go.RowKit
set_option linter.unusedVariables false
set_option linter.unusedSimpArgs false
theorem sameUser_any (n m : Bs) (u v : Value) (gs hs : List Bs) (w : World) (hu : Strs w u gs) (hv : Strs w v hs) :
    Calls Tryz.prog 10 #[.agg #[.string (Ba n), u], .agg #[.string (Ba m), v]] w fun e w' => e = .returned (.bool (decide (n = m) && (gs == hs))) ∧ Below w.heap.size w w' := by
  obtain ⟨p, c, rfl, _⟩ := hu.form
  obtain ⟨q, d, rfl, _⟩ := hv.form
  have hB : Below w.heap.size w ((w.alloc (.cells #[.string (Ba n), .slice p gs.length c] 24)).alloc (.cells #[.string (Ba m), .slice q hs.length d] 24)) := ((Below.refl _ _).alloc (Nat.le_refl _) _).alloc (by simp) _
  have HB : Hid (_) := hB
  have HE : Hid (Calls Tryz.prog 28 #[.slice p gs.length c, .slice q hs.length d] ((w.alloc (.cells #[.string (Ba n), .slice p gs.length c] 24)).alloc (.cells #[.string (Ba m), .slice q hs.length d] 24)) fun e w' => e = .returned (.bool (gs == hs)) ∧ Below w.heap.size w w') := by
    refine (rfeq_any _ _ gs hs _ (hu.below hB) (hv.below hB)).mono ?_
    rintro e w' ⟨rfl, b⟩
    exact ⟨rfl, hB.trans (b.mono hB.size)⟩
  have hbq := ba_beq n m
  clear hu hv hB
  by_cases hnm : n = m
  · rw [decide_eq_true hnm] at hbq ⊢
    clear hnm
    generalize Ba n = y at *
    generalize Ba m = z at *
    generalize (gs == hs) = r at *
    go_enter Tryz.func10, Tryz.ntmps10
    go_wp2_with fail
    refine Calls.mono HE.out ?_
    rintro e w1 ⟨rfl, b⟩
    have B1 : Hid (Below w.heap.size w w1) := b
    clear b
    go_wp2_with fail
    go_ret
    exact ⟨by simp, B1.out⟩
  · rw [decide_eq_false hnm] at hbq ⊢
    clear hnm HE
    generalize Ba n = y at *
    generalize Ba m = z at *
    go_enter Tryz.func10, Tryz.ntmps10
    go_wp2_with fail
    go_ret
    exact ⟨by simp, HB.out⟩
theorem iss_err {key n : Bs} {gs : List Bs} {u : Int} (h : (issP key n gs u).1 ≠ 0) : (issP key n gs u).2 = [] := by
  revert h
  unfold issP
  split
  · intro _; rfl
  · split
    · intro _; rfl
    · split
      · intro _; rfl
      · intro h; exact absurd rfl h
theorem iss_len {key n : Bs} {gs : List Bs} {u : Int} : (issP key n gs u).2.length ≤ 264 := by
  unfold issP
  split
  · simp
  · split
    · simp
    · rename_i hu
      split
      · simp
      · rename_i ht
        have htt := timeB_iff.1 (by simpa using ht)
        have := tell_len (u := u.toNat) (n := n) (gs := gs) (by simpa using hu) (by omega)
        simp only [List.length_append, signP, hexP_length, macP_length]
        omega
theorem chk_empty : chkP [] [] 0 = (1, [], []) := chk_arg (Or.inl rfl)
set_option maxRecDepth 100000 in
set_option maxHeartbeats 8000000 in
theorem back_walk (key n : Bs) (v : Value) (gs : List Bs) (u now : Int) (w : World) (hk : key.length ≤ maxLen) (hn : n.length ≤ maxLen) (hv : Strs w v gs) (hg : ∀ g ∈ gs, g.length ≤ maxLen) (hT : TkW w) :
    Calls Tryz.prog 4 #[.string (Ba key), .agg #[.string (Ba n), v], .int .i64 u, .int .i64 now] w fun e w' => e = .returned (.bool true) ∧ Below w.heap.size w w' := by
  have hvf := hv.form
  obtain ⟨p, c, rfl, hln⟩ := hvf
  obtain ⟨w0, hw0⟩ : ∃ w0, w0 = w.alloc (.cells #[.string (Ba n), .slice p gs.length c] 24) := ⟨_, rfl⟩
  have hB0 : Below w.heap.size w w0 := by rw [hw0]; exact (Below.refl _ _).alloc (Nat.le_refl _) _
  have hbx : Bx2 w0 w.heap.size (.string (Ba n)) (.slice p gs.length c) 24 := by rw [hw0]; exact bx2_new _ _ _ _
  have HB0 : Hid (Below w.heap.size w w0) := hB0
  have HX0 : Hid (Bx2 w0 w.heap.size (.string (Ba n)) (.slice p gs.length c) 24) := hbx
  have HI : Hid (Calls Tryz.prog 6 #[.string (Ba key), .agg #[.string (Ba n), .slice p gs.length c], .int .i64 u] w0 fun e w' => e = .returned (issV (issP key n gs u)) ∧ Below w0.heap.size w0 w') := issue_any key n _ gs u w0 hk hn (hv.below hB0) hg (hT.below hB0)
  have HC0 : Hid (∀ w1, Below w.heap.size w w1 → Calls Tryz.prog 8 #[.string ⟨#[]⟩, .string ⟨#[]⟩, .int .i64 0] w1 fun e w' => (∃ p c, e = .returned (.tuple #[.agg #[.string ⟨#[]⟩, .slice p 0 c], .int .i64 1])) ∧ Below w1.heap.size w1 w') := fun w1 hb => by
    have h := tcheck_any [] [] 0 w1 (by simp) (by simp) (hT.below hb)
    rw [chk_empty] at h
    refine h.mono ?_
    rintro e w' ⟨⟨gv, rfl, hs⟩, b⟩
    obtain ⟨p, c, rfl, _⟩ := hs.form
    exact ⟨⟨p, c, rfl⟩, b⟩
  have HC : Hid (∀ w1, Below w.heap.size w w1 → Calls Tryz.prog 8 #[.string (Ba key), .string (Ba (issP key n gs u).2), .int .i64 now] w1 fun e w' => ChkP (chkP key (issP key n gs u).2 now) e w' ∧ Below w1.heap.size w1 w') := fun w1 hb =>
    tcheck_any key _ now w1 hk (by have := iss_len (key := key) (n := n) (gs := gs) (u := u); omega) (hT.below hb)
  have HS : Hid (∀ w1, Below w.heap.size w w1 → Strs w1 (.slice p gs.length c) gs) := fun w1 hb => hv.below hb
  have HBk : Hid ((issP key n gs u).1 = 0 → chkP key (issP key n gs u).2 now = if timeB now = false then (1, [], []) else if u < now then (15, [], []) else (0, n, gs)) := fun h => back_plain (t := (issP key n gs u).2) (by rw [← h]) now
  have HEr : Hid ((issP key n gs u).1 ≠ 0 → (issP key n gs u).2 = []) := iss_err
  clear hv hg hT hB0 hbx
  generalize issP key n gs u = iss at *
  obtain ⟨ie, it⟩ := iss
  have hiv : issV (ie, it) = .tuple #[.string (Ba it), .int .i64 ie] := rfl
  rw [hiv] at HI
  clear hiv
  dsimp only at *
  unfold maxLen at hk hn hln
  by_cases hie : ie = 0
  · subst hie
    have HB := HBk.out rfl
    have HBh : Hid (_) := HB
    clear HB HEr HBk
    cases htb : timeB now with
    | false =>
      have HChk : Hid (chkP key it now = (1, [], [])) := by show _ = _; rw [HBh.out, if_pos htb]
      have hnn : now < 0 ∨ 1099511627776 < now := by
        by_cases h : 0 ≤ now ∧ now ≤ 1099511627776
        · rw [timeB_iff.2 h] at htb
          cases htb
        · omega
      clear HBh htb
      by_cases hneg : now < 0
      · have hneg2 : Hid (now < 0) := hneg
        go_enter Tryz.func4, Tryz.ntmps4
        have q0 := HX0.out.c0
        have q1 := HX0.out.c1
        go_wp2_with fail
        rw [← hw0]
        clear hw0
        refine Calls.mono HI.out ?_
        rintro e w1 ⟨rfl, b⟩
        have HB1 : Hid (Below w.heap.size w w1) := HB0.out.trans (b.mono HB0.out.size)
        have HX1 : Hid (Bx2 w1 w.heap.size (.string (Ba n)) (.slice p gs.length c) 24) := HX0.out.below b
        clear b q0 q1
        go_wp2_with fail
        refine Calls.mono (HC0.out _ HB1.out) ?_
        rintro e w2 ⟨⟨p0, c0, rfl⟩, b⟩
        have hb2 := b.alloc b.size (o := .cells #[.string ⟨#[]⟩, .slice p0 0 c0] 24)
        have HB2 : Hid (Below w.heap.size w (w2.alloc (.cells #[.string ⟨#[]⟩, .slice p0 0 c0] 24))) := HB1.out.trans (hb2.mono HB1.out.size)
        have HX2 : Hid (Bx2 (w2.alloc (.cells #[.string ⟨#[]⟩, .slice p0 0 c0] 24)) w.heap.size (.string (Ba n)) (.slice p gs.length c) 24) := HX1.out.below hb2
        clear b hb2
        have HCk : Hid (Calls Tryz.prog 8 #[.string (Ba key), .string (Ba it), .int .i64 now] (w2.alloc (.cells #[.string ⟨#[]⟩, .slice p0 0 c0] 24)) fun e w' => ChkP (1, [], []) e w' ∧ Below (w2.alloc (.cells #[.string ⟨#[]⟩, .slice p0 0 c0] 24)).heap.size (w2.alloc (.cells #[.string ⟨#[]⟩, .slice p0 0 c0] 24)) w') := by
          have h := HC.out _ HB2.out
          rw [HChk.out] at h
          exact h
        go_wp2_with fail
        refine Calls.mono HCk.out ?_
        rintro e w3 ⟨⟨gv, rfl, hs⟩, b⟩
        obtain ⟨p1, c1, rfl, _⟩ := hs.form
        have HB3 : Hid (Below w.heap.size w (w3.alloc (.cells #[.string (Ba []), .slice p1 0 c1] 24))) := by
          have h := HB2.out.trans (b.mono HB2.out.size)
          exact h.alloc h.size _
        clear b hs
        go_wp2_with fail
        go_ret
        exact ⟨rfl, HB3.out⟩
      · have hpos : 1099511627776 < now := by omega
        go_enter Tryz.func4, Tryz.ntmps4
        have q0 := HX0.out.c0
        have q1 := HX0.out.c1
        go_wp2_with fail
        rw [← hw0]
        clear hw0
        refine Calls.mono HI.out ?_
        rintro e w1 ⟨rfl, b⟩
        have HB1 : Hid (Below w.heap.size w w1) := HB0.out.trans (b.mono HB0.out.size)
        have HX1 : Hid (Bx2 w1 w.heap.size (.string (Ba n)) (.slice p gs.length c) 24) := HX0.out.below b
        clear b q0 q1
        go_wp2_with fail
        refine Calls.mono (HC0.out _ HB1.out) ?_
        rintro e w2 ⟨⟨p0, c0, rfl⟩, b⟩
        have hb2 := b.alloc b.size (o := .cells #[.string ⟨#[]⟩, .slice p0 0 c0] 24)
        have HB2 : Hid (Below w.heap.size w (w2.alloc (.cells #[.string ⟨#[]⟩, .slice p0 0 c0] 24))) := HB1.out.trans (hb2.mono HB1.out.size)
        have HX2 : Hid (Bx2 (w2.alloc (.cells #[.string ⟨#[]⟩, .slice p0 0 c0] 24)) w.heap.size (.string (Ba n)) (.slice p gs.length c) 24) := HX1.out.below hb2
        clear b hb2
        have HCk : Hid (Calls Tryz.prog 8 #[.string (Ba key), .string (Ba it), .int .i64 now] (w2.alloc (.cells #[.string ⟨#[]⟩, .slice p0 0 c0] 24)) fun e w' => ChkP (1, [], []) e w' ∧ Below (w2.alloc (.cells #[.string ⟨#[]⟩, .slice p0 0 c0] 24)).heap.size (w2.alloc (.cells #[.string ⟨#[]⟩, .slice p0 0 c0] 24)) w') := by
          have h := HC.out _ HB2.out
          rw [HChk.out] at h
          exact h
        go_wp2_with fail
        refine Calls.mono HCk.out ?_
        rintro e w3 ⟨⟨gv, rfl, hs⟩, b⟩
        obtain ⟨p1, c1, rfl, _⟩ := hs.form
        have HB3 : Hid (Below w.heap.size w (w3.alloc (.cells #[.string (Ba []), .slice p1 0 c1] 24))) := by
          have h := HB2.out.trans (b.mono HB2.out.size)
          exact h.alloc h.size _
        clear b hs
        go_wp2_with fail
        go_ret
        exact ⟨rfl, HB3.out⟩
    | true =>
      obtain ⟨t0, t1⟩ := timeB_iff.1 htb
      have hn0 : ¬ now < 0 := by omega
      have hn1 : ¬ 1099511627776 < now := by omega
      by_cases hlate : u < now
      · have HChk : Hid (chkP key it now = (15, [], [])) := by show _ = _; rw [HBh.out, if_neg (by simp [htb]), if_pos hlate]
        clear HBh htb t0 t1
        go_enter Tryz.func4, Tryz.ntmps4
        have q0 := HX0.out.c0
        have q1 := HX0.out.c1
        go_wp2_with fail
        rw [← hw0]
        clear hw0
        refine Calls.mono HI.out ?_
        rintro e w1 ⟨rfl, b⟩
        have HB1 : Hid (Below w.heap.size w w1) := HB0.out.trans (b.mono HB0.out.size)
        have HX1 : Hid (Bx2 w1 w.heap.size (.string (Ba n)) (.slice p gs.length c) 24) := HX0.out.below b
        clear b q0 q1
        go_wp2_with fail
        refine Calls.mono (HC0.out _ HB1.out) ?_
        rintro e w2 ⟨⟨p0, c0, rfl⟩, b⟩
        have hb2 := b.alloc b.size (o := .cells #[.string ⟨#[]⟩, .slice p0 0 c0] 24)
        have HB2 : Hid (Below w.heap.size w (w2.alloc (.cells #[.string ⟨#[]⟩, .slice p0 0 c0] 24))) := HB1.out.trans (hb2.mono HB1.out.size)
        have HX2 : Hid (Bx2 (w2.alloc (.cells #[.string ⟨#[]⟩, .slice p0 0 c0] 24)) w.heap.size (.string (Ba n)) (.slice p gs.length c) 24) := HX1.out.below hb2
        clear b hb2
        have HCk : Hid (Calls Tryz.prog 8 #[.string (Ba key), .string (Ba it), .int .i64 now] (w2.alloc (.cells #[.string ⟨#[]⟩, .slice p0 0 c0] 24)) fun e w' => ChkP (15, [], []) e w' ∧ Below (w2.alloc (.cells #[.string ⟨#[]⟩, .slice p0 0 c0] 24)).heap.size (w2.alloc (.cells #[.string ⟨#[]⟩, .slice p0 0 c0] 24)) w') := by
          have h := HC.out _ HB2.out
          rw [HChk.out] at h
          exact h
        go_wp2_with fail
        refine Calls.mono HCk.out ?_
        rintro e w3 ⟨⟨gv, rfl, hs⟩, b⟩
        obtain ⟨p1, c1, rfl, _⟩ := hs.form
        have HB3 : Hid (Below w.heap.size w (w3.alloc (.cells #[.string (Ba []), .slice p1 0 c1] 24))) := by
          have h := HB2.out.trans (b.mono HB2.out.size)
          exact h.alloc h.size _
        clear b hs
        go_wp2_with fail
        go_ret
        exact ⟨rfl, HB3.out⟩
      · have HChk : Hid (chkP key it now = (0, n, gs)) := by show _ = _; rw [HBh.out, if_neg (by simp [htb]), if_neg hlate]
        clear HBh htb t0 t1
        go_enter Tryz.func4, Tryz.ntmps4
        have q0 := HX0.out.c0
        have q1 := HX0.out.c1
        go_wp2_with fail
        rw [← hw0]
        clear hw0
        refine Calls.mono HI.out ?_
        rintro e w1 ⟨rfl, b⟩
        have HB1 : Hid (Below w.heap.size w w1) := HB0.out.trans (b.mono HB0.out.size)
        have HX1 : Hid (Bx2 w1 w.heap.size (.string (Ba n)) (.slice p gs.length c) 24) := HX0.out.below b
        clear b q0 q1
        go_wp2_with fail
        refine Calls.mono (HC0.out _ HB1.out) ?_
        rintro e w2 ⟨⟨p0, c0, rfl⟩, b⟩
        have hb2 := b.alloc b.size (o := .cells #[.string ⟨#[]⟩, .slice p0 0 c0] 24)
        have HB2 : Hid (Below w.heap.size w (w2.alloc (.cells #[.string ⟨#[]⟩, .slice p0 0 c0] 24))) := HB1.out.trans (hb2.mono HB1.out.size)
        have HX2 : Hid (Bx2 (w2.alloc (.cells #[.string ⟨#[]⟩, .slice p0 0 c0] 24)) w.heap.size (.string (Ba n)) (.slice p gs.length c) 24) := HX1.out.below hb2
        clear b hb2
        have HCk : Hid (Calls Tryz.prog 8 #[.string (Ba key), .string (Ba it), .int .i64 now] (w2.alloc (.cells #[.string ⟨#[]⟩, .slice p0 0 c0] 24)) fun e w' => ChkP (0, n, gs) e w' ∧ Below (w2.alloc (.cells #[.string ⟨#[]⟩, .slice p0 0 c0] 24)).heap.size (w2.alloc (.cells #[.string ⟨#[]⟩, .slice p0 0 c0] 24)) w') := by
          have h := HC.out _ HB2.out
          rw [HChk.out] at h
          exact h
        go_wp2_with fail
        refine Calls.mono HCk.out ?_
        rintro e w3 ⟨⟨gv, rfl, hs⟩, b⟩
        obtain ⟨p1, c1, rfl, _⟩ := hs.form
        have hb3 := b.alloc b.size (o := .cells #[.string (Ba n), .slice p1 gs.length c1] 24)
        have HB3 : Hid (Below w.heap.size w (w3.alloc (.cells #[.string (Ba n), .slice p1 gs.length c1] 24))) := HB2.out.trans (hb3.mono HB2.out.size)
        have HX3 : Hid (Bx2 (w3.alloc (.cells #[.string (Ba n), .slice p1 gs.length c1] 24)) w.heap.size (.string (Ba n)) (.slice p gs.length c) 24) := HX2.out.below hb3
        have HSm : Hid (Calls Tryz.prog 10 #[.agg #[.string (Ba n), .slice p gs.length c], .agg #[.string (Ba n), .slice p1 gs.length c1]] (w3.alloc (.cells #[.string (Ba n), .slice p1 gs.length c1] 24)) fun e w' => e = .returned (.bool true) ∧ Below (w3.alloc (.cells #[.string (Ba n), .slice p1 gs.length c1] 24)).heap.size (w3.alloc (.cells #[.string (Ba n), .slice p1 gs.length c1] 24)) w') := by
          have h := sameUser_any n n _ _ gs gs _ (HS.out _ HB3.out) (hs.below ((Below.refl _ _).alloc (Nat.le_refl _) _))
          rw [show (decide (n = n) && (gs == gs)) = true by simp] at h
          exact h
        have x0 := HX3.out.c0
        have x1 := HX3.out.c1
        clear b hb3 hs HX2
        go_wp2_with fail
        refine Calls.mono HSm.out ?_
        rintro e w4 ⟨rfl, b⟩
        have HB4 : Hid (Below w.heap.size w w4) := HB3.out.trans (b.mono HB3.out.size)
        clear b
        go_wp2_with fail
        go_ret
        exact ⟨rfl, HB4.out⟩
  · have hib : (ie != 0) = true := by simp [hie]
    have he := HEr.out hie
    subst he
    clear HBk HEr hie
    go_enter Tryz.func4, Tryz.ntmps4
    have q0 := HX0.out.c0
    have q1 := HX0.out.c1
    go_wp2_with fail
    rw [← hw0]
    clear hw0
    refine Calls.mono HI.out ?_
    rintro e w1 ⟨rfl, b⟩
    have HB1 : Hid (Below w.heap.size w w1) := HB0.out.trans (b.mono HB0.out.size)
    have HX1 : Hid (Bx2 w1 w.heap.size (.string (Ba n)) (.slice p gs.length c) 24) := HX0.out.below b
    clear b q0 q1
    go_wp2_with fail
    refine Calls.mono (HC0.out _ HB1.out) ?_
    rintro e w2 ⟨⟨p0, c0, rfl⟩, b⟩
    have hb2 := b.alloc b.size (o := .cells #[.string ⟨#[]⟩, .slice p0 0 c0] 24)
    have HB2 : Hid (Below w.heap.size w (w2.alloc (.cells #[.string ⟨#[]⟩, .slice p0 0 c0] 24))) := HB1.out.trans (hb2.mono HB1.out.size)
    have HX2 : Hid (Bx2 (w2.alloc (.cells #[.string ⟨#[]⟩, .slice p0 0 c0] 24)) w.heap.size (.string (Ba n)) (.slice p gs.length c) 24) := HX1.out.below hb2
    clear b hb2
    go_wp2_with fail
    go_ret
    exact ⟨rfl, HB2.out⟩
end Go.Proofs.YtmbpjbghhimedaaGreatDoor
/- Walk over this translation: TokenOne: a token that is good is the one that is issued. -/
namespace Go.Proofs.YtmbpjbghhimedaaGreatDoor
open Go.RowKit
set_option linter.unusedVariables false
set_option linter.unusedSimpArgs false
theorem decP_lt (l : Bs) : ∀ (a : Nat), (∀ c ∈ l, isDig c) → decP a l < (a + 1) * 10 ^ l.length := by
  induction l with
  | nil =>
    intro a _
    show a < (a + 1) * 1
    omega
  | cons c r ih =>
    intro a h
    have hc := h c (by simp)
    have ih1 := ih (10 * a + (c.toNat - 48)) (fun x hx => h x (by simp [hx]))
    unfold isDig at hc
    show decP (10 * a + (c.toNat - 48)) r < (a + 1) * 10 ^ (r.length + 1)
    generalize hP : 10 ^ r.length = P at *
    rw [Nat.pow_succ, hP]
    have h2 : (10 * a + (c.toNat - 48) + 1) * P ≤ (10 * (a + 1)) * P := Nat.mul_le_mul_right _ (by omega)
    have h3 : (10 * (a + 1)) * P = (a + 1) * (P * 10) := by rw [Nat.mul_comm P 10, ← Nat.mul_assoc, Nat.mul_comm (a + 1) 10]
    exact Nat.lt_of_lt_of_le ih1 (Nat.le_trans h2 (Nat.le_of_eq h3))
theorem decP_small {l : Bs} (h : ∀ c ∈ l, isDig c) (hl : l.length ≤ 13) : decP 0 l < 10000000000000 := by
  have h1 := decP_lt l 0 h
  have h2 : 10 ^ l.length ≤ 10 ^ 13 := Nat.pow_le_pow_right (by decide) hl
  omega
theorem decP_snoc (l : Bs) (k : Nat) (h : k < l.length) : decP 0 (l.take (k + 1)) = 10 * decP 0 (l.take k) + (l[k].toNat - 48) := by
  rw [List.take_succ_eq_append_getElem h, decP_append]
  rfl
set_option maxRecDepth 100000 in
set_option maxHeartbeats 8000000 in
theorem one_walk (key t : Bs) (now : Int) (w : World) (hk : key.length ≤ maxLen) (ht : t.length < 4294967281) (hT : TkW w) :
    Calls Tryz.prog 5 #[.string (Ba key), .string (Ba t), .int .i64 now] w fun e w' => e = .returned (.bool true) ∧ Below w.heap.size w w' := by
  have HC : Hid (Calls Tryz.prog 8 #[.string (Ba key), .string (Ba t), .int .i64 now] w fun e w' => ChkP (chkP key t now) e w' ∧ Below w.heap.size w w') := tcheck_any key t now w hk ht hT
  have HC0 : Hid (∀ w1, Below w.heap.size w w1 → Calls Tryz.prog 8 #[.string ⟨#[]⟩, .string ⟨#[]⟩, .int .i64 0] w1 fun e w' => (∃ p c, e = .returned (.tuple #[.agg #[.string ⟨#[]⟩, .slice p 0 c], .int .i64 1])) ∧ Below w1.heap.size w1 w') := fun w1 hb => by
    have h := tcheck_any [] [] 0 w1 (by simp) (by simp) (hT.below hb)
    rw [chk_empty] at h
    refine h.mono ?_
    rintro e w' ⟨⟨gv, rfl, hs⟩, b⟩
    obtain ⟨p, c, rfl, _⟩ := hs.form
    exact ⟨⟨p, c, rfl⟩, b⟩
  have HTk : Hid (TkW w) := hT
  have HEr : Hid ((chkP key t now).1 ≠ 0 → (chkP key t now).2 = ([], [])) := chk_err
  have HOne : Hid (∀ n gs, chkP key t now = (0, n, gs) → userI n gs = 0 ∧ ∃ a b d u, parts 46 t = [a, b, Lib.decDigits u, d] ∧ u ≤ 1099511627776 ∧ issP key n gs u = (0, t) ∧ now ≤ (u : Int)) := fun n gs h => one_plain h
  clear hT
  generalize chkP key t now = ck at *
  obtain ⟨ce, n, gs⟩ := ck
  dsimp only at *
  by_cases hce : ce = 0
  · subst hce
    obtain ⟨hu0, a, pb, d, x, hp, hx, hiss, hnow⟩ := HOne.out n gs rfl
    have hib : ((0 : Int) != 0) = false := rfl
    have hcl := dec_len x hx
    have hdg := dec_digs x
    have hval := dec_val x
    have HU0 : Hid (userI n gs = 0) := hu0
    have HIs : Hid (issP key n gs (x : Int) = (0, t)) := hiss
    obtain ⟨un, ug, ux⟩ := user_ok hu0
    have HN20 : Hid (n.length ≤ 20 ∧ ∀ g ∈ gs, g.length ≤ 20) := ⟨(nm_clean un).2.1, fun g hg => (nm_clean (ux g hg)).2.1⟩
    have HP : Hid (parts 46 t = [a, pb, Lib.decDigits x, d]) := hp
    obtain ⟨c, hc⟩ : ∃ c, c = Lib.decDigits x := ⟨_, rfl⟩
    rw [← hc] at hcl hdg hval HP
    have HDg : Hid (∀ z ∈ c, isDig z) := hdg
    have HVal : Hid (decP 0 c = x) := hval
    clear HOne HEr hu0 hp hiss un ug ux hc hdg hval
    go_enter Tryz.func5, Tryz.ntmps5
    go_wp2_with fail
    refine Calls.mono HC.out ?_
    rintro e w1 ⟨⟨gv, rfl, hs⟩, b⟩
    obtain ⟨p1, c1, rfl, hgl⟩ := hs.form
    dsimp only at *
    have hb1 := b.alloc b.size (o := .cells #[.string (Ba n), .slice p1 gs.length c1] 24)
    have HB1 : Hid (Below w.heap.size w (w1.alloc (.cells #[.string (Ba n), .slice p1 gs.length c1] 24))) := hb1
    have HX1 : Hid (Bx2 (w1.alloc (.cells #[.string (Ba n), .slice p1 gs.length c1] 24)) w1.heap.size (.string (Ba n)) (.slice p1 gs.length c1) 24) := bx2_new _ _ _ _
    have HS1 : Hid (Strs (w1.alloc (.cells #[.string (Ba n), .slice p1 gs.length c1] 24)) (.slice p1 gs.length c1) gs) := hs.below ((Below.refl _ _).alloc (Nat.le_refl _) _)
    clear b hb1 hs
    go_wp2_with fail
    refine Calls.mono (HC0.out _ HB1.out) ?_
    rintro e w2 ⟨⟨p0, c0, rfl⟩, b⟩
    have hb2 := b.alloc b.size (o := .cells #[.string ⟨#[]⟩, .slice p0 0 c0] 24)
    have HB2 : Hid (Below w.heap.size w (w2.alloc (.cells #[.string ⟨#[]⟩, .slice p0 0 c0] 24))) := HB1.out.trans (hb2.mono HB1.out.size)
    have HX2 : Hid (Bx2 (w2.alloc (.cells #[.string ⟨#[]⟩, .slice p0 0 c0] 24)) w1.heap.size (.string (Ba n)) (.slice p1 gs.length c1) 24) := HX1.out.below hb2
    have HS2 : Hid (Strs (w2.alloc (.cells #[.string ⟨#[]⟩, .slice p0 0 c0] 24)) (.slice p1 gs.length c1) gs) := HS1.out.below hb2
    have x0 := HX2.out.c0
    have x1 := HX2.out.c1
    clear b hb2 HX1 HS1 HB1
    obtain ⟨W, hW⟩ : ∃ W, W = w2.alloc (.cells #[.string ⟨#[]⟩, .slice p0 0 c0] 24) := ⟨_, rfl⟩
    rw [← hW] at HB2 HX2 HS2 x0 x1
    have HSp : Hid (Calls Tryz.prog 13 #[.string (Ba t), .string ⟨#[46]⟩] W fun e w' => e = .returned (.slice (some ⟨W.heap.size, 0, none⟩) 4 4) ∧ w'.heap[W.heap.size]? = some (.cells #[.string (Ba a), .string (Ba pb), .string (Ba c), .string (Ba d)] 9 (0, 0)) ∧ Below W.heap.size W w') := by
      obtain ⟨_, m, hm⟩ := (HTk.out.below HB2.out).room
      have h := Tryz.strings_Split (Ba t) ⟨#[46]⟩ m W (by rw [ba_size]; exact ht) hm (by decide)
      have hcn : Lib.countB (Ba t) ⟨#[46]⟩ + 1 = 4 := by
        have := parts_len 46 t
        rw [HP.out] at this
        rw [countB_list]
        exact this.symm
      rw [split_all, HP.out, hcn] at h
      refine h.mono ?_
      rintro e w' ⟨rfl, rfl⟩
      exact ⟨rfl, heap_alloc_new W _, (Below.refl _ _).alloc (Nat.le_refl _) _⟩
    go_wp2_with fail
    rw [← hW]
    clear hW
    refine Calls.mono HSp.out ?_
    rintro e V ⟨rfl, hrow, hb3⟩
    have HB3 : Hid (Below w.heap.size w V) := HB2.out.trans (hb3.mono HB2.out.size)
    have HX3 : Hid (Bx2 V w1.heap.size (.string (Ba n)) (.slice p1 gs.length c1) 24) := HX2.out.below hb3
    have HS3 : Hid (Strs V (.slice p1 gs.length c1) gs) := HS2.out.below hb3
    have HR3 : Hid (_) := hrow
    have HU : Hid (Calls Tryz.prog 11 #[.agg #[.string (Ba n), .slice p1 gs.length c1]] V fun e w' => e = .returned (.int .i64 0) ∧ Below V.heap.size V w') := by
      have h := user_any n _ gs V (by have := HN20.out.1; unfold maxLen; omega) HS3.out (fun g hg => by have := HN20.out.2 g hg; unfold maxLen; omega)
      rw [HU0.out] at h
      exact h
    have z0 := HX3.out.c0
    have z1 := HX3.out.c1
    clear x0 x1 hb3 hrow HX2 HS2 HSp
    go_wp2_with fail
    refine Calls.mono HU.out ?_
    rintro e V2 ⟨rfl, b⟩
    have HB4 : Hid (Below w.heap.size w V2) := HB3.out.trans (b.mono HB3.out.size)
    have HX4 : Hid (Bx2 V2 w1.heap.size (.string (Ba n)) (.slice p1 gs.length c1) 24) := HX3.out.below b
    have HS4 : Hid (Strs V2 (.slice p1 gs.length c1) gs) := HS3.out.below b
    have hr4 : V2.heap[W.heap.size]? = some (.cells #[.string (Ba a), .string (Ba pb), .string (Ba c), .string (Ba d)] 9 (0, 0)) := (b.block _ (lt_of_block HR3.out)).trans HR3.out
    have cc := cell_at (k := 2) (v := .string (Ba c)) hr4 rfl
    have hcs : (Ba c).size = c.length := ba_size c
    have hmin : min (c.length : Int) 13 = (c.length : Int) := by omega
    have HCl : Hid (c.length ≤ 13) := hcl
    have HIss : Hid (Calls Tryz.prog 6 #[.string (Ba key), .agg #[.string (Ba n), .slice p1 gs.length c1], .int .i64 (x : Int)] V2 fun e w' => e = .returned (.tuple #[.string (Ba t), .int .i64 0]) ∧ Below V2.heap.size V2 w') := by
      have h := issue_any key n _ gs (x : Int) V2 hk (by have := HN20.out.1; unfold maxLen; omega) HS4.out (fun g hg => by have := HN20.out.2 g hg; unfold maxLen; omega) (HTk.out.below HB4.out)
      rw [HIs.out] at h
      exact h
    clear b hr4 z0 z1 HX3 HS3 HR3 HB3 HU HB2
    go_wp2_with fail
    go_loopw [12, 49] (fun uv iv wr => ∃ k : Nat, k ≤ c.length ∧ iv = .int .i64 k ∧ uv = .int .i64 (decP 0 (c.take k) : Nat) ∧ wr = V2) (fun _ iv _ => c.length - (intOf iv).toNat)
    case atStart => exact ⟨0, Nat.zero_le _, rfl, rfl, rfl⟩
    case round =>
      obtain ⟨k, hk2, rfl, rfl, rfl⟩ := hrel
      by_cases hlt : k < c.length
      · have hkI : (k : Int) < (c.length : Int) := by omega
        have hgt : (Ba c)[k]'(by rw [ba_size]; exact hlt) = c[k] := ba_get c k hlt
        have hdc := HDg.out c[k] (List.getElem_mem hlt)
        unfold isDig at hdc
        have hsn := decP_snoc c k hlt
        have hlow := decP_small (l := c.take k) (fun z hz => HDg.out z (List.mem_of_mem_take hz)) (by rw [List.length_take]; have := HCl.out; omega)
        have hchr := c[k].toNat_lt
        have HSn : Hid (_) := hsn
        clear hsn
        generalize hde : decP 0 (c.take (k + 1)) = d2 at *
        generalize decP 0 (c.take k) = d1 at *
        generalize c[k] = ch at *
        have hw8 : IntKind.u8.wrap ((ch.toNat : Int) - 48) = ((ch.toNat - 48 : Nat) : Int) := by rw [IntKind.wrap_u8']; omega
        have hw8' : ((ch.toNat : Int) - 48) % 256 = ((ch.toNat - 48 : Nat) : Int) := by omega
        have hsum : 10 * (d1 : Int) + ((ch.toNat - 48 : Nat) : Int) = (d2 : Int) := by rw [HSn.out]; omega
        have hd2 : d2 < 1000000000000000 := by rw [HSn.out]; omega
        generalize ch.toNat - 48 = e1 at *
        go_wp2_with fail
        go_roundw
        case rel => exact ⟨k + 1, by omega, by go_num, by rw [hde], by trivial⟩
        case measure => simp [intOf]; omega
      · have hke : k = c.length := by omega
        have hv : decP 0 (c.take k) = x := by rw [hke, List.take_of_length_le (Nat.le_refl _)]; exact HVal.out
        rw [hv]
        have hkI : ¬ ((k : Int) < (c.length : Int)) := by omega
        have z0 := HX4.out.c0
        have z1 := HX4.out.c1
        clear hke hv
        generalize Ba t = yt at *
        generalize Ba key = yk at *
        go_wp2_with fail
        refine Calls.mono HIss.out ?_
        rintro e w4 ⟨rfl, b⟩
        have HB5 : Hid (Below w.heap.size w w4) := HB4.out.trans (b.mono HB4.out.size)
        clear b
        go_wp2_with fail
        go_ret
        exact ⟨rfl, HB5.out⟩
  · have hib : (ce != 0) = true := by simp [hce]
    have he := HEr.out hce
    injection he with he1 he2
    subst he1 he2
    clear HEr HOne hce
    go_enter Tryz.func5, Tryz.ntmps5
    go_wp2_with fail
    refine Calls.mono HC.out ?_
    rintro e w1 ⟨⟨gv, rfl, hs⟩, b⟩
    obtain ⟨p1, c1, rfl, hgl⟩ := hs.form
    dsimp only at *
    have hb1 := b.alloc b.size (o := .cells #[.string (Ba []), .slice p1 0 c1] 24)
    have HB1 : Hid (Below w.heap.size w (w1.alloc (.cells #[.string (Ba []), .slice p1 0 c1] 24))) := hb1
    have HX1 : Hid (Bx2 (w1.alloc (.cells #[.string (Ba []), .slice p1 0 c1] 24)) w1.heap.size (.string (Ba [])) (.slice p1 0 c1) 24) := bx2_new _ _ _ _
    have HS1 : Hid (Strs (w1.alloc (.cells #[.string (Ba []), .slice p1 0 c1] 24)) (.slice p1 0 c1) []) := hs.below ((Below.refl _ _).alloc (Nat.le_refl _) _)
    clear b hb1 hs
    go_wp2_with fail
    refine Calls.mono (HC0.out _ HB1.out) ?_
    rintro e w2 ⟨⟨p0, c0, rfl⟩, b⟩
    have hb2 := b.alloc b.size (o := .cells #[.string ⟨#[]⟩, .slice p0 0 c0] 24)
    have HB2 : Hid (Below w.heap.size w (w2.alloc (.cells #[.string ⟨#[]⟩, .slice p0 0 c0] 24))) := HB1.out.trans (hb2.mono HB1.out.size)
    have HX2 : Hid (Bx2 (w2.alloc (.cells #[.string ⟨#[]⟩, .slice p0 0 c0] 24)) w1.heap.size (.string (Ba [])) (.slice p1 0 c1) 24) := HX1.out.below hb2
    have HS2 : Hid (Strs (w2.alloc (.cells #[.string ⟨#[]⟩, .slice p0 0 c0] 24)) (.slice p1 0 c1) []) := HS1.out.below hb2
    have x0 := HX2.out.c0
    have x1 := HX2.out.c1
    clear b hb2 HX1 HS1 HB1
    have HSm : Hid (Calls Tryz.prog 10 #[.agg #[.string (Ba []), .slice p1 0 c1], .agg #[.string ⟨#[]⟩, .slice none 0 0]] (w2.alloc (.cells #[.string ⟨#[]⟩, .slice p0 0 c0] 24)) fun e w' => e = .returned (.bool true) ∧ Below (w2.alloc (.cells #[.string ⟨#[]⟩, .slice p0 0 c0] 24)).heap.size (w2.alloc (.cells #[.string ⟨#[]⟩, .slice p0 0 c0] 24)) w') := by
      exact sameUser_any [] [] _ _ [] [] _ HS2.out (Or.inl ⟨rfl, _, _, rfl⟩)
    go_wp2_with fail
    refine Calls.mono HSm.out ?_
    rintro e w3 ⟨rfl, b⟩
    have HB3 : Hid (Below w.heap.size w w3) := HB2.out.trans (b.mono HB2.out.size)
    clear b
    go_wp2_with fail
    go_ret
    exact ⟨rfl, HB3.out⟩
end Go.Proofs.YtmbpjbghhimedaaGreatDoor
