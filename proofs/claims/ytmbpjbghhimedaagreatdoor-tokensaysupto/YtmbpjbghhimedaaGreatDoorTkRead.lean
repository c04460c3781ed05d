/- Contracts over this translation: strconv.Atoi; token.read. -/
import Derived.Test.YtmbpjbghhimedaaGreatDoorTkApart
import Derived.Lib.AtoiErrMem
namespace Go.Proofs.YtmbpjbghhimedaaGreatDoor
open Go.RowKit
set_option linter.unusedVariables false
set_option linter.unusedSimpArgs false
theorem atoi_ok (c : Bs) (v : Int) (w : World) (hc : c.length ≤ 281474976710656) (h : Lib.atoiAll c = .ok v) :
    Calls Tryz.prog 48 #[.string (Ba c)] w fun e w' => e = .returned (.tuple #[.int .i64 v, .nilIface]) ∧ Below w.heap.size w w' := by
  refine (Tryz.strconv_Atoi_ok (Ba c) (by rw [ba_size]; omega) v (by rw [ba_data]; exact h) w).mono ?_
  rintro e w' ⟨rfl, h | ⟨t, h⟩⟩
  · rw [h]
    exact ⟨rfl, Below.refl _ _⟩
  · rw [h]
    exact ⟨rfl, Lib.bytesWorld_below _ _ _⟩
theorem atoi_err (c : Bs) (w : World) (hc : c.length ≤ 281474976710656) (hT : TkW w) (h : ∀ v, Lib.atoiAll c ≠ .ok v) :
    Calls Tryz.prog 48 #[.string (Ba c)] w fun e w' => (∃ n t p, e = .returned (.tuple #[.int .i64 n, .iface t p])) ∧ Below w.heap.size w w' := by
  obtain ⟨_, ev1, h1, k1⟩ := hT.syn
  obtain ⟨_, ev2, h2, k2⟩ := hT.rng
  cases hx : Lib.atoiAll c with
  | ok v => exact absurd hx (h v)
  | «syntax» =>
    refine (Tryz.strconv_Atoi_syntax (Ba c) (by rw [ba_size]; exact hc) (by rw [ba_data]; exact hx) ev1 w h1 k1).mono ?_
    rintro e w' ⟨N, rfl, _, _, b⟩
    exact ⟨⟨_, _, _, rfl⟩, b⟩
  | range =>
    refine (Tryz.strconv_Atoi_range (Ba c) (by rw [ba_size]; exact hc) (by rw [ba_data]; exact hx) ev2 w h2 k2).mono ?_
    rintro e w' ⟨N, rfl, _, _, b⟩
    exact ⟨⟨_, _, _, rfl⟩, b⟩
theorem time_ok {c : Bs} {v : Int} (h : Lib.atoiAll c = .ok v) (h0 : timeB v = true) (hc : Lib.decDigits v.toNat = c) : timeP c = some v.toNat := by
  have ht := timeB_iff.1 h0
  unfold timeP
  rw [h]
  simp only []
  rw [if_pos]
  refine ⟨ht.1, ht.2, ?_⟩
  have := itoa_nat v.toNat
  rw [show ((v.toNat : Nat) : Int) = v by omega] at this
  rw [this, hc]
theorem time_bad {c : Bs} {v : Int} (h : Lib.atoiAll c = .ok v) (h0 : timeB v = false ∨ (timeB v = true ∧ Lib.decDigits v.toNat ≠ c)) : timeP c = none := by
  unfold timeP
  rw [h]
  simp only []
  rw [if_neg]
  rintro ⟨a, b, e⟩
  have ht : timeB v = true := timeB_iff.2 ⟨a, b⟩
  rcases h0 with h0 | ⟨_, h0⟩
  · rw [ht] at h0
    cases h0
  · have := itoa_nat v.toNat
    rw [show ((v.toNat : Nat) : Int) = v by omega] at this
    exact h0 (by rw [← this, e])
theorem time_err {c : Bs} (h : ∀ v, Lib.atoiAll c ≠ .ok v) : timeP c = none := by
  unfold timeP
  split
  · rename_i v hv
    exact absurd hv (h v)
  · rfl
theorem tell_eq {a b c : Bs} {u : Nat} : tellP a (grpsOf b) u = a ++ [46] ++ b ++ [46] ++ c ++ [46] ↔ Lib.decDigits u = c := by
  unfold tellP
  rw [grps_join]
  constructor
  · intro h
    exact List.append_cancel_left (List.append_cancel_right h)
  · intro h
    rw [h]
theorem ba_inj {a b : Bs} (h : Ba a = Ba b) : a = b := by
  have := congrArg (fun x : ByteArray => x.data.toList) h
  simpa [Ba] using this
/-- a user's value -/
def ReadP (B : Nat) (said : Bs) (e : Ending) (w' : World) : Prop :=
  (readP said = none ∧ ∃ n, e = .returned (.tuple #[.agg #[.string ⟨#[]⟩, .slice none 0 0], .int .i64 n, .bool false])) ∨
  ∃ n gs u g cap, readP said = some (n, gs, u) ∧ e = .returned (.tuple #[.agg #[.string (Ba n), .slice (some ⟨g, 0, none⟩) gs.length cap], .int .i64 (u : Nat), .bool true]) ∧ OwnN B w' (.slice (some ⟨g, 0, none⟩) gs.length cap) gs
/-- while a token is read: the row of its parts, the box of the answer, the groups -/
structure RdS (w : World) (B : Nat) (row : Array Value) (x gv : Value) (gl : List Bs) (W : World) : Prop where
  below : Below w.heap.size w W
  row : W.heap[w.heap.size + 1]? = some (.cells row 9 (0, 0))
  box : Bx2 W w.heap.size x gv 24
  own : OwnN B W gv gl
  lt : w.heap.size < B
theorem RdS.step {w : World} {B : Nat} {row : Array Value} {x gv : Value} {gl : List Bs} {W W' : World} (h : RdS w B row x gv gl W) (b : Below W.heap.size W W') : RdS w B row x gv gl W' :=
  ⟨h.below.trans (b.mono h.below.size), (b.block _ (lt_of_block h.row)).trans h.row, h.box.below b, h.own.below b, h.lt⟩
theorem RdS.end {w : World} {B : Nat} {row : Array Value} {x gv : Value} {gl : List Bs} {W : World} (h : RdS w B row x gv gl W) (u v : Value) : Bx2 (put2 W w.heap.size u v) w.heap.size u v 24 ∧ Below w.heap.size w (put2 W w.heap.size u v) :=
  ⟨put2_box h.box u v, put2_below h.below (Nat.le_refl _) u v⟩
set_option maxRecDepth 100000 in
set_option maxHeartbeats 8000000 in
theorem read_any (said a b c : Bs) (w : World) (hp : parts 46 said = [a, b, c, []]) (hl : said.length < 4294967281) (hT : TkW w) :
    Calls Tryz.prog 24 #[.string (Ba said)] w fun e w' => ReadP w.heap.size said e w' ∧ Below w.heap.size w w' := by
  have hsaid := four_said hp
  rw [List.append_nil] at hsaid
  have hall : a.length + b.length + c.length + 3 = said.length := by rw [hsaid]; simp; omega
  obtain ⟨h0r, m, hm⟩ := hT.room
  have HRd : Hid (readP said = if userI a (grpsOf b) = 0 then (timeP c).map fun u => (a, grpsOf b, u) else none) := read_parts hp
  have hgu := gl_user a b
  have hgl := gl_len b
  -- the worlds: the box of the answer, the row of the parts
  obtain ⟨w0, hw0⟩ : ∃ w0, w0 = w.alloc (.cells #[.string ⟨#[]⟩, .slice none 0 0] 24) := ⟨_, rfl⟩
  have hB0 : Below w.heap.size w w0 := by rw [hw0]; exact (Below.refl _ _).alloc (Nat.le_refl _) _
  have hs0 : w0.heap.size = w.heap.size + 1 := by rw [hw0]; simp
  obtain ⟨wP, hwP⟩ : ∃ wP, wP = w0.alloc (.cells #[.string (Ba a), .string (Ba b), .string (Ba c), .string (Ba [])] 9) := ⟨_, rfl⟩
  have hBP : Below w0.heap.size w0 wP := by rw [hwP]; exact (Below.refl _ _).alloc (Nat.le_refl _) _
  have HSp : Hid (Calls Tryz.prog 13 #[.string (Ba said), .string ⟨#[46]⟩] w0 fun e w' => e = .returned (.slice (some ⟨w.heap.size + 1, 0, none⟩) 4 4) ∧ w' = wP) := by
    have hm0 : w0.cell? ⟨0, 0, none⟩ = some (.int .i64 m) := by rw [hB0.cell (p := ⟨0, 0, none⟩) h0r]; exact hm
    have h := Tryz.strings_Split (Ba said) ⟨#[46]⟩ m w0 (by rw [ba_size]; exact hl) hm0 (by decide)
    have hcn : Lib.countB (Ba said) ⟨#[46]⟩ + 1 = 4 := by
      have := parts_len 46 said
      rw [hp] at this
      rw [countB_list]
      exact this.symm
    rw [split_all, hp, hcn, hs0] at h
    refine h.mono ?_
    rintro e w' ⟨rfl, rfl⟩
    exact ⟨rfl, by rw [hwP]; rfl⟩
  have hBW : Below w.heap.size w wP := hB0.trans (hBP.mono hB0.size)
  have HBW : Hid (Below w.heap.size w wP) := hBW
  have HRow : Hid (∀ w1, Below wP.heap.size wP w1 → w1.cell? ⟨w.heap.size + 1, 0, none⟩ = some (.string (Ba a)) ∧ w1.cell? ⟨w.heap.size + 1, 1, none⟩ = some (.string (Ba b)) ∧ w1.cell? ⟨w.heap.size + 1, 2, none⟩ = some (.string (Ba c))) := fun w1 hb => by
    have hbl : wP.heap[w.heap.size + 1]? = some (.cells #[.string (Ba a), .string (Ba b), .string (Ba c), .string (Ba [])] 9 (0, 0)) := by
      rw [hwP, ← hs0]
      exact heap_alloc_new w0 _
    have h1 : w1.heap[w.heap.size + 1]? = some (.cells #[.string (Ba a), .string (Ba b), .string (Ba c), .string (Ba [])] 9 (0, 0)) := by
      rw [hb.block _ (lt_of_block hbl)]
      exact hbl
    exact ⟨cell_at h1 rfl, cell_at h1 rfl, cell_at h1 rfl⟩
  have hbx0 : Bx2 wP w.heap.size (.string ⟨#[]⟩) (.slice none 0 0) 24 := by
    have h : Bx2 w0 w.heap.size (.string ⟨#[]⟩) (.slice none 0 0) 24 := by rw [hw0]; exact bx2_new _ _ _ _
    exact h.below hBP
  have HBx : Hid (∀ w1, Below wP.heap.size wP w1 → Bx2 w1 w.heap.size (.string ⟨#[]⟩) (.slice none 0 0) 24) := fun w1 hb => hbx0.below hb
  have HGr : Hid (∀ w1, Below wP.heap.size wP w1 → Calls Tryz.prog 47 #[.string (Ba b)] w1 fun e w' => ∃ p q, e = .returned (.slice p (glP b).length q) ∧ OwnN wP.heap.size w' (.slice p (glP b).length q) (glP b) ∧ Below wP.heap.size wP w') := fun w1 hb => by
    have b1 := hBW.trans (hb.mono hBW.size)
    refine (groupsOf_any b w1 (by omega) (hT.below b1)).mono ?_
    rintro e w' ⟨p, q, rfl, s, bb⟩
    exact ⟨p, q, rfl, s.low hb.size, hb.trans (bb.mono hb.size)⟩
  have HRB : Hid (∀ w1, Below wP.heap.size wP w1 → w1.heap[w.heap.size + 1]? = some (.cells #[.string (Ba a), .string (Ba b), .string (Ba c), .string (Ba [])] 9 (0, 0))) := fun w1 hb => by
    have hbl : wP.heap[w.heap.size + 1]? = some (.cells #[.string (Ba a), .string (Ba b), .string (Ba c), .string (Ba [])] 9 (0, 0)) := by
      rw [hwP, ← hs0]
      exact heap_alloc_new w0 _
    rw [hb.block _ (lt_of_block hbl)]
    exact hbl
  have HTk : Hid (TkW w) := hT
  have HSd : Hid (said = a ++ [46] ++ b ++ [46] ++ c ++ [46]) := hsaid
  clear hm h0r hB0 hBP hBW hbx0 hsaid hT hp
  go_enter Tryz.func24, Tryz.ntmps24
  go_wp2_with fail
  rw [← hw0]
  clear hw0
  refine Calls.mono HSp.out ?_
  rintro e w1 ⟨rfl, rfl⟩
  go_wp2_with fail
  rw [← hwP]
  clear hwP HSp hs0
  have hS0 : Below w1.heap.size w1 w1.drew := (Below.refl _ _).drew
  go_region_held3 (fun w' => w'.cell? ⟨w.heap.size + 1, 0, none⟩ = some (.string (Ba a)) ∧ w'.cell? ⟨w.heap.size + 1, 1, none⟩ = some (.string (Ba b))) (first | assumption | exact And.intro (HRow.out _ (by assumption)).1 (HRow.out _ (by assumption)).2.1 | go_keep)
    (first
      | (go_at_call 47; refine Calls.mono (HGr.out _ (by assumption)) ?_; rintro e w11 ⟨p, q, rfl, hS1, hS2⟩; have hz0 := (HBx.out _ hS2).c0; have hz1 := (HBx.out _ hS2).c1; have hz2 := (HBx.out _ hS2).free 0; have hz3 := (HBx.out _ hS2).free 1))
  all_goals
    have hst : RdS w w1.heap.size #[.string (Ba a), .string (Ba b), .string (Ba c), .string (Ba [])] (.string (Ba a)) (.slice p (glP b).length q) (glP b) (put2 w11 w.heap.size (.string (Ba a)) (.slice p (glP b).length q)) := by
      have hB11 := HBW.out.trans (hS2.mono HBW.out.size)
      have hlt : w.heap.size < w1.heap.size := (HBx.out _ (Below.refl _ _)).lt
      refine ⟨put2_below hB11 (Nat.le_refl _) _ _, ?_, put2_box (HBx.out _ hS2) _ _, World.ownsRow.kept hS1 (put2_grown _ _ _ _) (own_block hS1 hlt), hlt⟩
      rw [(put2_grown w11 w.heap.size _ _).block _ (lt_of_block (HRB.out _ hS2)) (fun e => by injection e with e; omega)]
      exact HRB.out _ hS2
    change Exit.then _ _ _ _ (put2 w11 w.heap.size (.string (Ba a)) (.slice p (glP b).length q))
    generalize put2 w11 w.heap.size (.string (Ba a)) (.slice p (glP b).length q) = W at *
    have HW : Hid (RdS w w1.heap.size #[.string (Ba a), .string (Ba b), .string (Ba c), .string (Ba [])] (.string (Ba a)) (.slice p (glP b).length q) (glP b) W) := hst
    clear hst hS1 hS2 hz0 hz1 hz2 hz3 HGr HBx HRow HRB hS0 HBW
    have HU : Hid (Calls Tryz.prog 11 #[.agg #[.string (Ba a), .slice p (glP b).length q]] W fun e w' => e = .returned (.int .i64 (userI a (glP b))) ∧ Below W.heap.size W w') :=
      user_any a _ (glP b) W (by unfold maxLen; omega) HW.out.own.strs (fun x hx => by have := hgl x hx; unfold maxLen; omega)
    have c0 := HW.out.box.c0
    have c1 := HW.out.box.c1
    generalize hgn : glP b = gl at *
    go_wp2_with fail
    refine Calls.mono HU.out ?_
    rintro e w2 ⟨rfl, b2⟩
    have HW2 : Hid (RdS w w1.heap.size #[.string (Ba a), .string (Ba b), .string (Ba c), .string (Ba [])] (.string (Ba a)) (.slice p gl.length q) gl w2) := HW.out.step b2
    clear b2 HW HU c0 c1
    by_cases hu : userI a gl = 0
    · have hu1 : (userI a gl != 0) = false := by simp [hu]
      have HG : Hid (gl = grpsOf b) := hgu.1 hu
      have HU0 : Hid (userI a gl = 0) := hu
      have HRd2 : Hid (readP said = (timeP c).map fun u => (a, gl, u)) := by show _ = _; rw [HRd.out, ← HG.out, if_pos HU0.out]
      obtain ⟨ua, ug, ux⟩ := user_ok hu
      have HA20 : Hid (a.length ≤ 20) := (nm_clean ua).2.1
      have HG20 : Hid (∀ g ∈ gl, g.length ≤ 20) := fun g hg => (nm_clean (ux g hg)).2.1
      have HG6 : Hid (gl.length ≤ 6) := ug
      have cc := cell_at (k := 2) (v := .string (Ba c)) HW2.out.row rfl
      clear hgu hgl hgn HRd ua ug ux hu
      generalize hui : userI a gl = ui at *
      have HUI : Hid (userI a gl = ui) := hui
      clear hui
      by_cases hok : ∃ v, Lib.atoiAll c = .ok v
      · obtain ⟨v, hv⟩ := hok
        have HAt : Hid (∀ w, Calls Tryz.prog 48 #[.string (Ba c)] w fun e w' => e = .returned (.tuple #[.int .i64 v, .nilIface]) ∧ Below w.heap.size w w') := fun w => atoi_ok c v w (by omega) hv
        have HTi : Hid (∀ w, Calls Tryz.prog 15 #[.int .i64 v] w fun e w' => e = .returned (.bool (timeB v)) ∧ w' = w) := fun w => isTime_any v w
        go_wp2_with fail
        refine Calls.mono (HAt.out _) ?_
        rintro e w3 ⟨rfl, b3⟩
        have HW3 : Hid (RdS w w1.heap.size #[.string (Ba a), .string (Ba b), .string (Ba c), .string (Ba [])] (.string (Ba a)) (.slice p gl.length q) gl w3) := HW2.out.step b3
        clear b3 HW2 cc
        cases htb : timeB v with
        | false =>
          have HNo : Hid (readP said = none) := by show _ = _; rw [HRd2.out, time_bad hv (Or.inl htb)]; rfl
          rw [htb] at HTi
          go_wp2_with fail
          refine Calls.mono (HTi.out _) ?_
          rintro e w4 ⟨rfl, rfl⟩
          have c0 := HW3.out.box.c0
          have c1 := HW3.out.box.c1
          have f0 := HW3.out.box.free 0
          have f1 := HW3.out.box.free 1
          go_wp2_with fail
          change bodyPost _ _ _ _ _ (put2 w4 w.heap.size (.string ⟨#[]⟩) (.slice none 0 0))
          obtain ⟨e6, b6⟩ := HW3.out.end (.string ⟨#[]⟩) (.slice none 0 0)
          generalize put2 w4 w.heap.size (.string ⟨#[]⟩) (.slice none 0 0) = W6 at *
          exact bodyPost_ret (v := .tuple #[.agg #[.string ⟨#[]⟩, .slice none 0 0], .int .i64 0, .bool false]) (by simp [results, Tryz.results24, go_sem, e6.c0, e6.c1]) rfl ⟨Or.inl ⟨HNo.out, _, rfl⟩, b6⟩
        | true =>
          have htv := timeB_iff.1 htb
          rw [htb] at HTi
          obtain ⟨u, hu⟩ : ∃ u : Nat, (u : Int) = v := ⟨v.toNat, by omega⟩
          have hun : v.toNat = u := by omega
          have HTl : Hid (Calls Tryz.prog 16 #[.agg #[.string (Ba a), .slice p gl.length q], .int .i64 v] w3 fun e w' => e = .returned (.string (Ba (tellP a gl u))) ∧ Below w3.heap.size w3 w') := by
            have h := tell_any a _ gl u w3 (by omega) HW3.out.own.strs (by rw [HUI.out]; exact HU0.out) (HTk.out.below HW3.out.below)
            rw [hu] at h
            exact h
          have hbq := ba_beq (tellP a gl u) said
          by_cases hte : Lib.decDigits u = c
          · have HYes : Hid (readP said = some (a, gl, u)) := by
              show _ = _
              rw [HRd2.out, time_ok hv htb (by rw [hun]; exact hte), hun]
              rfl
            have hse : tellP a gl u = said := by
              rw [HG.out, HSd.out]
              exact tell_eq.2 hte
            rw [decide_eq_true hse] at hbq
            have HOw : Hid (∀ w9, Below w3.heap.size w3 w9 → Calls Tryz.prog 49 #[.agg #[.string (Ba a), .slice p gl.length q]] w9 fun e w' => ∃ g cap, e = .returned (.agg #[.string (Ba a), .slice (some ⟨g, 0, none⟩) gl.length cap]) ∧ OwnN w9.heap.size w' (.slice (some ⟨g, 0, none⟩) gl.length cap) gl ∧ Below w9.heap.size w9 w') := fun w9 hb =>
              own_any a _ gl w9 HA20.out ((HW3.out.step hb).own.strs) HG6.out HG20.out
            have HU2 : Hid ((u : Int) = v) := hu
            clear hse hte hv htb htv hun hu
            generalize Ba (tellP a gl u) = yt at *
            generalize Ba said = ys at *
            have c0 := HW3.out.box.c0
            have c1 := HW3.out.box.c1
            have f0 := HW3.out.box.free 0
            have f1 := HW3.out.box.free 1
            go_wp2_with fail
            refine Calls.mono (HTi.out _) ?_
            rintro e w4 ⟨rfl, rfl⟩
            go_wp2_with fail
            refine Calls.mono HTl.out ?_
            rintro e w5 ⟨rfl, b5⟩
            have HB5 : Hid (Below w4.heap.size w4 w5) := b5
            have HW5 : Hid (RdS w w1.heap.size #[.string (Ba a), .string (Ba b), .string (Ba c), .string (Ba [])] (.string (Ba a)) (.slice p gl.length q) gl w5) := HW3.out.step b5
            clear b5 c0 c1 f0 f1 HTl
            have c0 := HW5.out.box.c0
            have c1 := HW5.out.box.c1
            have f0 := HW5.out.box.free 0
            have f1 := HW5.out.box.free 1
            go_wp2_with fail
            refine Calls.mono (HOw.out _ HB5.out) ?_
            rintro e w6 ⟨g6, cap6, rfl, own6, b6⟩
            have HW6 : Hid (RdS w w1.heap.size #[.string (Ba a), .string (Ba b), .string (Ba c), .string (Ba [])] (.string (Ba a)) (.slice p gl.length q) gl w6) := HW5.out.step b6
            have HO6 : Hid (OwnN w5.heap.size w6 (.slice (some ⟨g6, 0, none⟩) gl.length cap6) gl) := own6
            have HL6 : Hid (w.heap.size < w5.heap.size) := HW5.out.box.lt
            clear b6 own6 c0 c1 f0 f1 HW3 HW5 HB5 HOw
            have c0 := HW6.out.box.c0
            have c1 := HW6.out.box.c1
            have f0 := HW6.out.box.free 0
            have f1 := HW6.out.box.free 1
            go_wp2_with fail
            change bodyPost _ _ _ _ _ (put2 w6 w.heap.size (.string (Ba a)) (.slice (some ⟨g6, 0, none⟩) gl.length cap6))
            obtain ⟨e6, b6⟩ := HW6.out.end (.string (Ba a)) (.slice (some ⟨g6, 0, none⟩) gl.length cap6)
            have s6 : OwnN w.heap.size (put2 w6 w.heap.size (.string (Ba a)) (.slice (some ⟨g6, 0, none⟩) gl.length cap6)) (.slice (some ⟨g6, 0, none⟩) gl.length cap6) gl :=
              OwnN.low (World.ownsRow.kept HO6.out (put2_grown _ _ _ _) (own_block HO6.out HL6.out)) (Nat.le_of_lt HL6.out)
            generalize put2 w6 w.heap.size (.string (Ba a)) (.slice (some ⟨g6, 0, none⟩) gl.length cap6) = W6 at *
            exact bodyPost_ret (v := .tuple #[.agg #[.string (Ba a), .slice (some ⟨g6, 0, none⟩) gl.length cap6], .int .i64 v, .bool true]) (by simp [results, Tryz.results24, go_sem, e6.c0, e6.c1]) rfl ⟨Or.inr ⟨a, gl, u, g6, cap6, HYes.out, by rw [HU2.out], s6⟩, b6⟩
          · have HNo : Hid (readP said = none) := by
              show _ = _
              rw [HRd2.out, time_bad hv (Or.inr ⟨htb, by rw [hun]; exact hte⟩)]
              rfl
            have hse : ¬ tellP a gl u = said := fun e => by
              rw [HG.out, HSd.out] at e
              exact hte (tell_eq.1 e)
            rw [decide_eq_false hse] at hbq
            clear hse hte hv htb htv hun
            generalize Ba (tellP a gl u) = yt at *
            generalize Ba said = ys at *
            have c0 := HW3.out.box.c0
            have c1 := HW3.out.box.c1
            have f0 := HW3.out.box.free 0
            have f1 := HW3.out.box.free 1
            go_wp2_with fail
            refine Calls.mono (HTi.out _) ?_
            rintro e w4 ⟨rfl, rfl⟩
            go_wp2_with fail
            refine Calls.mono HTl.out ?_
            rintro e w5 ⟨rfl, b5⟩
            have HW5 : Hid (RdS w w1.heap.size #[.string (Ba a), .string (Ba b), .string (Ba c), .string (Ba [])] (.string (Ba a)) (.slice p gl.length q) gl w5) := HW3.out.step b5
            clear b5 c0 c1 f0 f1 HTl HW3
            have c0 := HW5.out.box.c0
            have c1 := HW5.out.box.c1
            have f0 := HW5.out.box.free 0
            have f1 := HW5.out.box.free 1
            go_wp2_with fail
            change bodyPost _ _ _ _ _ (put2 w5 w.heap.size (.string ⟨#[]⟩) (.slice none 0 0))
            obtain ⟨e6, b6⟩ := HW5.out.end (.string ⟨#[]⟩) (.slice none 0 0)
            generalize put2 w5 w.heap.size (.string ⟨#[]⟩) (.slice none 0 0) = W6 at *
            exact bodyPost_ret (v := .tuple #[.agg #[.string ⟨#[]⟩, .slice none 0 0], .int .i64 0, .bool false]) (by simp [results, Tryz.results24, go_sem, e6.c0, e6.c1]) rfl ⟨Or.inl ⟨HNo.out, _, rfl⟩, b6⟩
      · have hno : ∀ v, Lib.atoiAll c ≠ .ok v := fun v hv => hok ⟨v, hv⟩
        have HNo : Hid (readP said = none) := by show _ = _; rw [HRd2.out, time_err hno]; rfl
        have HAt : Hid (Calls Tryz.prog 48 #[.string (Ba c)] w2 fun e w' => (∃ n t p, e = .returned (.tuple #[.int .i64 n, .iface t p])) ∧ Below w2.heap.size w2 w') := atoi_err c w2 (by omega) (HTk.out.below HW2.out.below) hno
        clear hok hno
        go_wp2_with fail
        refine Calls.mono HAt.out ?_
        rintro e w3 ⟨⟨an, at', ap, rfl⟩, b3⟩
        have HW3 : Hid (RdS w w1.heap.size #[.string (Ba a), .string (Ba b), .string (Ba c), .string (Ba [])] (.string (Ba a)) (.slice p gl.length q) gl w3) := HW2.out.step b3
        clear b3 HW2 cc HAt
        have c0 := HW3.out.box.c0
        have c1 := HW3.out.box.c1
        have f0 := HW3.out.box.free 0
        have f1 := HW3.out.box.free 1
        go_wp2_with fail
        change bodyPost _ _ _ _ _ (put2 w3 w.heap.size (.string ⟨#[]⟩) (.slice none 0 0))
        obtain ⟨e6, b6⟩ := HW3.out.end (.string ⟨#[]⟩) (.slice none 0 0)
        generalize put2 w3 w.heap.size (.string ⟨#[]⟩) (.slice none 0 0) = W6 at *
        exact bodyPost_ret (v := .tuple #[.agg #[.string ⟨#[]⟩, .slice none 0 0], .int .i64 0, .bool false]) (by simp [results, Tryz.results24, go_sem, e6.c0, e6.c1]) rfl ⟨Or.inl ⟨HNo.out, _, rfl⟩, b6⟩
    · have hu1 : (userI a gl != 0) = true := by simp [hu]
      have HNo : Hid (readP said = none) := by show _ = _; rw [HRd.out, if_neg (hgu.2 hu)]
      have c0 := HW2.out.box.c0
      have c1 := HW2.out.box.c1
      have f0 := HW2.out.box.free 0
      have f1 := HW2.out.box.free 1
      clear hgu hgl
      generalize userI a gl = ui at *
      go_wp2_with fail
      change bodyPost _ _ _ _ _ (put2 w2 w.heap.size (.string ⟨#[]⟩) (.slice none 0 0))
      obtain ⟨e6, b6⟩ := HW2.out.end (.string ⟨#[]⟩) (.slice none 0 0)
      generalize put2 w2 w.heap.size (.string ⟨#[]⟩) (.slice none 0 0) = W6 at *
      exact bodyPost_ret (v := .tuple #[.agg #[.string ⟨#[]⟩, .slice none 0 0], .int .i64 0, .bool false]) (by simp [results, Tryz.results24, go_sem, e6.c0, e6.c1]) rfl ⟨Or.inl ⟨HNo.out, _, rfl⟩, b6⟩
end Go.Proofs.YtmbpjbghhimedaaGreatDoor
