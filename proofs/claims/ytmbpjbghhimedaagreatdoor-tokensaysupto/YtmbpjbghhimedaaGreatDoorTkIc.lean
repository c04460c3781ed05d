/- Several texts in one: TkRfIssue, TkRfCheck, TkSaysW. -/
import Derived.Test.YtmbpjbghhimedaaGreatDoorTkTd
import Derived.Test.YtmbpjbghhimedaaGreatDoorSlRfMac
import Derived.Test.YtmbpjbghhimedaaGreatDoorSlHu
import Derived.Deep.RegionHeld3
/- Contract over this translation of the document's TokenIssue. -/
namespace Go.Proofs.YtmbpjbghhimedaaGreatDoor
open Go.RowKit
set_option linter.unusedVariables false
set_option linter.unusedSimpArgs false
theorem keyB_false {key : Bs} (h : keyB key = false) : key = [] ∨ (key ≠ [] ∧ 64 < key.length) := by
  unfold keyB at h
  by_cases hn : key = []
  · exact Or.inl hn
  · refine Or.inr ⟨hn, ?_⟩
    simp [hn] at h
    exact h
theorem keyB_true {key : Bs} (h : keyB key = true) : key ≠ [] ∧ key.length ≤ 64 := by
  unfold keyB at h
  simpa using h
theorem digits_any (u : Nat) (w : World) (hu : u ≤ 1099511627776) : Calls Tryz.prog 20 #[.int .i64 (u : Int)] w fun e w' => e = .returned (.string (Ba (Lib.decDigits u))) ∧ Below w.heap.size w w' := by
  have h := rfDigits_any (u : Int) (by omega) (by omega) w
  rw [itoa_nat] at h
  exact h
theorem mac_short {key : Bs} (h : key.length ≤ 64) (s : Bs) : macP key s = macK key s := by rw [macP, if_neg (by omega)]
set_option maxRecDepth 100000 in
set_option maxHeartbeats 8000000 in
theorem rfissue_any (key n : Bs) (v : Value) (gs : List Bs) (u : Int) (w : World) (hk : key.length ≤ maxLen) (hn : n.length ≤ maxLen) (hv : Strs w v gs) (hg : ∀ g ∈ gs, g.length ≤ maxLen) :
    Calls Tryz.prog 7 #[.string (Ba key), .agg #[.string (Ba n), v], .int .i64 u] w fun e w' => e = .returned (issV (issP key n gs u)) ∧ Below w.heap.size w w' := by
  have HI : Hid (∀ w, Calls Tryz.prog 18 #[.int .i64 u, .int .i64 0, .int .i64 1099511627776] w fun e w' => e = .returned (.bool (!timeB u)) ∧ w' = w) := fun w => outside_any u w
  have hvf := hv.form
  obtain ⟨p, c, rfl, hln⟩ := hvf
  obtain ⟨w0, hw0⟩ : ∃ w0, w0 = w.alloc (.cells #[.string (Ba n), .slice p gs.length c] 24) := ⟨_, rfl⟩
  have hB0 : Below w.heap.size w w0 := by rw [hw0]; exact (Below.refl _ _).alloc (Nat.le_refl _) _
  have HB0 : Hid (Below w.heap.size w w0) := hB0
  have HU : Hid (Calls Tryz.prog 12 #[.agg #[.string (Ba n), .slice p gs.length c]] w0 fun e w' => e = .returned (.int .i64 (userI n gs)) ∧ Below w0.heap.size w0 w') := rfuser_any n _ gs w0 hn (hv.below hB0) hg
  have HS : Hid (∀ w1, Below w0.heap.size w0 w1 → Strs w1 (.slice p gs.length c) gs) := fun w1 hb => hv.below (hB0.trans (hb.mono hB0.size))
  have HK0 : Hid (∀ w1, Below w0.heap.size w0 w1 → w1.cell? ⟨w.heap.size, 0, none⟩ = some (.string (Ba n)) ∧ w1.cell? ⟨w.heap.size, 1, none⟩ = some (.slice p gs.length c)) := fun w1 hb => by
    rw [hw0] at hb
    exact box2 hb
  have hk00 := HK0.out w0 (Below.refl _ _)
  have HE : Hid (issP key n gs u = if keyB key = false then (1, []) else if userI n gs ≠ 0 then (userI n gs, []) else if timeB u = false then (1, []) else (0, tellP n gs u.toNat ++ signP key (tellP n gs u.toNat))) := rfl
  have hks : (Ba key).size = key.length := ba_size key
  have hkq : ((Ba key).toList == []) = decide (key = []) := by
    rw [ba_list, Bool.eq_iff_iff, beq_iff_eq, decide_eq_true_iff]
  clear hv hg hB0
  generalize issP key n gs u = res at *
  unfold maxLen at hk hn hln
  obtain ⟨k00, k01⟩ := hk00
  cases hkb : keyB key with
  | false =>
    have HX : Hid (res = (1, [])) := by show _ = _; rw [HE.out, if_pos hkb]
    rcases keyB_false hkb with h0 | ⟨h0, h1⟩
    · rw [decide_eq_true h0] at hkq
      clear HE HS hkb h0
      generalize Ba key = y1 at *
      generalize Ba n = y2 at *
      go_enter Tryz.func7, Tryz.ntmps7
      go_wp2_with fail
      rw [← hw0]
      clear hw0
      go_ret2
      exact ⟨by rw [HX.out]; rfl, HB0.out⟩
    · rw [decide_eq_false h0] at hkq
      have hI : (64 : Int) < (key.length : Int) := by omega
      clear HE HS hkb h0
      generalize Ba key = y1 at *
      generalize Ba n = y2 at *
      go_enter Tryz.func7, Tryz.ntmps7
      go_wp2_with fail
      rw [← hw0]
      clear hw0
      go_ret2
      exact ⟨by rw [HX.out]; rfl, HB0.out⟩
  | true =>
    obtain ⟨h0, h64⟩ := keyB_true hkb
    rw [decide_eq_false h0] at hkq
    have hI64 : ¬ (64 : Int) < (key.length : Int) := by omega
    clear h0
    by_cases hu0 : userI n gs = 0
    · have hu1 : (userI n gs != 0) = false := by simp [hu0]
      cases htb : timeB u with
      | false =>
        have HX : Hid (res = (1, [])) := by show _ = _; rw [HE.out, if_neg (by simp [hkb]), if_neg (by simp [hu0]), if_pos htb]
        rw [htb] at HI
        clear HE HS hkb htb
        generalize userI n gs = ui at *
        generalize Ba key = y1 at *
        generalize Ba n = y2 at *
        go_enter Tryz.func7, Tryz.ntmps7
        go_wp2_with fail
        rw [← hw0]
        clear hw0
        refine Calls.mono HU.out ?_
        rintro e w2 ⟨rfl, b⟩
        have B2 : Hid (Below w.heap.size w w2) := HB0.out.trans (b.mono HB0.out.size)
        clear b
        go_wp2_with fail
        refine Calls.mono (HI.out _) ?_
        rintro e w3 ⟨rfl, rfl⟩
        go_wp2_with fail
        go_ret2
        exact ⟨by rw [HX.out]; rfl, B2.out⟩
      | true =>
        have htt := timeB_iff.1 htb
        rw [htb] at HI
        obtain ⟨un, hun⟩ : ∃ un : Nat, (un : Int) = u := ⟨u.toNat, by omega⟩
        have hunt : u.toNat = un := by omega
        have hule : un ≤ 1099511627776 := by omega
        have HX : Hid (res = (0, tellP n gs un ++ signP key (tellP n gs un))) := by show _ = _; rw [HE.out, if_neg (by simp [hkb]), if_neg (by simp [hu0]), if_neg (by simp [htb]), hunt]
        obtain ⟨hn0, hg6, hgs⟩ := user_ok hu0
        have hnl := (nm_clean hn0).2.1
        have hjl := join_len20 gs (fun x hx => (nm_clean (hgs x hx)).2.1)
        have hdl := dec_len un hule
        have htl := tell_len (u := un) hu0 hule
        have HJ : Hid (∀ w1, Below w0.heap.size w0 w1 → Calls Tryz.prog 19 #[.slice p gs.length c, .string ⟨#[44]⟩] w1 fun e w' => e = .returned (.string (Ba (Lib.join gs [44]))) ∧ Below w0.heap.size w0 w') := fun w1 hb => by
          refine (joins_any _ gs w1 (HS.out w1 hb) (by omega) (fun x hx => (nm_clean (hgs x hx)).2.1)).mono ?_
          rintro e w' ⟨rfl, b⟩
          exact ⟨rfl, hb.trans (b.mono hb.size)⟩
        have HDg : Hid (∀ w1, Below w0.heap.size w0 w1 → Calls Tryz.prog 20 #[.int .i64 u] w1 fun e w' => e = .returned (.string (Ba (Lib.decDigits un))) ∧ Below w0.heap.size w0 w') := fun w1 hb => by
          rw [← hun]
          refine (digits_any un w1 hule).mono ?_
          rintro e w' ⟨rfl, b⟩
          exact ⟨rfl, hb.trans (b.mono hb.size)⟩
        have HR : Hid (Ba (tellP n gs un) = Ba n ++ ⟨#[46]⟩ ++ Ba (Lib.join gs [44]) ++ ⟨#[46]⟩ ++ Ba (Lib.decDigits un) ++ ⟨#[46]⟩) := by
          show _ = _
          rw [show (⟨#[46]⟩ : ByteArray) = Ba [46] from rfl, ba_append, ba_append, ba_append, ba_append, ba_append]
          rfl
        have HMac : Hid (∀ w, Calls Tryz.prog 22 #[.string (Ba key), .string (Ba (tellP n gs un))] w fun e w' => e = .returned (.string (Ba (macP key (tellP n gs un)))) ∧ Below w.heap.size w w') := fun w => by
          rw [mac_short h64]
          exact refmac_short key _ w h64 (by omega)
        have HHex : Hid (∀ w, Calls Tryz.prog 21 #[.string (Ba (macP key (tellP n gs un)))] w fun e w' => e = .returned (.string (Ba (signP key (tellP n gs un)))) ∧ Below w.heap.size w w') := fun w =>
          refhex_any _ w (by rw [macP_length]; decide)
        have hsl : (signP key (tellP n gs un)).length = 64 := by rw [signP, hexP_length, macP_length]
        have HCat : Hid (Ba (tellP n gs un ++ signP key (tellP n gs un)) = Ba (tellP n gs un) ++ Ba (signP key (tellP n gs un))) := (ba_append _ _).symm
        have hs1 : (Ba n).size ≤ 20 := by rw [ba_size]; exact hnl
        have hs2 : (Ba (Lib.join gs [44])).size ≤ 126 := by rw [ba_size]; omega
        have hs3 : (Ba (Lib.decDigits un)).size ≤ 13 := by rw [ba_size]; exact hdl
        have hs4 : (Ba (tellP n gs un)).size ≤ 200 := by rw [ba_size]; exact htl
        have hs5 : (Ba (signP key (tellP n gs un))).size = 64 := by rw [ba_size]; exact hsl
        have hbig : ¬ (9223372036854775807 < (Ba (tellP n gs un)).size + (Ba (signP key (tellP n gs un))).size) := by omega
        clear hn0 hgs hnl hjl hdl htl HE HS hkb htb hunt hun hule hsl htt
        generalize userI n gs = ui at *
        generalize hyc : Ba (tellP n gs un ++ signP key (tellP n gs un)) = yc at *
        generalize Ba (signP key (tellP n gs un)) = ys at *
        generalize Ba (macP key (tellP n gs un)) = ym at *
        generalize Ba (tellP n gs un) = yt at *
        generalize Ba (Lib.join gs [44]) = y2 at *
        generalize Ba (Lib.decDigits un) = y3 at *
        generalize Ba key = yk at *
        generalize Ba n = y1 at *
        have a1 : (y1 ++ ⟨#[46]⟩ : ByteArray).size = y1.size + 1 := by rw [ByteArray.size_append]; rfl
        have a2 : (y1 ++ ⟨#[46]⟩ ++ y2 : ByteArray).size = y1.size + 1 + y2.size := by rw [ByteArray.size_append, a1]
        have a3 : (y1 ++ ⟨#[46]⟩ ++ y2 ++ ⟨#[46]⟩ : ByteArray).size = y1.size + 1 + y2.size + 1 := by rw [ByteArray.size_append, a2]; rfl
        have n1 : ¬ (9223372036854775807 < y1.size + 1) := by omega
        have n2 : ¬ (9223372036854775807 < y1.size + 1 + y2.size) := by omega
        have n3 : ¬ (9223372036854775807 < y1.size + 1 + y2.size + 1) := by omega
        have n4 : ¬ (9223372036854775807 < y1.size + 1 + y2.size + 1 + y3.size) := by omega
        have n5 : ¬ (9223372036854775807 < y1.size + 1 + y2.size + 1 + y3.size + 1) := by omega
        clear a1 a2 a3
        go_enter Tryz.func7, Tryz.ntmps7
        go_wp2_with fail
        rw [← hw0]
        clear hw0
        refine Calls.mono HU.out ?_
        rintro e w2 ⟨rfl, b⟩
        have B2 : Hid (Below w0.heap.size w0 w2) := b
        clear b k00 k01
        go_wp2_with fail
        refine Calls.mono (HI.out _) ?_
        rintro e w3 ⟨rfl, rfl⟩
        go_wp2_with fail
        have hS0 : Below w0.heap.size w0 w3.drew := B2.out.drew
        go_region_held3 (fun w' => w'.cell? ⟨w.heap.size, 0, none⟩ = some (.string y1) ∧ w'.cell? ⟨w.heap.size, 1, none⟩ = some (.slice p gs.length c)) (first | assumption | exact HK0.out _ (by assumption) | go_keep)
          (first
            | (go_at_call 19; refine Calls.mono (HJ.out _ (by assumption)) ?_; rintro e w11 ⟨rfl, hS1⟩)
            | (go_at_call 20; refine Calls.mono (HDg.out _ (by assumption)) ?_; rintro e w12 ⟨rfl, hS2⟩))
        all_goals
          have H12 : Hid (Below w.heap.size w w12) := HB0.out.trans (hS2.mono HB0.out.size)
          rw [← HR.out]
          clear hS0 hS1 hS2 HJ HDg HK0
          go_wp2_with fail
          refine Calls.mono (HMac.out _) ?_
          rintro e w13 ⟨rfl, b⟩
          have H13 : Hid (Below w.heap.size w w13) := H12.out.trans (b.mono H12.out.size)
          clear b H12
          go_wp2_with fail
          refine Calls.mono (HHex.out _) ?_
          rintro e w14 ⟨rfl, b⟩
          have H14 : Hid (Below w.heap.size w w14) := H13.out.trans (b.mono H13.out.size)
          clear b H13
          go_wp2_with fail
          go_ret2
          exact ⟨by rw [HX.out, issV, hyc, HCat.out]; rfl, H14.out⟩
    · have hu1 : (userI n gs != 0) = true := by simp [hu0]
      have HX : Hid (res = (userI n gs, [])) := by show _ = _; rw [HE.out, if_neg (by simp [hkb]), if_pos hu0]
      clear HE HS hkb
      generalize userI n gs = ui at *
      generalize Ba key = y1 at *
      generalize Ba n = y2 at *
      go_enter Tryz.func7, Tryz.ntmps7
      go_wp2_with fail
      rw [← hw0]
      clear hw0
      refine Calls.mono HU.out ?_
      rintro e w2 ⟨rfl, b⟩
      have B2 : Hid (Below w.heap.size w w2) := HB0.out.trans (b.mono HB0.out.size)
      clear b
      go_wp2_with fail
      go_ret2
      exact ⟨by rw [HX.out]; rfl, B2.out⟩
end Go.Proofs.YtmbpjbghhimedaaGreatDoor
/- Contract over this translation of the document's TokenCheck. -/
namespace Go.Proofs.YtmbpjbghhimedaaGreatDoor
open Go.RowKit
set_option linter.unusedVariables false
set_option linter.unusedSimpArgs false
theorem split_own (c : UInt8) (s : Bs) (w : World) (hs : s.length < 4294967281) (hR : 0 < w.heap.size ∧ ∃ m, w.cell? ⟨0, 0, none⟩ = some (.int .i64 m)) :
    Calls Tryz.prog 13 #[.string (Ba s), .string ⟨#[c]⟩] w fun e w' => e = .returned (.slice (some ⟨w.heap.size, 0, none⟩) (parts c s).length (parts c s).length) ∧ OwnN w.heap.size w' (.slice (some ⟨w.heap.size, 0, none⟩) (parts c s).length (parts c s).length) (parts c s) ∧ w'.heap[w.heap.size]? = some (.cells ((parts c s).map fun x => Value.string (Ba x)).toArray 9 (0, 0)) ∧ Below w.heap.size w w' := by
  obtain ⟨_, m, hm⟩ := hR
  have h := Tryz.strings_Split (Ba s) ⟨#[c]⟩ m w (by rw [ba_size]; exact hs) hm (Nat.le_refl 1)
  have hln := parts_len c s
  rw [split_all, countB_list, ← hln, List.map_map] at h
  refine h.mono ?_
  rintro e w' ⟨rfl, rfl⟩
  have hle : s.count c ≤ s.length := List.count_le_length
  exact ⟨rfl, ⟨by simp, Or.inr ⟨w.heap.size, (parts c s).length, _, rfl, Nat.le_refl _, heap_alloc_new w _, Nat.le_refl _, by unfold maxLen; omega, by simp, by rw [List.toList_toArray, List.take_of_length_le (by simp)]; rfl⟩⟩, heap_alloc_new w _, (Below.refl _ _).alloc (Nat.le_refl _) _⟩
theorem bx2_set1 {w : World} {g : Nat} {a b : Value} {t : TypeId} (h : Bx2 w g a b t) (c : Value) : Bx2 (w.setCell ⟨g, 1, none⟩ c) g a c t := heap_setCell_same w g 1 _ _ c h
theorem bx2_other {w : World} {g k : Nat} {a b : Value} {t : TypeId} (h : Bx2 w g a b t) (hk : g ≠ k) (i : Nat) (c : Value) : Bx2 (w.setCell ⟨k, i, none⟩ c) g a b t := by
  unfold Bx2
  rw [heap_setCell_other w ⟨k, i, none⟩ g c (fun e => hk e)]
  exact h
theorem parts_short (c : UInt8) : ∀ (s x : Bs), x ∈ parts c s → x.length ≤ s.length
  | [], x, h => by
    rw [parts, List.mem_singleton] at h
    rw [h]
    exact Nat.le_refl _
  | b :: l, x, h => by
    by_cases hb : b = c
    · rw [hb, parts_same] at h
      rcases List.mem_cons.1 h with h | h
      · rw [h]; simp
      · have := parts_short c l x h
        simp; omega
    · obtain ⟨y, ys, e1, e2⟩ := parts_other c b l hb
      rw [e2] at h
      rcases List.mem_cons.1 h with h | h
      · have := parts_short c l y (by rw [e1]; exact List.mem_cons_self)
        rw [h]; simp; omega
      · have := parts_short c l x (by rw [e1]; exact List.mem_cons_of_mem _ h)
        simp; omega
theorem trim_said (said d : Bs) : Lib.trimSuffix (said ++ d) d = said := by
  unfold Lib.trimSuffix Lib.hasSuffix
  rw [if_pos (by simp)]
  simp
theorem read_none {said a b c d : Bs} (h : parts 46 said = [a, b, c, d]) (g : timeP c = none) : readP said = none := by
  rw [read_parts h, g]
  split <;> rfl
theorem read_bad {said a b c d : Bs} (h : parts 46 said = [a, b, c, d]) (g : userI a (grpsOf b) ≠ 0) : readP said = none := by
  rw [read_parts h, if_neg g]
theorem read_good {said a b c d : Bs} {x : Nat} (h : parts 46 said = [a, b, c, d]) (g : userI a (grpsOf b) = 0) (k : timeP c = some x) : readP said = some (a, grpsOf b, x) := by
  rw [read_parts h, if_pos g, k]
  rfl
set_option maxRecDepth 100000 in
set_option maxHeartbeats 8000000 in
theorem rfcheck_any (key t : Bs) (now : Int) (w : World) (hk : key.length ≤ maxLen) (ht : t.length < 4294967281) (hT : TkW w) :
    Calls Tryz.prog 9 #[.string (Ba key), .string (Ba t), .int .i64 now] w fun e w' => ChkP (chkP key t now) e w' ∧ Below w.heap.size w w' := by
  have HI : Hid (∀ w, Calls Tryz.prog 18 #[.int .i64 now, .int .i64 0, .int .i64 1099511627776] w fun e w' => e = .returned (.bool (!timeB now)) ∧ w' = w) := fun w => outside_any now w
  obtain ⟨w0, hw0⟩ : ∃ w0, w0 = w.alloc (.cells #[.string ⟨#[]⟩, .slice none 0 0] 24) := ⟨_, rfl⟩
  have hB0 : Below w.heap.size w w0 := by rw [hw0]; exact (Below.refl _ _).alloc (Nat.le_refl _) _
  have hbx : Bx2 w0 w.heap.size (.string ⟨#[]⟩) (.slice none 0 0) 24 := by rw [hw0]; exact bx2_new _ _ _ _
  have HB0 : Hid (Below w.heap.size w w0) := hB0
  have HX0 : Hid (Bx2 w0 w.heap.size (.string ⟨#[]⟩) (.slice none 0 0) 24) := hbx
  have HSp : Hid (Calls Tryz.prog 13 #[.string (Ba t), .string ⟨#[46]⟩] w0 fun e w' => e = .returned (.slice (some ⟨w0.heap.size, 0, none⟩) (parts 46 t).length (parts 46 t).length) ∧ OwnN w0.heap.size w' (.slice (some ⟨w0.heap.size, 0, none⟩) (parts 46 t).length (parts 46 t).length) (parts 46 t) ∧ w'.heap[w0.heap.size]? = some (.cells ((parts 46 t).map fun x => Value.string (Ba x)).toArray 9 (0, 0)) ∧ Below w0.heap.size w0 w') := split_own 46 t w0 ht (hT.below hB0).room
  have HE1 : Hid (keyB key = false ∨ timeB now = false → chkP key t now = (1, [], [])) := fun h => chk_arg h
  have HE2 : Hid (keyB key = true → timeB now = true → cutP t = none → chkP key t now = (16, [], [])) := fun h g c => chk_form h g c
  have HE3 : Hid (∀ said d, keyB key = true → timeB now = true → cutP t = some (said, d) → d ≠ signP key said → chkP key t now = (17, [], [])) := fun said d h g c s => chk_sum h g c s
  have HE4 : Hid (∀ said d, keyB key = true → timeB now = true → cutP t = some (said, d) → d = signP key said → chkP key t now = match readP said with
      | none => (16, [], [])
      | some (n, gs, u) => if (u : Int) < now then (15, [], []) else (0, n, gs)) := fun said d h g c s => chk_read h g c s
  have HTk : Hid (TkW w) := hT
  have hks : (Ba key).size = key.length := ba_size key
  have hkq : ((Ba key).toList == []) = decide (key = []) := by
    rw [ba_list, Bool.eq_iff_iff, beq_iff_eq, decide_eq_true_iff]
  clear hB0 hbx hT
  generalize chkP key t now = res at *
  unfold maxLen at hk
  have c0 := HX0.out.c0
  have c1 := HX0.out.c1
  have f0 := HX0.out.free 0
  have f1 := HX0.out.free 1
  cases hkb : keyB key with
  | false =>
    have HX : Hid (res = (1, [], [])) := HE1.out (Or.inl hkb)
    rcases keyB_false hkb with h0 | ⟨h0, h1⟩
    · rw [decide_eq_true h0] at hkq
      clear HE1 HE2 HE3 HE4 hkb h0
      generalize Ba key = yk at *
      subst hw0
      go_enter Tryz.func9, Tryz.ntmps9
      go_wp2_with fail
      exact bodyPost_ret (v := .tuple #[.agg #[.string ⟨#[]⟩, .slice none 0 0], .int .i64 1]) (by simp [results, Tryz.results9, go_sem, c0, c1]) rfl ⟨by rw [HX.out]; exact ChkP.err, HB0.out⟩
    · rw [decide_eq_false h0] at hkq
      have hI : (64 : Int) < (key.length : Int) := by omega
      clear HE1 HE2 HE3 HE4 hkb h0
      generalize Ba key = yk at *
      subst hw0
      go_enter Tryz.func9, Tryz.ntmps9
      go_wp2_with fail
      exact bodyPost_ret (v := .tuple #[.agg #[.string ⟨#[]⟩, .slice none 0 0], .int .i64 1]) (by simp [results, Tryz.results9, go_sem, c0, c1]) rfl ⟨by rw [HX.out]; exact ChkP.err, HB0.out⟩
  | true =>
    obtain ⟨h0, h64⟩ := keyB_true hkb
    rw [decide_eq_false h0] at hkq
    have hI64 : ¬ (64 : Int) < (key.length : Int) := by omega
    clear h0
    cases htb : timeB now with
    | false =>
      have HX : Hid (res = (1, [], [])) := HE1.out (Or.inr htb)
      rw [htb] at HI
      clear HE1 HE2 HE3 HE4 hkb htb
      generalize Ba key = yk at *
      go_enter Tryz.func9, Tryz.ntmps9
      go_wp2_with fail
      rw [← hw0]
      clear hw0
      refine Calls.mono (HI.out _) ?_
      rintro e w1 ⟨rfl, rfl⟩
      go_wp2_with fail
      change bodyPost _ _ _ _ _ (put2 w1 w.heap.size (.string ⟨#[]⟩) (.slice none 0 0))
      have e6 := put2_box HX0.out (.string ⟨#[]⟩) (.slice none 0 0)
      have b6 := put2_below HB0.out (Nat.le_refl _) (.string ⟨#[]⟩) (.slice none 0 0)
      generalize put2 w1 w.heap.size (.string ⟨#[]⟩) (.slice none 0 0) = W6 at *
      exact bodyPost_ret (v := .tuple #[.agg #[.string ⟨#[]⟩, .slice none 0 0], .int .i64 1]) (by simp [results, Tryz.results9, go_sem, e6.c0, e6.c1]) rfl ⟨by rw [HX.out]; exact ChkP.err, b6⟩
    | true =>
      rw [htb] at HI
      have HE2' : Hid (cutP t = none → res = (16, [], [])) := fun c => HE2.out hkb htb c
      have HE3' : Hid (∀ said d, cutP t = some (said, d) → d ≠ signP key said → res = (17, [], [])) := fun said d c s => HE3.out said d hkb htb c s
      have HE4' : Hid (∀ said d, cutP t = some (said, d) → d = signP key said → res = match readP said with
        | none => (16, [], [])
        | some (n, gs, u) => if (u : Int) < now then (15, [], []) else (0, n, gs)) := fun said d c s => HE4.out said d hkb htb c s
      have HMac : Hid (∀ s : Bs, s.length ≤ 1099511627000 → ∀ w, Calls Tryz.prog 22 #[.string (Ba key), .string (Ba s)] w fun e w' => e = .returned (.string (Ba (macP key s))) ∧ Below w.heap.size w w') := fun s hs w => by
        rw [mac_short h64]
        exact refmac_short key s w h64 hs
      clear HE1 HE2 HE3 HE4 hkb htb
      generalize Ba key = yk at *
      by_cases h4 : (parts 46 t).length = 4
      · match hp : parts 46 t, h4 with
        | [a, b, c, d], _ =>
          have hcl := parts_clean 46 t
          rw [hp] at HSp hcl
          have hcut := cut_parts hp
          have htd := four_said hp
          have HTd : Hid (t = a ++ [46] ++ b ++ [46] ++ c ++ [46] ++ d) := htd
          have hlen : a.length + b.length + c.length + d.length + 3 = t.length := by rw [htd]; simp; omega
          clear htd
          go_enter Tryz.func9, Tryz.ntmps9
          go_wp2_with fail
          rw [← hw0]
          clear hw0
          refine Calls.mono (HI.out _) ?_
          rintro e w1 ⟨rfl, rfl⟩
          go_wp2_with fail
          refine Calls.mono HSp.out ?_
          rintro e w2 ⟨rfl, _, hrow, b0⟩
          have HB2 : Hid (Below w.heap.size w w2) := HB0.out.trans (b0.mono HB0.out.size)
          have HX2 : Hid (Bx2 w2 w.heap.size (.string ⟨#[]⟩) (.slice none 0 0) 24) := HX0.out.below b0
          have HRow : Hid (∀ W, Below w2.heap.size w2 W → W.heap[w1.heap.size]? = some (.cells #[.string (Ba a), .string (Ba b), .string (Ba c), .string (Ba d)] 9 (0, 0))) := fun W hb => (hb.block _ (lt_of_block hrow)).trans hrow
          have hr3 := cell_at (k := 3) (v := .string (Ba d)) (HRow.out _ (Below.refl _ _)) rfl
          have hdz : (Ba d).size = d.length := ba_size d
          clear b0 hrow HSp c0 c1 f0 f1
          have c0 := HX2.out.c0
          have c1 := HX2.out.c1
          have f0 := HX2.out.free 0
          have f1 := HX2.out.free 1
          by_cases hd64 : d.length = 64
          · have hdI : ((d.length : Int) != 64) = false := by simp [hd64]
            have HU : Hid (∀ w, Calls Tryz.prog 25 #[.string (Ba d)] w fun e w' => e = .returned (unhexA d) ∧ Below w.heap.size w w') := fun w => refunhex_any d w (by omega)
            cases hu : unhexP d with
            | none =>
              have HX : Hid (res = (16, [], [])) := HE2'.out (by rw [hcut, if_neg (by rw [hu]; simp)])
              rw [unhexA_none hu] at HU
              clear HE2' HE3' HE4' hcut hu
              generalize hyd : Ba d = yd at *
              go_wp2_with fail
              refine Calls.mono (HU.out _) ?_
              rintro e w3 ⟨rfl, b3⟩
              have HB3 : Hid (Below w.heap.size w w3) := HB2.out.trans (b3.mono HB2.out.size)
              have HX3 : Hid (Bx2 w3 w.heap.size (.string ⟨#[]⟩) (.slice none 0 0) 24) := HX2.out.below b3
              clear b3 c0 c1 f0 f1
              have c0 := HX3.out.c0
              have c1 := HX3.out.c1
              have f0 := HX3.out.free 0
              have f1 := HX3.out.free 1
              go_wp2_with fail
              change bodyPost _ _ _ _ _ (put2 w3 w.heap.size (.string ⟨#[]⟩) (.slice none 0 0))
              have e6 := put2_box HX3.out (.string ⟨#[]⟩) (.slice none 0 0)
              have b6 := put2_below HB3.out (Nat.le_refl _) (.string ⟨#[]⟩) (.slice none 0 0)
              generalize put2 w3 w.heap.size (.string ⟨#[]⟩) (.slice none 0 0) = W6 at *
              exact bodyPost_ret (v := .tuple #[.agg #[.string ⟨#[]⟩, .slice none 0 0], .int .i64 16]) (by simp [results, Tryz.results9, go_sem, e6.c0, e6.c1]) rfl ⟨by rw [HX.out]; exact ChkP.err, b6⟩
            | some r =>
              have hcut2 : cutP t = some (a ++ [46] ++ b ++ [46] ++ c ++ [46], d) := by rw [hcut, if_pos ⟨hd64, by rw [hu]; rfl⟩]
              rw [unhexA_some hu] at HU
              obtain ⟨said, hsd⟩ : ∃ said, said = a ++ [46] ++ b ++ [46] ++ c ++ [46] := ⟨_, rfl⟩
              rw [← hsd] at hcut2
              have hts : t = said ++ d := by rw [HTd.out, hsd]
              have hsl : said.length + d.length = t.length := by rw [hts, List.length_append]
              have hps : parts 46 said = [a, b, c, []] := by
                have e : said = a ++ [46] ++ (b ++ [46] ++ (c ++ [46] ++ [])) := by rw [hsd]; simp
                rw [e, parts_cat _ _ _ (hcl a (by simp)), parts_cat _ _ _ (hcl b (by simp)), parts_cat _ _ _ (hcl c (by simp))]
                rfl
              have HTrim : Hid (∀ w, Calls Tryz.prog 26 #[.string (Ba t), .string (Ba d)] w fun e w' => e = .returned (.string (Ba said)) ∧ w' = w) := fun w => by
                have h := Tryz.strings_TrimSuffix (Ba t) (Ba d) w (by rw [ba_size]; omega)
                rw [ba_data, ba_data, hts, trim_said] at h
                rw [hts]
                exact h
              have HM : Hid (∀ w, Calls Tryz.prog 22 #[.string yk, .string (Ba said)] w fun e w' => e = .returned (.string (Ba (macP key said))) ∧ Below w.heap.size w w') := fun w => HMac.out said (by omega) w
              have HH : Hid (∀ w, Calls Tryz.prog 21 #[.string (Ba (macP key said))] w fun e w' => e = .returned (.string (Ba (signP key said))) ∧ Below w.heap.size w w') := fun w => refhex_any _ w (by rw [macP_length]; decide)
              have hbq := ba_beq (signP key said) d
              have HPs : Hid (parts 46 said = [a, b, c, []]) := hps
              clear HE2' hcut hu hcl hsd hts HMac hps HTd
              by_cases hdd : d = signP key said
              · have HR4 : Hid (_) := HE4'.out said d hcut2 hdd
                rw [decide_eq_true hdd.symm] at hbq
                clear HE3' HE4' hcut2 hdd
                generalize Ba (signP key said) = ys at *
                generalize Ba (macP key said) = ym at *
                generalize Ba said = yy at *
                generalize hyd : Ba d = yd at *
                go_wp2_with fail
                refine Calls.mono (HU.out _) ?_
                rintro e w3 ⟨rfl, b3⟩
                have HB3 : Hid (Below w.heap.size w w3) := HB2.out.trans (b3.mono HB2.out.size)
                have HX3 : Hid (Bx2 w3 w.heap.size (.string ⟨#[]⟩) (.slice none 0 0) 24) := HX2.out.below b3
                have HB23 : Hid (Below w2.heap.size w2 w3) := b3
                clear b3 c0 c1 f0 f1 hr3
                have HKr : Hid (∀ W, Below w3.heap.size w3 W → W.cell? ⟨w1.heap.size, 3, none⟩ = some (.string yd)) := fun W hb => cell_at (k := 3) (HRow.out _ (HB23.out.trans (hb.mono HB23.out.size))) rfl
                have HM3 : Hid (∀ W, Below w3.heap.size w3 W → Calls Tryz.prog 22 #[.string yk, .string yy] W fun e w' => e = .returned (.string ym) ∧ Below w3.heap.size w3 w') := fun W hb => by
                  refine (HM.out W).mono ?_
                  rintro e w' ⟨rfl, bb⟩
                  exact ⟨rfl, hb.trans (bb.mono hb.size)⟩
                have HH3 : Hid (∀ W, Below w3.heap.size w3 W → Calls Tryz.prog 21 #[.string ym] W fun e w' => e = .returned (.string ys) ∧ Below w3.heap.size w3 w') := fun W hb => by
                  refine (HH.out W).mono ?_
                  rintro e w' ⟨rfl, bb⟩
                  exact ⟨rfl, hb.trans (bb.mono hb.size)⟩
                have HTr3 : Hid (∀ W, Below w3.heap.size w3 W → Calls Tryz.prog 26 #[.string (Ba t), .string yd] W fun e w' => e = .returned (.string yy) ∧ Below w3.heap.size w3 w') := fun W hb => by
                  refine (HTrim.out W).mono ?_
                  rintro e w' ⟨rfl, rfl⟩
                  exact ⟨rfl, hb⟩
                go_wp2_with fail
                have hS0 : Below w3.heap.size w3 w3.drew := (Below.refl _ _).drew
                go_region_held3 (fun w' => w'.cell? ⟨w1.heap.size, 3, none⟩ = some (.string yd)) (first | assumption | exact HKr.out _ (by assumption) | go_keep)
                  (first
                    | (go_at_call 26; refine Calls.mono (HTr3.out _ (by assumption)) ?_; rintro e w11 ⟨rfl, hS1⟩)
                    | (go_at_call 22; refine Calls.mono (HM3.out _ (by assumption)) ?_; rintro e w12 ⟨rfl, hS2⟩)
                    | (go_at_call 21; refine Calls.mono (HH3.out _ (by assumption)) ?_; rintro e w13 ⟨rfl, hS3⟩))
                all_goals
                  have HB213 : Hid (Below w2.heap.size w2 w13) := HB23.out.trans (hS3.mono HB23.out.size)
                  have HRow13 : Hid (∀ W, Below w13.heap.size w13 W → W.heap[w1.heap.size]? = some (.cells #[.string (Ba a), .string (Ba b), .string (Ba c), .string yd] 9 (0, 0))) := fun W hb => HRow.out _ (HB213.out.trans (hb.mono HB213.out.size))
                  have HTm : Hid (∀ w, Calls Tryz.prog 27 #[.string (Ba c)] w fun e w' => e = .returned (.int .i64 (timeI c)) ∧ w' = w) := fun w => rftime_any c w (by unfold maxLen; omega)
                  clear hS0 hS1 hS2 hS3 HM HH HTrim HM3 HH3 HTr3 HKr HU hbq
                  go_wp2_with fail
                  refine M_begin 9 11 (fun w' => Below w13.heap.size w13 w') (by kernel_rfl) rfl ?_
                  have hHeld : (fun w' => Below w13.heap.size w13 w') w13.drew := (Below.refl _ _).drew
                  refine M_take 0 (oi := { dst := some 62, op := Op.move (Operand.tmp 8), type := 22, pos := "rights.go:230", after := #[], guard := none }) (v := ?vt0) rfl (by kernel_rfl) (by kernel_rfl) (by kernel_rfl) (by kernel_rfl) (by kernel_rfl) (by decide) (by decide) (by kernel_rfl) (fun _ _ _ h => h) hHeld ?hy0 ?_
                  case hy0 => exact (Or.inl ⟨by rfl, by (intro w' hSw; go_simp; try (with_reducible rfl))⟩)
                  try simp only [Act.put, List.setIfInBounds_toArray, List.set_cons_zero, List.set_cons_succ]
                  refine M_take 1 (oi := { dst := some 63, op := Op.indexAddr 22 (Operand.tmp 62) (Operand.const (Value.int IntKind.i64 0)), type := 0, pos := "rights.go:230", after := #[{ on := 0, ground := Ground.data }], guard := none }) (v := ?vt1) rfl (by kernel_rfl) (by kernel_rfl) (by kernel_rfl) (by kernel_rfl) (by kernel_rfl) (by decide) (by decide) (by kernel_rfl) (fun _ _ _ h => h) hHeld ?hy1 ?_
                  case hy1 => exact (Or.inl ⟨by rfl, by (intro w' hSw; go_simp; try (with_reducible rfl))⟩)
                  try simp only [Act.put, List.setIfInBounds_toArray, List.set_cons_zero, List.set_cons_succ]
                  refine M_take 2 (oi := { dst := some 64, op := Op.load 9 (Operand.tmp 63), type := 9, pos := "rights.go:230", after := #[{ on := 1, ground := Ground.data }], guard := none }) (v := .string (Ba a)) rfl (by kernel_rfl) (by kernel_rfl) (by kernel_rfl) (by kernel_rfl) (by kernel_rfl) (by decide) (by decide) (by kernel_rfl) (fun _ _ _ h => h) hHeld ?hy2 ?_
                  case hy2 => exact (Or.inl ⟨by rfl, by (intro w' hSw; have hcell := cell_at (k := 0) (v := .string (Ba a)) (HRow13.out w' hSw) rfl; go_simp; try (with_reducible rfl))⟩)
                  try simp only [Act.put, List.setIfInBounds_toArray, List.set_cons_zero, List.set_cons_succ]
                  refine M_take 3 (oi := { dst := some 65, op := Op.build 24 #[(0, Operand.tmp 64)], type := 24, pos := "rights.go:230", after := #[{ on := 2, ground := Ground.data }], guard := none }) (v := ?vt3) rfl (by kernel_rfl) (by kernel_rfl) (by kernel_rfl) (by kernel_rfl) (by kernel_rfl) (by decide) (by decide) (by kernel_rfl) (fun _ _ _ h => h) hHeld ?hy3 ?_
                  case hy3 => exact (Or.inl ⟨by rfl, by (intro w' hSw; go_simp; try (with_reducible rfl))⟩)
                  try simp only [Act.put, List.setIfInBounds_toArray, List.set_cons_zero, List.set_cons_succ]
                  refine M_take 4 (oi := { dst := some 66, op := Op.move (Operand.tmp 8), type := 22, pos := "rights.go:230", after := #[], guard := none }) (v := ?vt4) rfl (by kernel_rfl) (by kernel_rfl) (by kernel_rfl) (by kernel_rfl) (by kernel_rfl) (by decide) (by decide) (by kernel_rfl) (fun _ _ _ h => h) hHeld ?hy4 ?_
                  case hy4 => exact (Or.inl ⟨by rfl, by (intro w' hSw; go_simp; try (with_reducible rfl))⟩)
                  try simp only [Act.put, List.setIfInBounds_toArray, List.set_cons_zero, List.set_cons_succ]
                  refine M_take 5 (oi := { dst := some 67, op := Op.indexAddr 22 (Operand.tmp 66) (Operand.const (Value.int IntKind.i64 2)), type := 0, pos := "rights.go:230", after := #[{ on := 4, ground := Ground.data }], guard := none }) (v := ?vt5) rfl (by kernel_rfl) (by kernel_rfl) (by kernel_rfl) (by kernel_rfl) (by kernel_rfl) (by decide) (by decide) (by kernel_rfl) (fun _ _ _ h => h) hHeld ?hy5 ?_
                  case hy5 => exact (Or.inl ⟨by rfl, by (intro w' hSw; go_simp; try (with_reducible rfl))⟩)
                  try simp only [Act.put, List.setIfInBounds_toArray, List.set_cons_zero, List.set_cons_succ]
                  refine M_take 6 (oi := { dst := some 68, op := Op.load 9 (Operand.tmp 67), type := 9, pos := "rights.go:230", after := #[{ on := 5, ground := Ground.data }], guard := none }) (v := .string (Ba c)) rfl (by kernel_rfl) (by kernel_rfl) (by kernel_rfl) (by kernel_rfl) (by kernel_rfl) (by decide) (by decide) (by kernel_rfl) (fun _ _ _ h => h) hHeld ?hy6 ?_
                  case hy6 => exact (Or.inl ⟨by rfl, by (intro w' hSw; have hcell := cell_at (k := 2) (v := .string (Ba c)) (HRow13.out w' hSw) rfl; go_simp; try (with_reducible rfl))⟩)
                  try simp only [Act.put, List.setIfInBounds_toArray, List.set_cons_zero, List.set_cons_succ]
                  refine M_ready [7, 8] (by kernel_rfl) (by decide) ?_
                  refine AllM.cons (i := 7) (o := { dst := some 69, op := Op.call { callee := Callee.value (Operand.func 27), args := #[Operand.tmp 68], argTypes := #[9] }, type := 3, pos := "rights.go:230", after := #[{ on := 6, ground := Ground.data }], guard := none }) rfl (fun K hK => ?armA) (AllM.cons (i := 8) (o := { dst := some 11, op := Op.alloc 24, type := 0, pos := "rights.go:230", after := #[], guard := none }) rfl (fun K hK => ?armB) AllM.nil)
                  case' armA =>
                    rw [if_pos (by rfl)]
                    go_wp2_with fail
                    refine Calls.mono (HTm.out _) ?_
                    rintro e wt ⟨rfl, rfl⟩
                    dsimp only
                    refine hK.out _ _ hHeld (fun hHeld2 => ?_)
                    clear hK K hHeld
                    have hHeld := hHeld2
                    clear hHeld2
                    try simp only [Act.put, List.setIfInBounds_toArray, List.set_cons_zero, List.set_cons_succ]
                    refine M_ready [8] (by kernel_rfl) (by decide) ?_
                    refine AllM.cons (i := 8) (o := { dst := some 11, op := Op.alloc 24, type := 0, pos := "rights.go:230", after := #[], guard := none }) rfl (fun K hK => ?_) AllM.nil
                    go_simp
                    refine hK.out _ _ (hHeld.alloc hHeld.size _) (fun hHeld2 => ?_)
                    clear hK K hHeld
                    have hHeld := hHeld2
                    clear hHeld2
                    try simp only [Act.put, List.setIfInBounds_toArray, List.set_cons_zero, List.set_cons_succ]
                    refine M_tail [{ dst := none, op := Op.store 24 (Operand.tmp 11) (Operand.tmp 65), type := 0, pos := "rights.go:230", after := #[{ on := 8, ground := Ground.data }, { on := 3, ground := Ground.data }, { on := 7, ground := Ground.chain }, { on := 0, ground := Ground.phase }, { on := 1, ground := Ground.phase }, { on := 2, ground := Ground.phase }, { on := 3, ground := Ground.phase }, { on := 4, ground := Ground.textOnly Departure.lateStores }, { on := 5, ground := Ground.textOnly Departure.lateStores }, { on := 6, ground := Ground.textOnly Departure.lateStores }, { on := 7, ground := Ground.textOnly Departure.lateStoresUnsure }, { on := 8, ground := Ground.phase }], guard := none }, { dst := some 12, op := Op.assign (Operand.tmp 69), type := 3, pos := "rights.go:230", after := #[{ on := 7, ground := Ground.data }, { on := 9, ground := Ground.chain }, { on := 0, ground := Ground.phase }, { on := 1, ground := Ground.phase }, { on := 2, ground := Ground.phase }, { on := 3, ground := Ground.phase }, { on := 4, ground := Ground.phase }, { on := 5, ground := Ground.phase }, { on := 6, ground := Ground.phase }, { on := 7, ground := Ground.phase }, { on := 8, ground := Ground.phase }, { on := 9, ground := Ground.phase }], guard := none }] rfl (by kernel_rfl) (by kernel_rfl) ?_
                  case' armB =>
                    go_simp
                    refine hK.out _ _ (hHeld.alloc hHeld.size _) (fun hHeld2 => ?_)
                    clear hK K hHeld
                    have hHeld := hHeld2
                    clear hHeld2
                    try simp only [Act.put, List.setIfInBounds_toArray, List.set_cons_zero, List.set_cons_succ]
                    refine M_ready [7] (by kernel_rfl) (by decide) ?_
                    refine AllM.cons (i := 7) (o := { dst := some 69, op := Op.call { callee := Callee.value (Operand.func 27), args := #[Operand.tmp 68], argTypes := #[9] }, type := 3, pos := "rights.go:230", after := #[{ on := 6, ground := Ground.data }], guard := none }) rfl (fun K hK => ?_) AllM.nil
                    rw [if_pos (by rfl)]
                    go_wp2_with fail
                    refine Calls.mono (HTm.out _) ?_
                    rintro e wt ⟨rfl, rfl⟩
                    dsimp only
                    refine hK.out _ _ hHeld (fun hHeld2 => ?_)
                    clear hK K hHeld
                    have hHeld := hHeld2
                    clear hHeld2
                    try simp only [Act.put, List.setIfInBounds_toArray, List.set_cons_zero, List.set_cons_succ]
                    refine M_tail [{ dst := none, op := Op.store 24 (Operand.tmp 11) (Operand.tmp 65), type := 0, pos := "rights.go:230", after := #[{ on := 8, ground := Ground.data }, { on := 3, ground := Ground.data }, { on := 7, ground := Ground.chain }, { on := 0, ground := Ground.phase }, { on := 1, ground := Ground.phase }, { on := 2, ground := Ground.phase }, { on := 3, ground := Ground.phase }, { on := 4, ground := Ground.textOnly Departure.lateStores }, { on := 5, ground := Ground.textOnly Departure.lateStores }, { on := 6, ground := Ground.textOnly Departure.lateStores }, { on := 7, ground := Ground.textOnly Departure.lateStoresUnsure }, { on := 8, ground := Ground.phase }], guard := none }, { dst := some 12, op := Op.assign (Operand.tmp 69), type := 3, pos := "rights.go:230", after := #[{ on := 7, ground := Ground.data }, { on := 9, ground := Ground.chain }, { on := 0, ground := Ground.phase }, { on := 1, ground := Ground.phase }, { on := 2, ground := Ground.phase }, { on := 3, ground := Ground.phase }, { on := 4, ground := Ground.phase }, { on := 5, ground := Ground.phase }, { on := 6, ground := Ground.phase }, { on := 7, ground := Ground.phase }, { on := 8, ground := Ground.phase }, { on := 9, ground := Ground.phase }], guard := none }] rfl (by kernel_rfl) (by kernel_rfl) ?_
                  all_goals
                    have hAl : Below w13.heap.size w13 ((w13.alloc (.cells #[.string (Ba a), .slice none 0 0] 24)).drew) := ((Below.refl _ _).alloc (Nat.le_refl _) _).drew
                    have HU14 : Hid (Bx2 ((w13.alloc (.cells #[.string (Ba a), .slice none 0 0] 24)).drew) w13.heap.size (.string (Ba a)) (.slice none 0 0) 24) := (bx2_new _ _ _ _).below (Below.refl _ _).drew
                    have HX14 : Hid (Bx2 ((w13.alloc (.cells #[.string (Ba a), .slice none 0 0] 24)).drew) w.heap.size (.string ⟨#[]⟩) (.slice none 0 0) 24) := HX2.out.below (HB213.out.trans (hAl.mono HB213.out.size))
                    have HB14 : Hid (Below w.heap.size w ((w13.alloc (.cells #[.string (Ba a), .slice none 0 0] 24)).drew)) := HB2.out.trans ((HB213.out.trans (hAl.mono HB213.out.size)).mono HB2.out.size)
                    have Hlt : Hid (w.heap.size < w13.heap.size) := (HX2.out.below HB213.out).lt
                    have r1 := cell_at (k := 1) (v := .string (Ba b)) (HRow13.out _ hAl) rfl
                    have hbq : ((Ba b).toList == []) = decide (b = []) := by
                      rw [ba_list, Bool.eq_iff_iff, beq_iff_eq, decide_eq_true_iff]
                    generalize hti : timeI c = ti at *
                    clear hAl hHeld HRow13 HTm
                    by_cases hb : b = []
                    · have hgs : grpsOf b = [] := by rw [grpsOf, if_pos hb]
                      have HO14 : Hid (OwnN (w13.heap.size + 1) ((w13.alloc (.cells #[.string (Ba a), .slice none 0 0] 24)).drew) (.slice none 0 0) []) := ⟨by simp, Or.inl ⟨rfl, rfl⟩⟩
                      have hgl : ∀ g ∈ ([] : List Bs), g.length ≤ maxLen := fun g hg => by cases hg
                      rw [decide_eq_true hb] at hbq
                      generalize Ba b = yb at *
                      clear hb
                      cases hc : timeP c with
                      | none =>
                        have hneg : ti < 0 := by rw [← hti, timeI_none hc]; decide
                        have HX : Hid (res = (16, [], [])) := by show _ = _; rw [HR4.out, read_none HPs.out hc]
                        have c0 := HX14.out.c0
                        have c1 := HX14.out.c1
                        have f0 := HX14.out.free 0
                        have f1 := HX14.out.free 1
                        clear HR4 hti hc
                        go_upto_if 85 with fail
                        generalize ((w13.alloc (.cells #[.string (Ba a), .slice none 0 0] 24)).drew) = W14 at *
                        go_wp2_with fail
                        change bodyPost _ _ _ _ _ (put2 W14 w.heap.size (.string ⟨#[]⟩) (.slice none 0 0))
                        have e6 := put2_box HX14.out (.string ⟨#[]⟩) (.slice none 0 0)
                        have b6 := put2_below HB14.out (Nat.le_refl _) (.string ⟨#[]⟩) (.slice none 0 0)
                        generalize put2 W14 w.heap.size (.string ⟨#[]⟩) (.slice none 0 0) = W6 at *
                        exact bodyPost_ret (v := .tuple #[.agg #[.string ⟨#[]⟩, .slice none 0 0], .int .i64 16]) (by simp [results, Tryz.results9, go_sem, e6.c0, e6.c1]) rfl ⟨by rw [HX.out]; exact ChkP.err, b6⟩
                      | some u =>
                        have hneg : ¬ ti < 0 := by rw [← hti, timeI_some hc]; omega
                        have htu : ti = (u : Int) := by rw [← hti, timeI_some hc]
                        have HUs : Hid (Calls Tryz.prog 12 #[.agg #[.string (Ba a), .slice none 0 0]] ((w13.alloc (.cells #[.string (Ba a), .slice none 0 0] 24)).drew) fun e w' => e = .returned (.int .i64 (userI a [])) ∧ Below (((w13.alloc (.cells #[.string (Ba a), .slice none 0 0] 24)).drew)).heap.size ((w13.alloc (.cells #[.string (Ba a), .slice none 0 0] 24)).drew) w') := rfuser_any a _ _ _ (by unfold maxLen; omega) HO14.out.strs hgl
                        have u0 := HU14.out.c0
                        have u1 := HU14.out.c1
                        by_cases hui : userI a [] = 0
                        · have HR5 : Hid (res = if ti < now then (15, [], []) else (0, a, [])) := by show _ = _; rw [HR4.out, read_good HPs.out (by rw [hgs]; exact hui) hc, htu, hgs]
                          rw [hui] at HUs
                          clear HR4 hti hc htu hui
                          go_wp2_with fail
                          refine Calls.mono HUs.out ?_
                          rintro e w17 ⟨rfl, b17⟩
                          have HB17 : Hid (Below w.heap.size w w17) := HB14.out.trans (b17.mono HB14.out.size)
                          have HX17 : Hid (Bx2 w17 w.heap.size (.string ⟨#[]⟩) (.slice none 0 0) 24) := HX14.out.below b17
                          have HU17 : Hid (Bx2 w17 w13.heap.size (.string (Ba a)) (.slice none 0 0) 24) := HU14.out.below b17
                          have HO17 : Hid (OwnN (w13.heap.size + 1) w17 (.slice none 0 0) ([])) := HO14.out.below b17
                          clear u0 u1 HUs b17
                          have c0 := HX17.out.c0
                          have c1 := HX17.out.c1
                          have f0 := HX17.out.free 0
                          have f1 := HX17.out.free 1
                          have u0 := HU17.out.c0
                          have u1 := HU17.out.c1
                          by_cases hnow : ti < now
                          · have HX : Hid (res = (15, [], [])) := by show _ = _; rw [HR5.out, if_pos hnow]
                            go_wp2_with fail
                            change bodyPost _ _ _ _ _ (put2 w17 w.heap.size (.string ⟨#[]⟩) (.slice none 0 0))
                            have e6 := put2_box HX17.out (.string ⟨#[]⟩) (.slice none 0 0)
                            have b6 := put2_below HB17.out (Nat.le_refl _) (.string ⟨#[]⟩) (.slice none 0 0)
                            generalize put2 w17 w.heap.size (.string ⟨#[]⟩) (.slice none 0 0) = W6 at *
                            exact bodyPost_ret (v := .tuple #[.agg #[.string ⟨#[]⟩, .slice none 0 0], .int .i64 15]) (by simp [results, Tryz.results9, go_sem, e6.c0, e6.c1]) rfl ⟨by rw [HX.out]; exact ChkP.err, b6⟩
                          · have HX : Hid (res = (0, a, [])) := by show _ = _; rw [HR5.out, if_neg hnow]
                            go_wp2_with fail
                            change bodyPost _ _ _ _ _ (put2 w17 w.heap.size (.string (Ba a)) (.slice none 0 0))
                            have e6 := put2_box HX17.out (.string (Ba a)) (.slice none 0 0)
                            have b6 := put2_below HB17.out (Nat.le_refl _) (.string (Ba a)) (.slice none 0 0)
                            have o6 : OwnN (w13.heap.size + 1) (put2 w17 w.heap.size (.string (Ba a)) (.slice none 0 0)) (.slice none 0 0) ([]) :=
                              World.ownsRow.kept HO17.out (put2_grown _ _ _ _) (own_block HO17.out (by have := Hlt.out; omega))
                            generalize put2 w17 w.heap.size (.string (Ba a)) (.slice none 0 0) = W6 at *
                            exact bodyPost_ret (v := .tuple #[.agg #[.string (Ba a), .slice none 0 0], .int .i64 0]) (by simp [results, Tryz.results9, go_sem, e6.c0, e6.c1]) rfl ⟨⟨_, by rw [HX.out], by rw [HX.out]; exact o6.strs⟩, b6⟩
                        · have HX : Hid (res = (16, [], [])) := by show _ = _; rw [HR4.out, read_bad HPs.out (by rw [hgs]; exact hui)]
                          have hun : (userI a ([]) != 0) = true := by simp [hui]
                          clear HR4 hti hc htu hui
                          generalize userI a ([]) = ui at *
                          go_wp2_with fail
                          refine Calls.mono HUs.out ?_
                          rintro e w17 ⟨rfl, b17⟩
                          have HB17 : Hid (Below w.heap.size w w17) := HB14.out.trans (b17.mono HB14.out.size)
                          have HX17 : Hid (Bx2 w17 w.heap.size (.string ⟨#[]⟩) (.slice none 0 0) 24) := HX14.out.below b17
                          clear u0 u1 HUs b17
                          have c0 := HX17.out.c0
                          have c1 := HX17.out.c1
                          have f0 := HX17.out.free 0
                          have f1 := HX17.out.free 1
                          go_wp2_with fail
                          change bodyPost _ _ _ _ _ (put2 w17 w.heap.size (.string ⟨#[]⟩) (.slice none 0 0))
                          have e6 := put2_box HX17.out (.string ⟨#[]⟩) (.slice none 0 0)
                          have b6 := put2_below HB17.out (Nat.le_refl _) (.string ⟨#[]⟩) (.slice none 0 0)
                          generalize put2 w17 w.heap.size (.string ⟨#[]⟩) (.slice none 0 0) = W6 at *
                          exact bodyPost_ret (v := .tuple #[.agg #[.string ⟨#[]⟩, .slice none 0 0], .int .i64 16]) (by simp [results, Tryz.results9, go_sem, e6.c0, e6.c1]) rfl ⟨by rw [HX.out]; exact ChkP.err, b6⟩
                    · have hgs : grpsOf b = parts 44 b := by rw [grpsOf, if_neg hb]
                      have hgl : ∀ g ∈ parts 44 b, g.length ≤ maxLen := fun g hg => by have := parts_short 44 b g hg; unfold maxLen; omega
                      have HS2 : Hid (Calls Tryz.prog 13 #[.string (Ba b), .string ⟨#[44]⟩] ((w13.alloc (.cells #[.string (Ba a), .slice none 0 0] 24)).drew) fun e w' => e = .returned (.slice (some ⟨((w13.alloc (.cells #[.string (Ba a), .slice none 0 0] 24)).drew).heap.size, 0, none⟩) (parts 44 b).length (parts 44 b).length) ∧ OwnN ((w13.alloc (.cells #[.string (Ba a), .slice none 0 0] 24)).drew).heap.size w' (.slice (some ⟨((w13.alloc (.cells #[.string (Ba a), .slice none 0 0] 24)).drew).heap.size, 0, none⟩) (parts 44 b).length (parts 44 b).length) (parts 44 b) ∧ w'.heap[((w13.alloc (.cells #[.string (Ba a), .slice none 0 0] 24)).drew).heap.size]? = some (.cells ((parts 44 b).map fun x => Value.string (Ba x)).toArray 9 (0, 0)) ∧ Below ((w13.alloc (.cells #[.string (Ba a), .slice none 0 0] 24)).drew).heap.size ((w13.alloc (.cells #[.string (Ba a), .slice none 0 0] 24)).drew) w') := split_own 44 b _ (by omega) (HTk.out.below HB14.out).room
                      rw [decide_eq_false hb] at hbq
                      generalize Ba b = yb at *
                      clear hb
                      go_wp2_with fail
                      refine Calls.mono HS2.out ?_
                      rintro e w15 ⟨rfl, hown, _, b15⟩
                      have HB15 : Hid (Below w.heap.size w w15) := HB14.out.trans (b15.mono HB14.out.size)
                      have HX15 : Hid (Bx2 w15 w.heap.size (.string ⟨#[]⟩) (.slice none 0 0) 24) := HX14.out.below b15
                      have HU15 : Hid (Bx2 w15 w13.heap.size (.string (Ba a)) (.slice none 0 0) 24) := HU14.out.below b15
                      have HO15 := hown.low HU14.out.lt
                      clear b15 hown HS2 HX14 HU14 HB14 r1 hbq
                      generalize ((w13.alloc (.cells #[.string (Ba a), .slice none 0 0] 24)).drew).heap.size = g14 at *
                      have HB16 : Hid (Below w.heap.size w (w15.setCell ⟨w13.heap.size, 1, none⟩ (.slice (some ⟨g14, 0, none⟩) (parts 44 b).length (parts 44 b).length))) := HB15.out.setCell (p := ⟨w13.heap.size, 1, none⟩) (Nat.le_of_lt Hlt.out) _
                      have HX16 : Hid (Bx2 (w15.setCell ⟨w13.heap.size, 1, none⟩ (.slice (some ⟨g14, 0, none⟩) (parts 44 b).length (parts 44 b).length)) w.heap.size (.string ⟨#[]⟩) (.slice none 0 0) 24) := bx2_other HX15.out (Nat.ne_of_lt Hlt.out) 1 _
                      have HU16 : Hid (Bx2 (w15.setCell ⟨w13.heap.size, 1, none⟩ (.slice (some ⟨g14, 0, none⟩) (parts 44 b).length (parts 44 b).length)) w13.heap.size (.string (Ba a)) (.slice (some ⟨g14, 0, none⟩) (parts 44 b).length (parts 44 b).length) 24) := bx2_set1 HU15.out _
                      have HO16 : Hid (OwnN (w13.heap.size + 1) (w15.setCell ⟨w13.heap.size, 1, none⟩ (.slice (some ⟨g14, 0, none⟩) (parts 44 b).length (parts 44 b).length)) (.slice (some ⟨g14, 0, none⟩) (parts 44 b).length (parts 44 b).length) (parts 44 b)) := World.ownsRow.kept HO15 (set_grown _ _ _ _) (own_block HO15 (Nat.lt_succ_self _))
                      have v0 := HU15.out.c0
                      have v1 := HU15.out.c1
                      have g0 := HU15.out.free 0
                      have g1 := HU15.out.free 1
                      clear HB15 HX15 HU15 HO15
                      cases hc : timeP c with
                      | none =>
                        have hneg : ti < 0 := by rw [← hti, timeI_none hc]; decide
                        have HX : Hid (res = (16, [], [])) := by show _ = _; rw [HR4.out, read_none HPs.out hc]
                        have c0 := HX16.out.c0
                        have c1 := HX16.out.c1
                        have f0 := HX16.out.free 0
                        have f1 := HX16.out.free 1
                        clear HR4 hti hc
                        go_wp2_with fail
                        change bodyPost _ _ _ _ _ (put2 (w15.setCell ⟨w13.heap.size, 1, none⟩ (.slice (some ⟨g14, 0, none⟩) (parts 44 b).length (parts 44 b).length)) w.heap.size (.string ⟨#[]⟩) (.slice none 0 0))
                        have e6 := put2_box HX16.out (.string ⟨#[]⟩) (.slice none 0 0)
                        have b6 := put2_below HB16.out (Nat.le_refl _) (.string ⟨#[]⟩) (.slice none 0 0)
                        generalize put2 (w15.setCell ⟨w13.heap.size, 1, none⟩ (.slice (some ⟨g14, 0, none⟩) (parts 44 b).length (parts 44 b).length)) w.heap.size (.string ⟨#[]⟩) (.slice none 0 0) = W6 at *
                        exact bodyPost_ret (v := .tuple #[.agg #[.string ⟨#[]⟩, .slice none 0 0], .int .i64 16]) (by simp [results, Tryz.results9, go_sem, e6.c0, e6.c1]) rfl ⟨by rw [HX.out]; exact ChkP.err, b6⟩
                      | some u =>
                        have hneg : ¬ ti < 0 := by rw [← hti, timeI_some hc]; omega
                        have htu : ti = (u : Int) := by rw [← hti, timeI_some hc]
                        have HUs : Hid (Calls Tryz.prog 12 #[.agg #[.string (Ba a), .slice (some ⟨g14, 0, none⟩) (parts 44 b).length (parts 44 b).length]] (w15.setCell ⟨w13.heap.size, 1, none⟩ (.slice (some ⟨g14, 0, none⟩) (parts 44 b).length (parts 44 b).length)) fun e w' => e = .returned (.int .i64 (userI a (parts 44 b))) ∧ Below ((w15.setCell ⟨w13.heap.size, 1, none⟩ (.slice (some ⟨g14, 0, none⟩) (parts 44 b).length (parts 44 b).length))).heap.size (w15.setCell ⟨w13.heap.size, 1, none⟩ (.slice (some ⟨g14, 0, none⟩) (parts 44 b).length (parts 44 b).length)) w') := rfuser_any a _ _ _ (by unfold maxLen; omega) HO16.out.strs hgl
                        have u0 := HU16.out.c0
                        have u1 := HU16.out.c1
                        by_cases hui : userI a (parts 44 b) = 0
                        · have HR5 : Hid (res = if ti < now then (15, [], []) else (0, a, (parts 44 b))) := by show _ = _; rw [HR4.out, read_good HPs.out (by rw [hgs]; exact hui) hc, htu, hgs]
                          rw [hui] at HUs
                          clear HR4 hti hc htu hui
                          go_wp2_with fail
                          refine Calls.mono HUs.out ?_
                          rintro e w17 ⟨rfl, b17⟩
                          have HB17 : Hid (Below w.heap.size w w17) := HB16.out.trans (b17.mono HB16.out.size)
                          have HX17 : Hid (Bx2 w17 w.heap.size (.string ⟨#[]⟩) (.slice none 0 0) 24) := HX16.out.below b17
                          have HU17 : Hid (Bx2 w17 w13.heap.size (.string (Ba a)) (.slice (some ⟨g14, 0, none⟩) (parts 44 b).length (parts 44 b).length) 24) := HU16.out.below b17
                          have HO17 : Hid (OwnN (w13.heap.size + 1) w17 (.slice (some ⟨g14, 0, none⟩) (parts 44 b).length (parts 44 b).length) ((parts 44 b))) := HO16.out.below b17
                          clear u0 u1 HUs b17
                          have c0 := HX17.out.c0
                          have c1 := HX17.out.c1
                          have f0 := HX17.out.free 0
                          have f1 := HX17.out.free 1
                          have u0 := HU17.out.c0
                          have u1 := HU17.out.c1
                          by_cases hnow : ti < now
                          · have HX : Hid (res = (15, [], [])) := by show _ = _; rw [HR5.out, if_pos hnow]
                            go_wp2_with fail
                            change bodyPost _ _ _ _ _ (put2 w17 w.heap.size (.string ⟨#[]⟩) (.slice none 0 0))
                            have e6 := put2_box HX17.out (.string ⟨#[]⟩) (.slice none 0 0)
                            have b6 := put2_below HB17.out (Nat.le_refl _) (.string ⟨#[]⟩) (.slice none 0 0)
                            generalize put2 w17 w.heap.size (.string ⟨#[]⟩) (.slice none 0 0) = W6 at *
                            exact bodyPost_ret (v := .tuple #[.agg #[.string ⟨#[]⟩, .slice none 0 0], .int .i64 15]) (by simp [results, Tryz.results9, go_sem, e6.c0, e6.c1]) rfl ⟨by rw [HX.out]; exact ChkP.err, b6⟩
                          · have HX : Hid (res = (0, a, (parts 44 b))) := by show _ = _; rw [HR5.out, if_neg hnow]
                            go_wp2_with fail
                            change bodyPost _ _ _ _ _ (put2 w17 w.heap.size (.string (Ba a)) (.slice (some ⟨g14, 0, none⟩) (parts 44 b).length (parts 44 b).length))
                            have e6 := put2_box HX17.out (.string (Ba a)) (.slice (some ⟨g14, 0, none⟩) (parts 44 b).length (parts 44 b).length)
                            have b6 := put2_below HB17.out (Nat.le_refl _) (.string (Ba a)) (.slice (some ⟨g14, 0, none⟩) (parts 44 b).length (parts 44 b).length)
                            have o6 : OwnN (w13.heap.size + 1) (put2 w17 w.heap.size (.string (Ba a)) (.slice (some ⟨g14, 0, none⟩) (parts 44 b).length (parts 44 b).length)) (.slice (some ⟨g14, 0, none⟩) (parts 44 b).length (parts 44 b).length) ((parts 44 b)) :=
                              World.ownsRow.kept HO17.out (put2_grown _ _ _ _) (own_block HO17.out (by have := Hlt.out; omega))
                            generalize put2 w17 w.heap.size (.string (Ba a)) (.slice (some ⟨g14, 0, none⟩) (parts 44 b).length (parts 44 b).length) = W6 at *
                            exact bodyPost_ret (v := .tuple #[.agg #[.string (Ba a), .slice (some ⟨g14, 0, none⟩) (parts 44 b).length (parts 44 b).length], .int .i64 0]) (by simp [results, Tryz.results9, go_sem, e6.c0, e6.c1]) rfl ⟨⟨_, by rw [HX.out], by rw [HX.out]; exact o6.strs⟩, b6⟩
                        · have HX : Hid (res = (16, [], [])) := by show _ = _; rw [HR4.out, read_bad HPs.out (by rw [hgs]; exact hui)]
                          have hun : (userI a ((parts 44 b)) != 0) = true := by simp [hui]
                          clear HR4 hti hc htu hui
                          generalize userI a ((parts 44 b)) = ui at *
                          go_wp2_with fail
                          refine Calls.mono HUs.out ?_
                          rintro e w17 ⟨rfl, b17⟩
                          have HB17 : Hid (Below w.heap.size w w17) := HB16.out.trans (b17.mono HB16.out.size)
                          have HX17 : Hid (Bx2 w17 w.heap.size (.string ⟨#[]⟩) (.slice none 0 0) 24) := HX16.out.below b17
                          clear u0 u1 HUs b17
                          have c0 := HX17.out.c0
                          have c1 := HX17.out.c1
                          have f0 := HX17.out.free 0
                          have f1 := HX17.out.free 1
                          go_wp2_with fail
                          change bodyPost _ _ _ _ _ (put2 w17 w.heap.size (.string ⟨#[]⟩) (.slice none 0 0))
                          have e6 := put2_box HX17.out (.string ⟨#[]⟩) (.slice none 0 0)
                          have b6 := put2_below HB17.out (Nat.le_refl _) (.string ⟨#[]⟩) (.slice none 0 0)
                          generalize put2 w17 w.heap.size (.string ⟨#[]⟩) (.slice none 0 0) = W6 at *
                          exact bodyPost_ret (v := .tuple #[.agg #[.string ⟨#[]⟩, .slice none 0 0], .int .i64 16]) (by simp [results, Tryz.results9, go_sem, e6.c0, e6.c1]) rfl ⟨by rw [HX.out]; exact ChkP.err, b6⟩
              · have HX : Hid (res = (17, [], [])) := HE3'.out said d hcut2 hdd
                rw [decide_eq_false (fun e => hdd e.symm)] at hbq
                clear HE3' HE4' hcut2 hdd
                generalize Ba (signP key said) = ys at *
                generalize Ba (macP key said) = ym at *
                generalize Ba said = yy at *
                generalize hyd : Ba d = yd at *
                go_wp2_with fail
                refine Calls.mono (HU.out _) ?_
                rintro e w3 ⟨rfl, b3⟩
                have HB3 : Hid (Below w.heap.size w w3) := HB2.out.trans (b3.mono HB2.out.size)
                have HX3 : Hid (Bx2 w3 w.heap.size (.string ⟨#[]⟩) (.slice none 0 0) 24) := HX2.out.below b3
                have HB23 : Hid (Below w2.heap.size w2 w3) := b3
                clear b3 c0 c1 f0 f1 hr3
                have HKr : Hid (∀ W, Below w3.heap.size w3 W → W.cell? ⟨w1.heap.size, 3, none⟩ = some (.string yd)) := fun W hb => cell_at (k := 3) (HRow.out _ (HB23.out.trans (hb.mono HB23.out.size))) rfl
                have HM3 : Hid (∀ W, Below w3.heap.size w3 W → Calls Tryz.prog 22 #[.string yk, .string yy] W fun e w' => e = .returned (.string ym) ∧ Below w3.heap.size w3 w') := fun W hb => by
                  refine (HM.out W).mono ?_
                  rintro e w' ⟨rfl, bb⟩
                  exact ⟨rfl, hb.trans (bb.mono hb.size)⟩
                have HH3 : Hid (∀ W, Below w3.heap.size w3 W → Calls Tryz.prog 21 #[.string ym] W fun e w' => e = .returned (.string ys) ∧ Below w3.heap.size w3 w') := fun W hb => by
                  refine (HH.out W).mono ?_
                  rintro e w' ⟨rfl, bb⟩
                  exact ⟨rfl, hb.trans (bb.mono hb.size)⟩
                have HTr3 : Hid (∀ W, Below w3.heap.size w3 W → Calls Tryz.prog 26 #[.string (Ba t), .string yd] W fun e w' => e = .returned (.string yy) ∧ Below w3.heap.size w3 w') := fun W hb => by
                  refine (HTrim.out W).mono ?_
                  rintro e w' ⟨rfl, rfl⟩
                  exact ⟨rfl, hb⟩
                go_wp2_with fail
                have hS0 : Below w3.heap.size w3 w3.drew := (Below.refl _ _).drew
                go_region_held3 (fun w' => w'.cell? ⟨w1.heap.size, 3, none⟩ = some (.string yd)) (first | assumption | exact HKr.out _ (by assumption) | go_keep)
                  (first
                    | (go_at_call 26; refine Calls.mono (HTr3.out _ (by assumption)) ?_; rintro e w11 ⟨rfl, hS1⟩)
                    | (go_at_call 22; refine Calls.mono (HM3.out _ (by assumption)) ?_; rintro e w12 ⟨rfl, hS2⟩)
                    | (go_at_call 21; refine Calls.mono (HH3.out _ (by assumption)) ?_; rintro e w13 ⟨rfl, hS3⟩))
                all_goals
                  have HB213 : Hid (Below w2.heap.size w2 w13) := HB23.out.trans (hS3.mono HB23.out.size)
                  have HB13 : Hid (Below w.heap.size w w13) := HB2.out.trans (HB213.out.mono HB2.out.size)
                  have HX13 : Hid (Bx2 w13 w.heap.size (.string ⟨#[]⟩) (.slice none 0 0) 24) := HX2.out.below HB213.out
                  clear hS0 hS1 hS2 hS3 HM HH HTrim HM3 HH3 HTr3 HKr HU
                  have c0 := HX13.out.c0
                  have c1 := HX13.out.c1
                  have f0 := HX13.out.free 0
                  have f1 := HX13.out.free 1
                  go_wp2_with fail
                  change bodyPost _ _ _ _ _ (put2 w13 w.heap.size (.string ⟨#[]⟩) (.slice none 0 0))
                  have e6 := put2_box HX13.out (.string ⟨#[]⟩) (.slice none 0 0)
                  have b6 := put2_below HB13.out (Nat.le_refl _) (.string ⟨#[]⟩) (.slice none 0 0)
                  generalize put2 w13 w.heap.size (.string ⟨#[]⟩) (.slice none 0 0) = W6 at *
                  exact bodyPost_ret (v := .tuple #[.agg #[.string ⟨#[]⟩, .slice none 0 0], .int .i64 17]) (by simp [results, Tryz.results9, go_sem, e6.c0, e6.c1]) rfl ⟨by rw [HX.out]; exact ChkP.err, b6⟩
          · have hdI : ((d.length : Int) != 64) = true := by simp; omega
            have HX : Hid (res = (16, [], [])) := HE2'.out (by rw [hcut, if_neg (fun h => hd64 h.1)])
            clear HE2' HE3' HE4' hcut hd64
            generalize Ba d = yd at *
            go_wp2_with fail
            change bodyPost _ _ _ _ _ (put2 w2 w.heap.size (.string ⟨#[]⟩) (.slice none 0 0))
            have e6 := put2_box HX2.out (.string ⟨#[]⟩) (.slice none 0 0)
            have b6 := put2_below HB2.out (Nat.le_refl _) (.string ⟨#[]⟩) (.slice none 0 0)
            generalize put2 w2 w.heap.size (.string ⟨#[]⟩) (.slice none 0 0) = W6 at *
            exact bodyPost_ret (v := .tuple #[.agg #[.string ⟨#[]⟩, .slice none 0 0], .int .i64 16]) (by simp [results, Tryz.results9, go_sem, e6.c0, e6.c1]) rfl ⟨by rw [HX.out]; exact ChkP.err, b6⟩
      · have HX : Hid (res = (16, [], [])) := HE2'.out (cut_none h4)
        have hl4 : (((parts 46 t).length : Int) != 4) = true := by simp; omega
        clear HE2' HE3' HE4' h4
        generalize parts 46 t = pl at *
        go_enter Tryz.func9, Tryz.ntmps9
        go_wp2_with fail
        rw [← hw0]
        clear hw0
        refine Calls.mono (HI.out _) ?_
        rintro e w1 ⟨rfl, rfl⟩
        go_wp2_with fail
        refine Calls.mono HSp.out ?_
        rintro e w2 ⟨rfl, _, hrow, b⟩
        have HB2 : Hid (Below w.heap.size w w2) := HB0.out.trans (b.mono HB0.out.size)
        have HX2 : Hid (Bx2 w2 w.heap.size (.string ⟨#[]⟩) (.slice none 0 0) 24) := HX0.out.below b
        clear b hrow HSp c0 c1 f0 f1
        have c0 := HX2.out.c0
        have c1 := HX2.out.c1
        have f0 := HX2.out.free 0
        have f1 := HX2.out.free 1
        go_wp2_with fail
        change bodyPost _ _ _ _ _ (put2 w2 w.heap.size (.string ⟨#[]⟩) (.slice none 0 0))
        have e6 := put2_box HX2.out (.string ⟨#[]⟩) (.slice none 0 0)
        have b6 := put2_below HB2.out (Nat.le_refl _) (.string ⟨#[]⟩) (.slice none 0 0)
        generalize put2 w2 w.heap.size (.string ⟨#[]⟩) (.slice none 0 0) = W6 at *
        exact bodyPost_ret (v := .tuple #[.agg #[.string ⟨#[]⟩, .slice none 0 0], .int .i64 16]) (by simp [results, Tryz.results9, go_sem, e6.c0, e6.c1]) rfl ⟨by rw [HX.out]; exact ChkP.err, b6⟩
end Go.Proofs.YtmbpjbghhimedaaGreatDoor
/- Walk over this translation: CheckUser, Issue and Check answer as the document's do. -/
namespace Go.Proofs.YtmbpjbghhimedaaGreatDoor
open Go.RowKit
set_option linter.unusedVariables false
set_option linter.unusedSimpArgs false
set_option maxRecDepth 100000 in
set_option maxHeartbeats 8000000 in
theorem tsays_walk (key n : Bs) (v : Value) (gs : List Bs) (u : Int) (t : Bs) (now : Int) (w : World) (hk : key.length ≤ maxLen) (hn : n.length ≤ maxLen) (hv : Strs w v gs) (hg : ∀ g ∈ gs, g.length ≤ maxLen) (ht : t.length < 4294967281) (hT : TkW w) :
    Calls Tryz.prog 3 #[.string (Ba key), .agg #[.string (Ba n), v], .int .i64 u, .string (Ba t), .int .i64 now] w fun e w' => e = .returned (.bool true) ∧ Below w.heap.size w w' := by
  have hvf := hv.form
  obtain ⟨p, c, rfl, hln⟩ := hvf
  obtain ⟨w0, hw0⟩ : ∃ w0, w0 = w.alloc (.cells #[.string (Ba n), .slice p gs.length c] 24) := ⟨_, rfl⟩
  have hB0 : Below w.heap.size w w0 := by rw [hw0]; exact (Below.refl _ _).alloc (Nat.le_refl _) _
  have hbx : Bx2 w0 w.heap.size (.string (Ba n)) (.slice p gs.length c) 24 := by rw [hw0]; exact bx2_new _ _ _ _
  have HB0 : Hid (Below w.heap.size w w0) := hB0
  have HX0 : Hid (Bx2 w0 w.heap.size (.string (Ba n)) (.slice p gs.length c) 24) := hbx
  have HI : Hid (Calls Tryz.prog 6 #[.string (Ba key), .agg #[.string (Ba n), .slice p gs.length c], .int .i64 u] w0 fun e w' => e = .returned (issV (issP key n gs u)) ∧ Below w0.heap.size w0 w') := issue_any key n _ gs u w0 hk hn (hv.below hB0) hg (hT.below hB0)
  have HJ : Hid (∀ w1, Below w.heap.size w w1 → Calls Tryz.prog 7 #[.string (Ba key), .agg #[.string (Ba n), .slice p gs.length c], .int .i64 u] w1 fun e w' => e = .returned (issV (issP key n gs u)) ∧ Below w1.heap.size w1 w') := fun w1 hb => rfissue_any key n _ gs u w1 hk hn (hv.below hb) hg
  have HC : Hid (∀ w1, Below w.heap.size w w1 → Calls Tryz.prog 8 #[.string (Ba key), .string (Ba t), .int .i64 now] w1 fun e w' => ChkP (chkP key t now) e w' ∧ Below w1.heap.size w1 w') := fun w1 hb => tcheck_any key t now w1 hk ht (hT.below hb)
  have HD : Hid (∀ w1, Below w.heap.size w w1 → Calls Tryz.prog 9 #[.string (Ba key), .string (Ba t), .int .i64 now] w1 fun e w' => ChkP (chkP key t now) e w' ∧ Below w1.heap.size w1 w') := fun w1 hb => rfcheck_any key t now w1 hk ht (hT.below hb)
  have HU : Hid (∀ w1, Below w.heap.size w w1 → Calls Tryz.prog 11 #[.agg #[.string (Ba n), .slice p gs.length c]] w1 fun e w' => e = .returned (.int .i64 (userI n gs)) ∧ Below w1.heap.size w1 w') := fun w1 hb => user_any n _ gs w1 hn (hv.below hb) hg
  have HV : Hid (∀ w1, Below w.heap.size w w1 → Calls Tryz.prog 12 #[.agg #[.string (Ba n), .slice p gs.length c]] w1 fun e w' => e = .returned (.int .i64 (userI n gs)) ∧ Below w1.heap.size w1 w') := fun w1 hb => rfuser_any n _ gs w1 hn (hv.below hb) hg
  clear hv hg hT hB0 hbx
  generalize userI n gs = ui at *
  generalize chkP key t now = ck at *
  generalize issP key n gs u = iss at *
  obtain ⟨ie, it⟩ := iss
  obtain ⟨ce, cn, cg⟩ := ck
  have hiv : issV (ie, it) = .tuple #[.string (Ba it), .int .i64 ie] := rfl
  rw [hiv] at HI HJ
  clear hiv
  unfold maxLen at hk hn hln
  generalize Ba it = yi at *
  generalize Ba t = yt at *
  generalize Ba key = yk at *
  generalize Ba n = yn at *
  have c0 := HX0.out.c0
  have c1 := HX0.out.c1
  go_enter Tryz.func3, Tryz.ntmps3
  go_wp2_with fail
  rw [← hw0]
  clear hw0
  refine Calls.mono HI.out ?_
  rintro e w1 ⟨rfl, b⟩
  have HB1 : Hid (Below w.heap.size w w1) := HB0.out.trans (b.mono HB0.out.size)
  have HX1 : Hid (Bx2 w1 w.heap.size (.string yn) (.slice p gs.length c) 24) := HX0.out.below b
  clear b c0 c1
  have c0 := HX1.out.c0
  have c1 := HX1.out.c1
  go_wp2_with fail
  refine Calls.mono (HJ.out _ HB1.out) ?_
  rintro e w2 ⟨rfl, b⟩
  have HB2 : Hid (Below w.heap.size w w2) := HB1.out.trans (b.mono HB1.out.size)
  have HX2 : Hid (Bx2 w2 w.heap.size (.string yn) (.slice p gs.length c) 24) := HX1.out.below b
  clear b c0 c1
  go_wp2_with fail
  refine Calls.mono (HC.out _ HB2.out) ?_
  rintro e w3 ⟨⟨gv1, rfl, hs1⟩, b⟩
  obtain ⟨p1, c1, rfl, _⟩ := hs1.form
  dsimp only at *
  generalize hyc : Ba cn = yc at *
  have hb3 := b.alloc b.size (o := .cells #[.string yc, .slice p1 cg.length c1] 24)
  have HB3 : Hid (Below w.heap.size w (w3.alloc (.cells #[.string yc, .slice p1 cg.length c1] 24))) := HB2.out.trans (hb3.mono HB2.out.size)
  have HX3 : Hid (Bx2 (w3.alloc (.cells #[.string yc, .slice p1 cg.length c1] 24)) w.heap.size (.string yn) (.slice p gs.length c) 24) := HX2.out.below hb3
  have HY3 : Hid (Bx2 (w3.alloc (.cells #[.string yc, .slice p1 cg.length c1] 24)) w3.heap.size (.string yc) (.slice p1 cg.length c1) 24) := bx2_new _ _ _ _
  have HS3 : Hid (Strs (w3.alloc (.cells #[.string yc, .slice p1 cg.length c1] 24)) (.slice p1 cg.length c1) cg) := hs1.below ((Below.refl _ _).alloc (Nat.le_refl _) _)
  clear b hb3 hs1
  go_wp2_with fail
  refine Calls.mono (HD.out _ HB3.out) ?_
  rintro e w4 ⟨⟨gv2, rfl, hs2⟩, b⟩
  obtain ⟨p2, c2, rfl, _⟩ := hs2.form
  dsimp only at *
  rw [hyc]
  have hb4 := b.alloc b.size (o := .cells #[.string yc, .slice p2 cg.length c2] 24)
  have HB4 : Hid (Below w.heap.size w (w4.alloc (.cells #[.string yc, .slice p2 cg.length c2] 24))) := HB3.out.trans (hb4.mono HB3.out.size)
  have HX4 : Hid (Bx2 (w4.alloc (.cells #[.string yc, .slice p2 cg.length c2] 24)) w.heap.size (.string yn) (.slice p gs.length c) 24) := HX3.out.below hb4
  have HY4 : Hid (Bx2 (w4.alloc (.cells #[.string yc, .slice p2 cg.length c2] 24)) w3.heap.size (.string yc) (.slice p1 cg.length c1) 24) := HY3.out.below hb4
  have HZ4 : Hid (Bx2 (w4.alloc (.cells #[.string yc, .slice p2 cg.length c2] 24)) w4.heap.size (.string yc) (.slice p2 cg.length c2) 24) := bx2_new _ _ _ _
  have HS4 : Hid (Strs (w4.alloc (.cells #[.string yc, .slice p2 cg.length c2] 24)) (.slice p1 cg.length c1) cg) := HS3.out.below hb4
  have HT4 : Hid (Strs (w4.alloc (.cells #[.string yc, .slice p2 cg.length c2] 24)) (.slice p2 cg.length c2) cg) := hs2.below ((Below.refl _ _).alloc (Nat.le_refl _) _)
  clear b hb4 hs2 HX3 HY3 HS3
  go_wp2_with fail
  obtain ⟨wB, hwB⟩ : ∃ wB, wB = w4.alloc (.cells #[.string yc, .slice p2 cg.length c2] 24) := ⟨_, rfl⟩
  rw [← hwB] at HB4 HX4 HY4 HZ4 HS4 HT4 ⊢
  clear hwB
  have HSm : Hid (∀ w1, Below wB.heap.size wB w1 → Calls Tryz.prog 10 #[.agg #[.string yc, .slice p1 cg.length c1], .agg #[.string yc, .slice p2 cg.length c2]] w1 fun e w' => e = .returned (.bool true) ∧ Below wB.heap.size wB w') := fun w1 hb => by
    have h := sameUser_any cn cn _ _ cg cg w1 (HS4.out.below hb) (HT4.out.below hb)
    rw [show (decide (cn = cn) && (cg == cg)) = true by simp, hyc] at h
    refine h.mono ?_
    rintro e w' ⟨rfl, b⟩
    exact ⟨rfl, hb.trans (b.mono hb.size)⟩
  have HU2 : Hid (∀ w1, Below wB.heap.size wB w1 → Calls Tryz.prog 11 #[.agg #[.string yn, .slice p gs.length c]] w1 fun e w' => e = .returned (.int .i64 ui) ∧ Below wB.heap.size wB w') := fun w1 hb => by
    refine (HU.out w1 (HB4.out.trans (hb.mono HB4.out.size))).mono ?_
    rintro e w' ⟨rfl, b⟩
    exact ⟨rfl, hb.trans (b.mono hb.size)⟩
  have HV2 : Hid (∀ w1, Below wB.heap.size wB w1 → Calls Tryz.prog 12 #[.agg #[.string yn, .slice p gs.length c]] w1 fun e w' => e = .returned (.int .i64 ui) ∧ Below wB.heap.size wB w') := fun w1 hb => by
    refine (HV.out w1 (HB4.out.trans (hb.mono HB4.out.size))).mono ?_
    rintro e w' ⟨rfl, b⟩
    exact ⟨rfl, hb.trans (b.mono hb.size)⟩
  have HKe : Hid (∀ w1, Below wB.heap.size wB w1 → w1.cell? ⟨w.heap.size, 0, none⟩ = some (.string yn) ∧ w1.cell? ⟨w.heap.size, 1, none⟩ = some (.slice p gs.length c) ∧ w1.cell? ⟨w3.heap.size, 0, none⟩ = some (.string yc) ∧ w1.cell? ⟨w3.heap.size, 1, none⟩ = some (.slice p1 cg.length c1) ∧ w1.cell? ⟨w4.heap.size, 0, none⟩ = some (.string yc) ∧ w1.cell? ⟨w4.heap.size, 1, none⟩ = some (.slice p2 cg.length c2)) := fun w1 hb =>
    ⟨(HX4.out.below hb).c0, (HX4.out.below hb).c1, (HY4.out.below hb).c0, (HY4.out.below hb).c1, (HZ4.out.below hb).c0, (HZ4.out.below hb).c1⟩
  have hS0 : Below wB.heap.size wB wB.drew := (Below.refl _ _).drew
  go_region_held3 (fun w' => w'.cell? ⟨w.heap.size, 0, none⟩ = some (.string yn) ∧ w'.cell? ⟨w.heap.size, 1, none⟩ = some (.slice p gs.length c) ∧ w'.cell? ⟨w3.heap.size, 0, none⟩ = some (.string yc) ∧ w'.cell? ⟨w3.heap.size, 1, none⟩ = some (.slice p1 cg.length c1) ∧ w'.cell? ⟨w4.heap.size, 0, none⟩ = some (.string yc) ∧ w'.cell? ⟨w4.heap.size, 1, none⟩ = some (.slice p2 cg.length c2)) (first | assumption | exact HKe.out _ (by assumption) | go_keep)
    (first
      | (go_at_call 10; refine Calls.mono (HSm.out _ (by assumption)) ?_; rintro e w11 ⟨rfl, hS1⟩)
      | (go_at_call 11; refine Calls.mono (HU2.out _ (by assumption)) ?_; rintro e w12 ⟨rfl, hS2⟩)
      | (go_at_call 12; refine Calls.mono (HV2.out _ (by assumption)) ?_; rintro e w13 ⟨rfl, hS3⟩))
  all_goals
    have HE : Hid (Below w.heap.size w w13) := HB4.out.trans (hS3.mono HB4.out.size)
    go_wp2_with fail
    go_ret
    exact ⟨rfl, HE.out⟩
end Go.Proofs.YtmbpjbghhimedaaGreatDoor
