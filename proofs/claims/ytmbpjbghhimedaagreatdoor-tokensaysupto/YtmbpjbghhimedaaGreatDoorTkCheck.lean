/- Contract over this translation: token.Check. -/
import Derived.Test.YtmbpjbghhimedaaGreatDoorTkRead
namespace Go.Proofs.YtmbpjbghhimedaaGreatDoor
open Go.RowKit
set_option linter.unusedVariables false
set_option linter.unusedSimpArgs false
/-- what Check answers, in memory -/
def ChkP (r : Int × Bs × List Bs) (e : Ending) (w' : World) : Prop := ∃ gv, e = .returned (.tuple #[.agg #[.string (Ba r.2.1), gv], .int .i64 r.1]) ∧ Strs w' gv r.2.2
theorem ChkP.err {n : Int} {w' : World} : ChkP (n, [], []) (.returned (.tuple #[.agg #[.string ⟨#[]⟩, .slice none 0 0], .int .i64 n])) w' := ⟨_, rfl, Or.inl ⟨rfl, _, _, rfl⟩⟩
set_option maxRecDepth 100000 in
set_option maxHeartbeats 8000000 in
theorem tcheck_any (key t : Bs) (now : Int) (w : World) (hk : key.length ≤ maxLen) (ht : t.length < 4294967281) (hT : TkW w) :
    Calls Tryz.prog 8 #[.string (Ba key), .string (Ba t), .int .i64 now] w fun e w' => ChkP (chkP key t now) e w' ∧ Below w.heap.size w w' := by
  have HK : Hid (∀ w, Calls Tryz.prog 14 #[.string (Ba key)] w fun e w' => e = .returned (.bool (keyB key)) ∧ w' = w) := fun w => isKey_any key w
  have HI : Hid (∀ w, Calls Tryz.prog 15 #[.int .i64 now] w fun e w' => e = .returned (.bool (timeB now)) ∧ w' = w) := fun w => isTime_any now w
  have HAp : Hid (∀ w, Calls Tryz.prog 23 #[.string (Ba t)] w fun e w' => ApartP t e ∧ Below w.heap.size w w') := fun w => apart_any t w (by omega)
  obtain ⟨w0, hw0⟩ : ∃ w0, w0 = w.alloc (.cells #[.string ⟨#[]⟩, .slice none 0 0] 24) := ⟨_, rfl⟩
  have hB0 : Below w.heap.size w w0 := by rw [hw0]; exact (Below.refl _ _).alloc (Nat.le_refl _) _
  have hbx : Bx2 w0 w.heap.size (.string ⟨#[]⟩) (.slice none 0 0) 24 := by rw [hw0]; exact bx2_new _ _ _ _
  have HB0 : Hid (Below w.heap.size w w0) := hB0
  have HX0 : Hid (Bx2 w0 w.heap.size (.string ⟨#[]⟩) (.slice none 0 0) 24) := hbx
  have HE1 : Hid (keyB key = false ∨ timeB now = false → chkP key t now = (1, [], [])) := fun h => chk_arg h
  have HE2 : Hid (keyB key = true → timeB now = true → cutP t = none → chkP key t now = (16, [], [])) := fun h g c => chk_form h g c
  have HE3 : Hid (∀ said d, keyB key = true → timeB now = true → cutP t = some (said, d) → d ≠ signP key said → chkP key t now = (17, [], [])) := fun said d h g c s => chk_sum h g c s
  have HE4 : Hid (∀ said d, keyB key = true → timeB now = true → cutP t = some (said, d) → d = signP key said → chkP key t now = match readP said with
      | none => (16, [], [])
      | some (n, gs, u) => if (u : Int) < now then (15, [], []) else (0, n, gs)) := fun said d h g c s => chk_read h g c s
  have HTk : Hid (TkW w) := hT
  clear hB0 hbx hT
  generalize chkP key t now = res at *
  cases hkb : keyB key with
  | false =>
    have HX : Hid (res = (1, [], [])) := HE1.out (Or.inl hkb)
    rw [hkb] at HK
    have c0 := HX0.out.c0
    have c1 := HX0.out.c1
    have f0 := HX0.out.free 0
    have f1 := HX0.out.free 1
    clear HE1 HE2 HE3 HE4
    go_enter Tryz.func8, Tryz.ntmps8
    go_wp2_with fail
    rw [← hw0]
    clear hw0
    refine Calls.mono (HK.out _) ?_
    rintro e w1 ⟨rfl, rfl⟩
    go_wp2_with fail
    change bodyPost _ _ _ _ _ (put2 w1 w.heap.size (.string ⟨#[]⟩) (.slice none 0 0))
    have e6 := put2_box HX0.out (.string ⟨#[]⟩) (.slice none 0 0)
    have b6 := put2_below HB0.out (Nat.le_refl _) (.string ⟨#[]⟩) (.slice none 0 0)
    generalize put2 w1 w.heap.size (.string ⟨#[]⟩) (.slice none 0 0) = W6 at *
    exact bodyPost_ret (v := .tuple #[.agg #[.string ⟨#[]⟩, .slice none 0 0], .int .i64 1]) (by simp [results, Tryz.results8, go_sem, e6.c0, e6.c1]) rfl ⟨by rw [HX.out]; exact ChkP.err, b6⟩
  | true =>
    rw [hkb] at HK
    cases htb : timeB now with
    | false =>
      have HX : Hid (res = (1, [], [])) := HE1.out (Or.inr htb)
      rw [htb] at HI
      have c0 := HX0.out.c0
      have c1 := HX0.out.c1
      have f0 := HX0.out.free 0
      have f1 := HX0.out.free 1
      clear HE1 HE2 HE3 HE4
      go_enter Tryz.func8, Tryz.ntmps8
      go_wp2_with fail
      rw [← hw0]
      clear hw0
      refine Calls.mono (HK.out _) ?_
      rintro e w1 ⟨rfl, rfl⟩
      go_wp2_with fail
      refine Calls.mono (HI.out _) ?_
      rintro e w2 ⟨rfl, rfl⟩
      go_wp2_with fail
      change bodyPost _ _ _ _ _ (put2 w2 w.heap.size (.string ⟨#[]⟩) (.slice none 0 0))
      have e6 := put2_box HX0.out (.string ⟨#[]⟩) (.slice none 0 0)
      have b6 := put2_below HB0.out (Nat.le_refl _) (.string ⟨#[]⟩) (.slice none 0 0)
      generalize put2 w2 w.heap.size (.string ⟨#[]⟩) (.slice none 0 0) = W6 at *
      exact bodyPost_ret (v := .tuple #[.agg #[.string ⟨#[]⟩, .slice none 0 0], .int .i64 1]) (by simp [results, Tryz.results8, go_sem, e6.c0, e6.c1]) rfl ⟨by rw [HX.out]; exact ChkP.err, b6⟩
    | true =>
      rw [htb] at HI
      have HE2' : Hid (cutP t = none → res = (16, [], [])) := fun c => HE2.out hkb htb c
      have HE3' : Hid (∀ said d, cutP t = some (said, d) → d ≠ signP key said → res = (17, [], [])) := fun said d c s => HE3.out said d hkb htb c s
      have HE4' : Hid (∀ said d, cutP t = some (said, d) → d = signP key said → res = match readP said with
        | none => (16, [], [])
        | some (n, gs, u) => if (u : Int) < now then (15, [], []) else (0, n, gs)) := fun said d c s => HE4.out said d hkb htb c s
      clear HE1 HE2 HE3 HE4 hkb htb
      go_enter Tryz.func8, Tryz.ntmps8
      go_wp2_with fail
      rw [← hw0]
      clear hw0
      refine Calls.mono (HK.out _) ?_
      rintro e w1 ⟨rfl, rfl⟩
      go_wp2_with fail
      refine Calls.mono (HI.out _) ?_
      rintro e w2 ⟨rfl, rfl⟩
      go_wp2_with fail
      refine Calls.mono (HAp.out _) ?_
      rintro e w3 ⟨⟨said, d, f, rfl, hf1, hf2⟩, b⟩
      have HB3 : Hid (Below w.heap.size w w3) := HB0.out.trans (b.mono HB0.out.size)
      have HX3 : Hid (Bx2 w3 w.heap.size (.string ⟨#[]⟩) (.slice none 0 0) 24) := HX0.out.below b
      clear b
      cases f with
      | false =>
        have HX : Hid (res = (16, [], [])) := HE2'.out (hf2 rfl)
        have c0 := HX3.out.c0
        have c1 := HX3.out.c1
        have f0 := HX3.out.free 0
        have f1 := HX3.out.free 1
        clear hf1 hf2 HE2' HE3' HE4'
        go_wp2_with fail
        change bodyPost _ _ _ _ _ (put2 w3 w.heap.size (.string ⟨#[]⟩) (.slice none 0 0))
        have e6 := put2_box HX3.out (.string ⟨#[]⟩) (.slice none 0 0)
        have b6 := put2_below HB3.out (Nat.le_refl _) (.string ⟨#[]⟩) (.slice none 0 0)
        generalize put2 w3 w.heap.size (.string ⟨#[]⟩) (.slice none 0 0) = W6 at *
        exact bodyPost_ret (v := .tuple #[.agg #[.string ⟨#[]⟩, .slice none 0 0], .int .i64 16]) (by simp [results, Tryz.results8, go_sem, e6.c0, e6.c1]) rfl ⟨by rw [HX.out]; exact ChkP.err, b6⟩
      | true =>
        have hcut := hf1 rfl
        obtain ⟨pa, pb, pc, hpt, hsd, hd64, htt, hps⟩ := cut_some hcut
        have hsl : said.length + d.length = t.length := by rw [htt, List.length_append]
        have HSg : Hid (∀ w1, Below w.heap.size w w1 → Calls Tryz.prog 17 #[.string (Ba key), .string (Ba said)] w1 fun e w' => e = .returned (.string (Ba (signP key said))) ∧ Below w1.heap.size w1 w') := fun w1 hb =>
          sign_any key said w1 hk (by unfold maxLen; omega) (HTk.out.below hb).cub
        have hbq := ba_beq d (signP key said)
        have HRdc : Hid (∀ w1, Below w.heap.size w w1 → Calls Tryz.prog 24 #[.string (Ba said)] w1 fun e w' => ReadP w1.heap.size said e w' ∧ Below w1.heap.size w1 w') := fun w1 hb =>
          read_any said pa pb pc w1 hps (by omega) (HTk.out.below hb)
        by_cases hdd : d = signP key said
        · have HR4 : Hid (_) := HE4'.out said d hcut hdd
          rw [decide_eq_true hdd] at hbq
          clear hf1 hf2 HE2' HE3' HE4' hcut hpt hsd htt hps hdd
          generalize Ba (signP key said) = ys at *
          generalize Ba d = yd at *
          generalize hyy : Ba said = yy at *
          go_wp2_with fail
          refine Calls.mono (HSg.out _ HB3.out) ?_
          rintro e w4 ⟨rfl, b⟩
          have HB4 : Hid (Below w.heap.size w w4) := HB3.out.trans (b.mono HB3.out.size)
          have HX4 : Hid (Bx2 w4 w.heap.size (.string ⟨#[]⟩) (.slice none 0 0) 24) := HX3.out.below b
          clear b
          go_wp2_with fail
          refine Calls.mono (HRdc.out _ HB4.out) ?_
          rintro e w5 ⟨hrd, b⟩
          have HB5 : Hid (Below w.heap.size w w5) := HB4.out.trans (b.mono HB4.out.size)
          have HX5 : Hid (Bx2 w5 w.heap.size (.string ⟨#[]⟩) (.slice none 0 0) 24) := HX4.out.below b
          have hlt4 : w.heap.size < w4.heap.size := HX4.out.lt
          clear b
          rcases hrd with ⟨hnone, rn, rfl⟩ | ⟨n, gs, u, g, cap, hsome, rfl, hown⟩
          · have HX : Hid (res = (16, [], [])) := by show _ = _; rw [HR4.out, hnone]
            have HB6 : Hid (Below w.heap.size w (w5.alloc (.cells #[.string ⟨#[]⟩, .slice none 0 0] 24))) := HB5.out.alloc HB5.out.size _
            have HX6 : Hid (Bx2 (w5.alloc (.cells #[.string ⟨#[]⟩, .slice none 0 0] 24)) w.heap.size (.string ⟨#[]⟩) (.slice none 0 0) 24) := HX5.out.below ((Below.refl _ _).alloc (Nat.le_refl _) _)
            have c0 := HX6.out.c0
            have c1 := HX6.out.c1
            have f0 := HX6.out.free 0
            have f1 := HX6.out.free 1
            clear HR4 hnone
            go_wp2_with fail
            change bodyPost _ _ _ _ _ (put2 (w5.alloc (.cells #[.string ⟨#[]⟩, .slice none 0 0] 24)) w.heap.size (.string ⟨#[]⟩) (.slice none 0 0))
            have e6 := put2_box HX6.out (.string ⟨#[]⟩) (.slice none 0 0)
            have b6 := put2_below HB6.out (Nat.le_refl _) (.string ⟨#[]⟩) (.slice none 0 0)
            generalize put2 (w5.alloc (.cells #[.string ⟨#[]⟩, .slice none 0 0] 24)) w.heap.size (.string ⟨#[]⟩) (.slice none 0 0) = W6 at *
            exact bodyPost_ret (v := .tuple #[.agg #[.string ⟨#[]⟩, .slice none 0 0], .int .i64 16]) (by simp [results, Tryz.results8, go_sem, e6.c0, e6.c1]) rfl ⟨by rw [HX.out]; exact ChkP.err, b6⟩
          · have hof := hown
            have HR5 : Hid (res = if (u : Int) < now then (15, [], []) else (0, n, gs)) := by show _ = _; rw [HR4.out, hsome]
            have HO : Hid (OwnN w4.heap.size w5 (.slice (some ⟨g, 0, none⟩) gs.length cap) gs) := hown
            clear hof HR4 hsome hown
            generalize hyn : Ba n = yn at *
            obtain ⟨w6, hw6⟩ : ∃ w6, w6 = w5.alloc (.cells #[.string yn, .slice (some ⟨g, 0, none⟩) gs.length cap] 24) := ⟨_, rfl⟩
            have hb6 : Below w5.heap.size w5 w6 := by rw [hw6]; exact (Below.refl _ _).alloc (Nat.le_refl _) _
            have hu6 : Bx2 w6 w5.heap.size (.string yn) (.slice (some ⟨g, 0, none⟩) gs.length cap) 24 := by rw [hw6]; exact bx2_new _ _ _ _
            have HB6 : Hid (Below w.heap.size w w6) := HB5.out.trans (hb6.mono HB5.out.size)
            have HX6 : Hid (Bx2 w6 w.heap.size (.string ⟨#[]⟩) (.slice none 0 0) 24) := HX5.out.below hb6
            have HO6 : Hid (OwnN w4.heap.size w6 (.slice (some ⟨g, 0, none⟩) gs.length cap) gs) := HO.out.below hb6
            have u0 := hu6.c0
            have u1 := hu6.c1
            have c0 := HX6.out.c0
            have c1 := HX6.out.c1
            have f0 := HX6.out.free 0
            have f1 := HX6.out.free 1
            clear hb6 hu6 HO
            subst hw6
            by_cases hnow : (u : Int) < now
            · have HX : Hid (res = (15, [], [])) := by show _ = _; rw [HR5.out, if_pos hnow]
              go_wp2_with fail
              change bodyPost _ _ _ _ _ (put2 (w5.alloc (.cells #[.string yn, .slice (some ⟨g, 0, none⟩) gs.length cap] 24)) w.heap.size (.string ⟨#[]⟩) (.slice none 0 0))
              have e6 := put2_box HX6.out (.string ⟨#[]⟩) (.slice none 0 0)
              have b6 := put2_below HB6.out (Nat.le_refl _) (.string ⟨#[]⟩) (.slice none 0 0)
              generalize put2 (w5.alloc (.cells #[.string yn, .slice (some ⟨g, 0, none⟩) gs.length cap] 24)) w.heap.size (.string ⟨#[]⟩) (.slice none 0 0) = W6 at *
              exact bodyPost_ret (v := .tuple #[.agg #[.string ⟨#[]⟩, .slice none 0 0], .int .i64 15]) (by simp [results, Tryz.results8, go_sem, e6.c0, e6.c1]) rfl ⟨by rw [HX.out]; exact ChkP.err, b6⟩
            · have HX : Hid (res = (0, n, gs)) := by show _ = _; rw [HR5.out, if_neg hnow]
              go_wp2_with fail
              change bodyPost _ _ _ _ _ (put2 (w5.alloc (.cells #[.string yn, .slice (some ⟨g, 0, none⟩) gs.length cap] 24)) w.heap.size (.string yn) (.slice (some ⟨g, 0, none⟩) gs.length cap))
              have e6 := put2_box HX6.out (.string yn) (.slice (some ⟨g, 0, none⟩) gs.length cap)
              have b6 := put2_below HB6.out (Nat.le_refl _) (.string yn) (.slice (some ⟨g, 0, none⟩) gs.length cap)
              have o6 : OwnN w4.heap.size (put2 (w5.alloc (.cells #[.string yn, .slice (some ⟨g, 0, none⟩) gs.length cap] 24)) w.heap.size (.string yn) (.slice (some ⟨g, 0, none⟩) gs.length cap)) (.slice (some ⟨g, 0, none⟩) gs.length cap) gs :=
                World.ownsRow.kept HO6.out (put2_grown _ _ _ _) (own_block HO6.out hlt4)
              generalize put2 (w5.alloc (.cells #[.string yn, .slice (some ⟨g, 0, none⟩) gs.length cap] 24)) w.heap.size (.string yn) (.slice (some ⟨g, 0, none⟩) gs.length cap) = W6 at *
              exact bodyPost_ret (v := .tuple #[.agg #[.string yn, .slice (some ⟨g, 0, none⟩) gs.length cap], .int .i64 0]) (by simp [results, Tryz.results8, go_sem, e6.c0, e6.c1]) rfl ⟨⟨_, by rw [HX.out, hyn], by rw [HX.out]; exact o6.strs⟩, b6⟩
        · have HX : Hid (res = (17, [], [])) := HE3'.out said d hcut hdd
          rw [decide_eq_false hdd] at hbq
          clear hf1 hf2 HE2' HE3' HE4' hcut hpt hsd htt hps hdd
          generalize Ba (signP key said) = ys at *
          generalize Ba d = yd at *
          generalize Ba said = yy at *
          go_wp2_with fail
          refine Calls.mono (HSg.out _ HB3.out) ?_
          rintro e w4 ⟨rfl, b⟩
          have HB4 : Hid (Below w.heap.size w w4) := HB3.out.trans (b.mono HB3.out.size)
          have HX4 : Hid (Bx2 w4 w.heap.size (.string ⟨#[]⟩) (.slice none 0 0) 24) := HX3.out.below b
          clear b
          have c0 := HX4.out.c0
          have c1 := HX4.out.c1
          have f0 := HX4.out.free 0
          have f1 := HX4.out.free 1
          go_wp2_with fail
          change bodyPost _ _ _ _ _ (put2 w4 w.heap.size (.string ⟨#[]⟩) (.slice none 0 0))
          have e6 := put2_box HX4.out (.string ⟨#[]⟩) (.slice none 0 0)
          have b6 := put2_below HB4.out (Nat.le_refl _) (.string ⟨#[]⟩) (.slice none 0 0)
          generalize put2 w4 w.heap.size (.string ⟨#[]⟩) (.slice none 0 0) = W6 at *
          exact bodyPost_ret (v := .tuple #[.agg #[.string ⟨#[]⟩, .slice none 0 0], .int .i64 17]) (by simp [results, Tryz.results8, go_sem, e6.c0, e6.c1]) rfl ⟨by rw [HX.out]; exact ChkP.err, b6⟩
end Go.Proofs.YtmbpjbghhimedaaGreatDoor
