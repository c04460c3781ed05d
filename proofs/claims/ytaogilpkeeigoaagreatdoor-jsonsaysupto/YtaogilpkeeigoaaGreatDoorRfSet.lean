/- Contract over this translation of the reference's Set: a field is put. -/
import Derived.Test.YtaogilpkeeigoaaGreatDoorRfJoin
import Derived.Test.YtaogilpkeeigoaaGreatDoorRfOrd
import Derived.Deep.CutRange
import Derived.Laws.Cover1
import Derived.OwnWalk
namespace Go.Proofs.YtaogilpkeeigoaaGreatDoor
open Go.RowKit
set_option linter.unusedVariables false
set_option linter.unusedSimpArgs false
set_option maxRecDepth 100000 in
set_option maxHeartbeats 40000000 in
theorem rfset_any (av : Nat → Prop) {n : Nat} (fs : List (Bs × J n)) (nm : ByteArray) (j : J n) (vn vl vj : Value) (w : World) (hN : RStrs av w (fs.map fun f => f.1) vn) (hL : RVals av w n (fs.map fun f => f.2) vl) (hJ : RSt av w n j vj) (hav : ∀ c, w.heap.size ≤ c → ¬ av c) (hfl : fs.length ≤ 1000000) :
    Calls Tryz.prog 56 #[rfV ⟨6, false, 0, []⟩ vn vl, .string nm, vj] w (SetPost av fs nm.data.toList j w) := by
  obtain ⟨iV, hiV, hzV0, hzV1, hzV2⟩ := info_parts info_V
  obtain ⟨iS, hiS, hzS0, hzS1, hzS2⟩ := info_parts info_text
  obtain ⟨pn, cn, rfl, hn1, hn2, hn3⟩ := hN.form
  obtain ⟨pl, cl, rfl, hl1, hl2, hl3⟩ := hL.form
  obtain ⟨nm1, l1, rfl⟩ := rst_form hJ
  obtain ⟨⟨p1, k1, c1, rfl⟩, p2, k2, c2, rfl⟩ := rst_sl hJ
  have HN3 : Hid (∀ (i : Nat) (f : Bs × J n), fs[i]? = some f → ∃ g, pn = some ⟨g, 0, none⟩ ∧ g < w.heap.size ∧ w.cell? ⟨g, i, none⟩ = some (.string ⟨f.1.toArray⟩)) := fun i f h => hn3 i f.1 (by rw [List.getElem?_map, h]; rfl)
  have HL3 : Hid (∀ (i : Nat) (f : Bs × J n), fs[i]? = some f → ∃ g nm' l', pl = some ⟨g, 0, none⟩ ∧ g < w.heap.size ∧ Six w g (i * 6) (headJ n f.2) nm' l' ∧ RSt av w n f.2 (rfV (headJ n f.2) nm' l')) := fun i f h => hl3 i f.2 (by rw [List.getElem?_map, h]; rfl)
  have HJ : Hid (RSt av w n j (rfV (headJ n j) (.slice p1 k1 c1) (.slice p2 k2 c2))) := hJ
  have HAv : Hid (∀ c, w.heap.size ≤ c → ¬ av c) := hav
  unfold rfV
  unfold maxLen at hn2 hl2
  rw [List.length_map] at hn1 hl1
  rw [List.length_map, List.length_map]
  obtain ⟨B, hB⟩ : ∃ B, B = w.heap.size := ⟨_, rfl⟩
  obtain ⟨w0, hw0⟩ : ∃ w0, w0 = (((w.alloc (.cells #[.int .i64 6, .bool false, .int .i64 0, .string ⟨#[]⟩, .slice pn fs.length cn, .slice pl fs.length cl] 25)).alloc (.cells #[.int .i64 (headJ n j).k, .bool (headJ n j).b, .int .i64 (headJ n j).i, .string ⟨(headJ n j).s.toArray⟩, .slice p1 k1 c1, .slice p2 k2 c2] 25)).alloc (.cells #[.int .i64 0, .bool false, .int .i64 0, .string ⟨#[]⟩, .slice none 0 0, .slice none 0 0] 25)).alloc (.cells #[.int .i64 6, .bool false, .int .i64 0, .string ⟨#[]⟩, .slice none 0 0, .slice none 0 0] 25) := ⟨_, rfl⟩
  have hx0 : Box (w.alloc (.cells #[.int .i64 6, .bool false, .int .i64 0, .string ⟨#[]⟩, .slice pn fs.length cn, .slice pl fs.length cl] 25)) B ⟨6, false, 0, []⟩ (.slice pn fs.length cn) (.slice pl fs.length cl) := by rw [hB]; exact box_new w ⟨6, false, 0, []⟩ _ _
  have hx1 : Box ((w.alloc (.cells #[.int .i64 6, .bool false, .int .i64 0, .string ⟨#[]⟩, .slice pn fs.length cn, .slice pl fs.length cl] 25)).alloc (.cells #[.int .i64 (headJ n j).k, .bool (headJ n j).b, .int .i64 (headJ n j).i, .string ⟨(headJ n j).s.toArray⟩, .slice p1 k1 c1, .slice p2 k2 c2] 25)) (B + 1) (headJ n j) (.slice p1 k1 c1) (.slice p2 k2 c2) := by
    have := box_new (w.alloc (.cells #[.int .i64 6, .bool false, .int .i64 0, .string ⟨#[]⟩, .slice pn fs.length cn, .slice pl fs.length cl] 25)) (headJ n j) (.slice p1 k1 c1) (.slice p2 k2 c2)
    rw [hB]
    simpa using this
  have hx2 : Box (((w.alloc (.cells #[.int .i64 6, .bool false, .int .i64 0, .string ⟨#[]⟩, .slice pn fs.length cn, .slice pl fs.length cl] 25)).alloc (.cells #[.int .i64 (headJ n j).k, .bool (headJ n j).b, .int .i64 (headJ n j).i, .string ⟨(headJ n j).s.toArray⟩, .slice p1 k1 c1, .slice p2 k2 c2] 25)).alloc (.cells #[.int .i64 0, .bool false, .int .i64 0, .string ⟨#[]⟩, .slice none 0 0, .slice none 0 0] 25)) (B + 1 + 1) ⟨0, false, 0, []⟩ (.slice none 0 0) (.slice none 0 0) := by
    have := box_new ((w.alloc (.cells #[.int .i64 6, .bool false, .int .i64 0, .string ⟨#[]⟩, .slice pn fs.length cn, .slice pl fs.length cl] 25)).alloc (.cells #[.int .i64 (headJ n j).k, .bool (headJ n j).b, .int .i64 (headJ n j).i, .string ⟨(headJ n j).s.toArray⟩, .slice p1 k1 c1, .slice p2 k2 c2] 25)) ⟨0, false, 0, []⟩ (.slice none 0 0) (.slice none 0 0)
    rw [hB]
    simpa using this
  have hx3 : Box w0 (B + 1 + 1 + 1) ⟨6, false, 0, []⟩ (.slice none 0 0) (.slice none 0 0) := by
    have := box_new (((w.alloc (.cells #[.int .i64 6, .bool false, .int .i64 0, .string ⟨#[]⟩, .slice pn fs.length cn, .slice pl fs.length cl] 25)).alloc (.cells #[.int .i64 (headJ n j).k, .bool (headJ n j).b, .int .i64 (headJ n j).i, .string ⟨(headJ n j).s.toArray⟩, .slice p1 k1 c1, .slice p2 k2 c2] 25)).alloc (.cells #[.int .i64 0, .bool false, .int .i64 0, .string ⟨#[]⟩, .slice none 0 0, .slice none 0 0] 25)) ⟨6, false, 0, []⟩ (.slice none 0 0) (.slice none 0 0)
    rw [hw0, hB]
    simpa using this
  have HS0 : Hid (SetAt av w B pn pl fs.length cn cl (headJ n j) p1 p2 k1 c1 k2 c2 ([] : List (Bs × J n)) w0 (.slice none 0 0) (.slice none 0 0)) := by
    refine ⟨OwnT.nil _ _, OwnV.nil _ _ _ _, ?_, ?_, ?_, hx3, ?_, ?_⟩
    · rw [hw0]; exact ((hx0.alloc _).alloc _).alloc _
    · rw [hw0]; exact (hx1.alloc _).alloc _
    · rw [hw0]; exact hx2.alloc _
    · rw [hw0, hB]; exact ((((Below.refl _ _).alloc (Nat.le_refl _) _).alloc (by simp) _).alloc (by simp; omega) _).alloc (by simp; omega) _
    · rw [hw0, hB]; simp
  have HW0 : Hid (w0 = (((w.alloc (.cells #[.int .i64 6, .bool false, .int .i64 0, .string ⟨#[]⟩, .slice pn fs.length cn, .slice pl fs.length cl] 25)).alloc (.cells #[.int .i64 (headJ n j).k, .bool (headJ n j).b, .int .i64 (headJ n j).i, .string ⟨(headJ n j).s.toArray⟩, .slice p1 k1 c1, .slice p2 k2 c2] 25)).alloc (.cells #[.int .i64 0, .bool false, .int .i64 0, .string ⟨#[]⟩, .slice none 0 0, .slice none 0 0] 25)).alloc (.cells #[.int .i64 6, .bool false, .int .i64 0, .string ⟨#[]⟩, .slice none 0 0, .slice none 0 0] 25)) := hw0
  have HBe : Hid (B = w.heap.size) := hB
  clear hw0 hB hN hL hJ hav hn3 hl3 hx0 hx1 hx2 hx3
  go_enter Tryz.func56, Tryz.ntmps56
  go_wp2
  rw [← HBe.out, ← HW0.out]
  go_loopw [8, 15] (fun z i wr => SetLoop av w B pn pl cn cl p1 p2 k1 c1 k2 c2 fs nm.data.toList j z i wr) (fun _ i _ => fs.length - (intOf i).toNat)
  case atStart => exact ⟨0, false, [], _, _, Nat.zero_le _, rfl, rfl, by rw [List.drop_zero]; rfl, by simp, HS0.out⟩
  case round =>
    obtain ⟨k, q, done, vn, vl, hk, rfl, rfl, hset, hdl, hS⟩ := hrel
    have HF : Hid (setF fs nm.data.toList j = done ++ setGo nm.data.toList j q (fs.drop k)) := hset
    have HS : Hid (SetAt av w B pn pl fs.length cn cl (headJ n j) p1 p2 k1 c1 k2 c2 done wr vn vl) := hS
    clear hset hS HS0 HW0
    by_cases hlt : k < fs.length
    · obtain ⟨f, hfk⟩ : ∃ f, fs[k]? = some f := ⟨fs[k], List.getElem?_eq_getElem hlt⟩
      obtain ⟨g, rfl, hg, hgc⟩ := HN3.out k f hfk
      have nn : wr.cell? ⟨g, k, none⟩ = some (.string ⟨f.1.toArray⟩) := (HS.out.below.cell (p := ⟨g, k, none⟩) (by rw [HBe.out]; exact hg)).trans hgc
      have HK : Hid (fs[k]? = some f) := hfk
      clear hgc hfk
      have hbe : ((⟨f.1.toArray⟩ : ByteArray).toList == nm.toList) = decide (f.1 = nm.data.toList) := by
        rw [ByteArray.toList_eq, ByteArray.toList_eq, Bool.eq_iff_iff, beq_iff_eq, decide_eq_true_iff]
      have hlb : less f.1 nm.data.toList = Op.bytesLess (⟨f.1.toArray⟩ : ByteArray).toList nm.toList := by
        rw [ByteArray.toList_eq, ByteArray.toList_eq, less_bytes']
      have hlb2 : less f.1 nm.data.toList = Op.bytesLess (⟨f.1.toArray⟩ : ByteArray).data.toList nm.data.toList := by
        rw [less_bytes']
      obtain ⟨fb, hfb⟩ : ∃ fb, fb = (⟨f.1.toArray⟩ : ByteArray) := ⟨_, rfl⟩
      rw [← hfb] at nn hbe hlb hlb2
      have HFb : Hid (fb = (⟨f.1.toArray⟩ : ByteArray)) := hfb
      have HBE : Hid ((fb.toList == nm.toList) = decide (f.1 = nm.data.toList)) := hbe
      clear hfb hbe
      have HG : Hid (setGo nm.data.toList j q (fs.drop k) = (if q = false ∧ less f.1 nm.data.toList = false then [(nm.data.toList, j)] else []) ++ ((if f.1 = nm.data.toList then [] else [f]) ++ setGo nm.data.toList j (q || !less f.1 nm.data.toList) (fs.drop (k + 1)))) := by
        show setGo _ _ _ _ = _
        have hk' : k < fs.length := hlt
        have hfe : fs[k] = f := by have := HK.out; rw [List.getElem?_eq_getElem hk'] at this; exact Option.some.inj this
        rw [List.drop_eq_getElem_cons hk', hfe]
        rfl
      go_upto_region 6 with fail
      go_cut [26] from 16 to 58 (fun c wc => c = .bool (!q && !less f.1 nm.data.toList) ∧ wc = wr)
      case first =>
        cases q with
        | true =>
          go_wp2_with fail
          go_meet
          case rel => exact ⟨rfl, rfl⟩
        | false =>
          go_wp2_with fail
          go_meet
          case rel => exact ⟨by rw [hlb]; rfl, rfl⟩
      obtain ⟨h26, hwc⟩ := hcut
      have hwc' := hwc.symm
      subst hwc' h26
      clear hlb hlb2 hwc
      go_upto_if 26 with fail
      go_cut [8] from 16 to 58 (fun z wc => ∃ (q1 : Bool) (done1 : List (Bs × J n)) (vn1 vl1 : Value), z = .bool q1 ∧ setF fs nm.data.toList j = done1 ++ ((if f.1 = nm.data.toList then [] else [f]) ++ setGo nm.data.toList j q1 (fs.drop (k + 1))) ∧ done1.length ≤ k + (if q1 then 1 else 0) ∧ SetAt av w B (some ⟨g, 0, none⟩) pl fs.length cn cl (headJ n j) p1 p2 k1 c1 k2 c2 done1 wc vn1 vl1)
      case first =>
        cases hc : (!q && !less f.1 nm.data.toList) with
        | false =>
          have HC : Hid (setF fs nm.data.toList j = done ++ ((if f.1 = nm.data.toList then [] else [f]) ++ setGo nm.data.toList j q (fs.drop (k + 1)))) := by
            show setF _ _ _ = _
            rw [HF.out, HG.out, if_neg (by rintro ⟨h1, h2⟩; rw [h1, h2] at hc; simp at hc)]
            have e : (q || !less f.1 nm.data.toList) = q := by cases q <;> simp at hc ⊢; exact hc
            rw [e]
            rfl
          clear hc
          go_wp2_with fail
          go_meet
          case rel => exact ⟨q, done, _, _, rfl, HC.out, hdl, HS.out⟩
        | true =>
          have hq0 : q = false := by cases q <;> simp at hc ⊢
          have hl0 : less f.1 nm.data.toList = false := by cases q <;> simp at hc ⊢; exact hc
          have HC : Hid (setF fs nm.data.toList j = (done ++ [(nm.data.toList, j)]) ++ ((if f.1 = nm.data.toList then [] else [f]) ++ setGo nm.data.toList j true (fs.drop (k + 1)))) := by
            show setF _ _ _ = _
            rw [HF.out, HG.out, if_pos ⟨hq0, hl0⟩, hq0, hl0, List.append_assoc]
            rfl
          have hdl3 : done.length ≤ k := by rw [hq0] at hdl; simpa using hdl
          clear hc hl0
          obtain ⟨us, hul, huo, hue⟩ := HS.out.vals
          obtain ⟨pa, ca, hva⟩ := HS.out.names.shape
          obtain ⟨pb, cb, hvb⟩ := HS.out.vals.shape
          rw [List.length_map] at hva hvb
          subst hva hvb
          have HNm : Hid (wr.drew.ownsRow (B + 4) 9 1 (.slice pa done.length ca) done.length ((done.map fun f => f.1).map fun s => .string ⟨s.toArray⟩)) := by
            have h9 := World.ownsRow.drew HS.out.names
            rw [List.length_map] at h9
            exact h9
          have HUo : Hid (wr.drew.ownsRow (B + 4) 25 6 (.slice pb done.length cb) done.length (us.flatMap six3)) := by
            have h9 := World.ownsRow.drew huo
            rw [List.length_map] at h9
            exact h9
          have HUe : Hid (∀ (i : Nat) (x : J n) (u : Six3), (done.map fun f => f.2)[i]? = some x → us[i]? = some u → u.1 = headJ n x ∧ RSt (fun c => (av c ∨ B ≤ c) ∨ (Value.slice pb done.length cb).ownBlock = some c) wr n x (rfV u.1 u.2.1 u.2.2)) := hue
          have HApp : Hid ((Value.slice pb done.length cb).ownBlock = none ∨ (Value.slice pb done.length cb).ownBlock ≠ (Value.slice pa done.length ca).ownBlock) := by
            rcases ownT_apart HS.out.names HS.out.vals with h | h
            · exact by rw [h]; exact own_none _
            · exact Or.inr (fun e => h e.symm)
          have HNa : Hid (∀ k, k < B + 4 → some k ≠ (Value.slice pa done.length ca).ownBlock) := fun k hk e => by have := (HS.out.names.row k e.symm).1; omega
          have HNb : Hid (∀ k, k < B + 4 → some k ≠ (Value.slice pb done.length cb).ownBlock) := fun k hk e => by have := (HS.out.vals.row k e.symm).1; omega
          have HNw : Hid (∀ k, wr.heap.size ≤ k → some k ≠ (Value.slice pa done.length ca).ownBlock) := fun k hk e => by have := (HS.out.names.row k e.symm).2; omega
          have hwB := HS.out.size
          have hdl2 : done.length ≤ 1000001 := by split at hdl <;> omega
          have hmx : done.length + 1 ≤ maxLen := by unfold maxLen; omega
          have hby1 : (done.length + 1) * 16 ≤ 140737488355328 := by omega
          have hmx2 : done.length + 1 ≤ maxLen := by unfold maxLen; omega
          have hby2 : (done.length + 1) * 88 ≤ 140737488355328 := by omega
          clear huo hue
          have HXx : Hid (RSt (fun c => av c ∨ B ≤ c) wr n j (rfV (headJ n j) (.slice p1 k1 c1) (.slice p2 k2 c2))) := (HJ.out.wide (fun c e => by rcases e with e | e; exact Or.inl e; exact Or.inr (by have := HBe.out; omega))).below (by have := HS.out.below; rw [HBe.out] at this; exact this)
          go_wp2_with fail
          refine M_begin 11 15 (fun w' => Box w' (B + 1 + 1 + 1) ⟨6, false, 0, []⟩ (.slice pa done.length ca) (.slice pb done.length cb) ∧ Box w' (B + 1) (headJ n j) (.slice p1 k1 c1) (.slice p2 k2 c2)) (by kernel_rfl) rfl ?_
          have hHeld : (fun w' => Box w' (B + 1 + 1 + 1) ⟨6, false, 0, []⟩ (.slice pa done.length ca) (.slice pb done.length cb) ∧ Box w' (B + 1) (headJ n j) (.slice p1 k1 c1) (.slice p2 k2 c2)) wr.drew := ⟨HS.out.b3, HS.out.b1⟩
          refine M_take 0 (oi := { dst := some 27, op := Op.fieldAddr 25 (Operand.tmp 7) 4, type := 0, pos := "json.go:114", after := #[], guard := none }) (v := ?vv1) rfl (by kernel_rfl) (by kernel_rfl) (by kernel_rfl) (by kernel_rfl) (by kernel_rfl) (by decide) (by decide) (by kernel_rfl) (fun _ _ _ h => h) hHeld (Or.inl ⟨by rfl, ?hy1⟩) ?_
          case hy1 => (intro w' hSw; have r4 := hSw.1.c4; have r5 := hSw.1.c5; have s0 := hSw.2.c0; have s1 := hSw.2.c1; have s2 := hSw.2.c2; have s3 := hSw.2.c3; have s4 := hSw.2.c4; have s5 := hSw.2.c5; go_simp; try (with_reducible rfl))
          try simp only [Act.put, List.setIfInBounds_toArray, List.set_cons_zero, List.set_cons_succ]
          refine M_take 1 (oi := { dst := some 28, op := Op.load 22 (Operand.tmp 27), type := 22, pos := "json.go:114", after := #[{ on := 0, ground := Ground.data }], guard := none }) (v := ?vv2) rfl (by kernel_rfl) (by kernel_rfl) (by kernel_rfl) (by kernel_rfl) (by kernel_rfl) (by decide) (by decide) (by kernel_rfl) (fun _ _ _ h => h) hHeld (Or.inl ⟨by rfl, ?hy2⟩) ?_
          case hy2 => (intro w' hSw; have r4 := hSw.1.c4; have r5 := hSw.1.c5; have s0 := hSw.2.c0; have s1 := hSw.2.c1; have s2 := hSw.2.c2; have s3 := hSw.2.c3; have s4 := hSw.2.c4; have s5 := hSw.2.c5; go_simp; try (with_reducible rfl))
          try simp only [Act.put, List.setIfInBounds_toArray, List.set_cons_zero, List.set_cons_succ]
          refine M_take 2 (oi := { dst := some 29, op := Op.move (Operand.tmp 1), type := 9, pos := "json.go:114", after := #[], guard := none }) (v := ?vv3) rfl (by kernel_rfl) (by kernel_rfl) (by kernel_rfl) (by kernel_rfl) (by kernel_rfl) (by decide) (by decide) (by kernel_rfl) (fun _ _ _ h => h) hHeld (Or.inl ⟨by rfl, ?hy3⟩) ?_
          case hy3 => (intro w' hSw; have r4 := hSw.1.c4; have r5 := hSw.1.c5; have s0 := hSw.2.c0; have s1 := hSw.2.c1; have s2 := hSw.2.c2; have s3 := hSw.2.c3; have s4 := hSw.2.c4; have s5 := hSw.2.c5; go_simp; try (with_reducible rfl))
          try simp only [Act.put, List.setIfInBounds_toArray, List.set_cons_zero, List.set_cons_succ]
          refine M_take 5 (oi := { dst := some 32, op := Op.fieldAddr 25 (Operand.tmp 7) 5, type := 0, pos := "json.go:114", after := #[], guard := none }) (v := ?vv4) rfl (by kernel_rfl) (by kernel_rfl) (by kernel_rfl) (by kernel_rfl) (by kernel_rfl) (by decide) (by decide) (by kernel_rfl) (fun _ _ _ h => h) hHeld (Or.inl ⟨by rfl, ?hy4⟩) ?_
          case hy4 => (intro w' hSw; have r4 := hSw.1.c4; have r5 := hSw.1.c5; have s0 := hSw.2.c0; have s1 := hSw.2.c1; have s2 := hSw.2.c2; have s3 := hSw.2.c3; have s4 := hSw.2.c4; have s5 := hSw.2.c5; go_simp; try (with_reducible rfl))
          try simp only [Act.put, List.setIfInBounds_toArray, List.set_cons_zero, List.set_cons_succ]
          refine M_take 6 (oi := { dst := some 33, op := Op.load 23 (Operand.tmp 32), type := 23, pos := "json.go:114", after := #[{ on := 5, ground := Ground.data }], guard := none }) (v := ?vv5) rfl (by kernel_rfl) (by kernel_rfl) (by kernel_rfl) (by kernel_rfl) (by kernel_rfl) (by decide) (by decide) (by kernel_rfl) (fun _ _ _ h => h) hHeld (Or.inl ⟨by rfl, ?hy5⟩) ?_
          case hy5 => (intro w' hSw; have r4 := hSw.1.c4; have r5 := hSw.1.c5; have s0 := hSw.2.c0; have s1 := hSw.2.c1; have s2 := hSw.2.c2; have s3 := hSw.2.c3; have s4 := hSw.2.c4; have s5 := hSw.2.c5; go_simp; try (with_reducible rfl))
          try simp only [Act.put, List.setIfInBounds_toArray, List.set_cons_zero, List.set_cons_succ]
          refine M_take 7 (oi := { dst := some 34, op := Op.load 25 (Operand.tmp 5), type := 25, pos := "json.go:114", after := #[], guard := none }) (v := ?vv6) rfl (by kernel_rfl) (by kernel_rfl) (by kernel_rfl) (by kernel_rfl) (by kernel_rfl) (by decide) (by decide) (by kernel_rfl) (fun _ _ _ h => h) hHeld (Or.inl ⟨by rfl, ?hy6⟩) ?_
          case hy6 => (intro w' hSw; have r4 := hSw.1.c4; have r5 := hSw.1.c5; have s0 := hSw.2.c0; have s1 := hSw.2.c1; have s2 := hSw.2.c2; have s3 := hSw.2.c3; have s4 := hSw.2.c4; have s5 := hSw.2.c5; go_simp; try (with_reducible rfl))
          try simp only [Act.put, List.setIfInBounds_toArray, List.set_cons_zero, List.set_cons_succ]
          refine M_ready [3, 8] (by kernel_rfl) (by decide) ?_
          refine AllM.cons (i := 3) (o := { dst := some 30, op := Op.buildSlice 22 1 #[(0, Operand.tmp 29)], type := 22, pos := "json.go:114", after := #[{ on := 2, ground := Ground.data }], guard := none }) rfl (fun K hK => ?_) ?_
          · go_simp
            refine hK.out _ _ ⟨hHeld.1.alloc _, hHeld.2.alloc _⟩ (fun hHeld => ?_)
            clear hK K
            try simp only [Act.put, List.setIfInBounds_toArray, List.set_cons_zero, List.set_cons_succ]
            refine M_ready [4, 8] (by kernel_rfl) (by decide) ?_
            refine AllM.cons (i := 4) (o := { dst := some 31, op := Op.call { callee := Callee.builtin Builtin.append, args := #[Operand.tmp 28, Operand.tmp 30], argTypes := #[22, 22] }, type := 22, pos := "json.go:114", after := #[{ on := 1, ground := Ground.data }, { on := 3, ground := Ground.data }], guard := none }) rfl (fun K hK => ?_) ?_
            · refine step_append_lies _ rfl (.tmp 28) (.tmp 30) 22 rfl (B + 4) 9 iS (.string ⟨#[]⟩) 1 16 Tryz.underlying22 hiS hzS0 hzS1 hzS2 rfl (by decide) (.slice pa done.length ca) done.length ((done.map fun f => f.1).map fun s => .string ⟨s.toArray⟩) ?a7 ?b7 ?_ 1 1 [.string nm] ?c7 ?d7 ?e7 (text_one _) (by decide) ?f7 ?g7 ?h7 _ rfl ?_
              case a7 => rfl
              case c7 => rfl
              case d7 => rfl
              case b7 => first | exact World.ownsRow.alloc HNm.out _ | exact World.ownsRow.alloc (World.ownsRow.alloc HNm.out _) _
              case e7 => first | exact text_new _ _ | exact text_first _ _ _ | exact news_alloc (text_new _ _) | exact text_new2 _ _ _
              case f7 => exact hmx
              case g7 => exact hby1
              case h7 => (simp; omega)
              intro ga ca2 wa hownA hgrowA hatA hltA
              refine hK.out _ _ ⟨hHeld.1.grown hgrowA (HNa.out _ (by omega)), hHeld.2.grown hgrowA (HNa.out _ (by omega))⟩ (fun hHeld => ?_)
              clear hK K
              try simp only [Act.put, List.setIfInBounds_toArray, List.set_cons_zero, List.set_cons_succ]
              refine M_take 10 (oi := { dst := some 37, op := Op.fieldAddr 25 (Operand.tmp 7) 4, type := 0, pos := "json.go:114", after := #[{ on := 0, ground := Ground.phase }, { on := 1, ground := Ground.phase }, { on := 2, ground := Ground.phase }, { on := 3, ground := Ground.phase }, { on := 4, ground := Ground.phase }, { on := 5, ground := Ground.phase }, { on := 6, ground := Ground.phase }, { on := 7, ground := Ground.textOnly Departure.lateStores }, { on := 8, ground := Ground.textOnly Departure.lateStores }, { on := 9, ground := Ground.textOnly Departure.lateStoresUnsure }], guard := none }) (v := ?vv8) rfl (by kernel_rfl) (by kernel_rfl) (by kernel_rfl) (by kernel_rfl) (by kernel_rfl) (by decide) (by decide) (by kernel_rfl) (fun _ _ _ h => h) hHeld (Or.inl ⟨by rfl, ?hy8⟩) ?_
              case hy8 => (intro w' hSw; have r4 := hSw.1.c4; have r5 := hSw.1.c5; have s0 := hSw.2.c0; have s1 := hSw.2.c1; have s2 := hSw.2.c2; have s3 := hSw.2.c3; have s4 := hSw.2.c4; have s5 := hSw.2.c5; go_simp; try (with_reducible rfl))
              try simp only [Act.put, List.setIfInBounds_toArray, List.set_cons_zero, List.set_cons_succ]
              refine M_ready [8] (by kernel_rfl) (by decide) ?_
              refine AllM.cons (i := 8) (o := { dst := some 35, op := Op.buildSlice 23 1 #[(0, Operand.tmp 34)], type := 23, pos := "json.go:114", after := #[{ on := 7, ground := Ground.data }], guard := none }) rfl (fun K hK => ?_) ?_
              · go_simp
                refine hK.out _ _ ⟨hHeld.1.alloc _, hHeld.2.alloc _⟩ (fun hHeld => ?_)
                clear hK K
                try simp only [Act.put, List.setIfInBounds_toArray, List.set_cons_zero, List.set_cons_succ]
                refine M_ready [9] (by kernel_rfl) (by decide) ?_
                refine AllM.cons (i := 9) (o := { dst := some 36, op := Op.call { callee := Callee.builtin Builtin.append, args := #[Operand.tmp 33, Operand.tmp 35], argTypes := #[23, 23] }, type := 23, pos := "json.go:114", after := #[{ on := 6, ground := Ground.data }, { on := 8, ground := Ground.data }, { on := 4, ground := Ground.chain }], guard := none }) rfl (fun K hK => ?_) ?_
                · refine step_append_lies _ rfl (.tmp 33) (.tmp 35) 23 rfl (B + 4) 25 iV (.agg #[.int .i64 0, .bool false, .int .i64 0, .string ⟨#[]⟩, .slice none 0 0, .slice none 0 0]) 6 88 Tryz.underlying23 hiV hzV0 hzV1 hzV2 rfl (by decide) (.slice pb done.length cb) done.length (us.flatMap six3) ?a9 ?b9 ?_ 1 1 (six3 (headJ n j, .slice p1 k1 c1, .slice p2 k2 c2)) ?c9 ?d9 ?e9 (six_one wr _ _ _ _ _ _ _) (by decide) ?f9 ?g9 ?h9 _ rfl ?_
                  case a9 => rfl
                  case c9 => rfl
                  case d9 => rfl
                  case b9 => first | exact World.ownsRow.alloc (World.ownsRow.kept (World.ownsRow.alloc HUo.out _) hgrowA HApp.out) _ | exact World.ownsRow.kept (World.ownsRow.alloc (World.ownsRow.alloc HUo.out _) _) hgrowA HApp.out
                  case e9 => first | exact six_new _ _ _ _ | exact news_grown (six_new _ _ _ _) hgrowA (HNw.out _ (by simp)) | exact news_grown (news_alloc (six_new _ _ _ _)) hgrowA (HNw.out _ (by simp)) | exact news_grown (six_first _ _ _ _ _) hgrowA (HNw.out _ (by simp)) | exact news_grown (six_new2 _ _ _ _ _) hgrowA (HNw.out _ (by simp))
                  case f9 => exact hmx2
                  case g9 => exact hby2
                  case h9 => (have := hgrowA.size; simp at this; simp; omega)
                  intro gb cb2 wb hownB hgrowB hatB hltB
                  refine hK.out _ _ ⟨hHeld.1.grown hgrowB (HNb.out _ (by omega)), hHeld.2.grown hgrowB (HNb.out _ (by omega))⟩ (fun hHeld => ?_)
                  clear hK K
                  try simp only [Act.put, List.setIfInBounds_toArray, List.set_cons_zero, List.set_cons_succ]
                  refine M_tail [{ dst := none, op := Op.store 22 (Operand.tmp 37) (Operand.tmp 31), type := 0, pos := "json.go:114", after := #[{ on := 10, ground := Ground.data }, { on := 4, ground := Ground.data }, { on := 9, ground := Ground.chain }, { on := 0, ground := Ground.phase }, { on := 1, ground := Ground.phase }, { on := 2, ground := Ground.phase }, { on := 3, ground := Ground.phase }, { on := 4, ground := Ground.phase }, { on := 5, ground := Ground.phase }, { on := 6, ground := Ground.phase }, { on := 7, ground := Ground.textOnly Departure.lateStores }, { on := 8, ground := Ground.textOnly Departure.lateStores }, { on := 9, ground := Ground.textOnly Departure.lateStoresUnsure }], guard := none }, { dst := some 38, op := Op.fieldAddr 25 (Operand.tmp 7) 5, type := 0, pos := "json.go:114", after := #[{ on := 0, ground := Ground.phase }, { on := 1, ground := Ground.phase }, { on := 2, ground := Ground.phase }, { on := 3, ground := Ground.phase }, { on := 4, ground := Ground.phase }, { on := 5, ground := Ground.phase }, { on := 6, ground := Ground.phase }, { on := 7, ground := Ground.phase }, { on := 8, ground := Ground.phase }, { on := 9, ground := Ground.phase }, { on := 10, ground := Ground.phase }, { on := 11, ground := Ground.phase }], guard := none }, { dst := none, op := Op.store 23 (Operand.tmp 38) (Operand.tmp 36), type := 0, pos := "json.go:114", after := #[{ on := 12, ground := Ground.data }, { on := 9, ground := Ground.data }, { on := 11, ground := Ground.chain }, { on := 0, ground := Ground.phase }, { on := 1, ground := Ground.phase }, { on := 2, ground := Ground.phase }, { on := 3, ground := Ground.phase }, { on := 4, ground := Ground.phase }, { on := 5, ground := Ground.phase }, { on := 6, ground := Ground.phase }, { on := 7, ground := Ground.phase }, { on := 8, ground := Ground.phase }, { on := 9, ground := Ground.phase }, { on := 10, ground := Ground.phase }, { on := 11, ground := Ground.phase }], guard := none }, { dst := some 8, op := Op.assign (Operand.const (Value.bool true)), type := 4, pos := "json.go:114", after := #[{ on := 13, ground := Ground.chain }, { on := 0, ground := Ground.phase }, { on := 1, ground := Ground.phase }, { on := 2, ground := Ground.phase }, { on := 3, ground := Ground.phase }, { on := 4, ground := Ground.phase }, { on := 5, ground := Ground.phase }, { on := 6, ground := Ground.phase }, { on := 7, ground := Ground.phase }, { on := 8, ground := Ground.phase }, { on := 9, ground := Ground.phase }, { on := 10, ground := Ground.phase }, { on := 11, ground := Ground.phase }, { on := 12, ground := Ground.phase }, { on := 13, ground := Ground.phase }], guard := none }] rfl (by kernel_rfl) (by kernel_rfl) ?_
                  have o4 := hHeld.1.c4
                  have o5 := hHeld.1.c5
                  have x4 := hHeld.1.free 4
                  have x5 := hHeld.1.free 5
                  clear hHeld
                  go_wp2_with fail
                  go_meet
                  case rel => exact ⟨true, done ++ [(nm.data.toList, j)], _, _, rfl, HC.out, by simp at hdl3 ⊢; omega, set_join HS.out HXx.out hul HUe.out (by first | exact grown_one _ _ | exact grown_two _ _ _) hgrowA hownA (nm_eta nm) (by first | exact grown_refl _ | exact World.grownBy_alloc _ _ _) hgrowB hownB (by rcases hatB with h | h; exact Or.inl h; exact Or.inr (by first | omega | (simp; omega) | (simp at h ⊢; omega)))⟩
                exact AllM.nil
              exact AllM.nil
            refine AllM.cons (i := 8) (o := { dst := some 35, op := Op.buildSlice 23 1 #[(0, Operand.tmp 34)], type := 23, pos := "json.go:114", after := #[{ on := 7, ground := Ground.data }], guard := none }) rfl (fun K hK => ?_) ?_
            · go_simp
              refine hK.out _ _ ⟨hHeld.1.alloc _, hHeld.2.alloc _⟩ (fun hHeld => ?_)
              clear hK K
              try simp only [Act.put, List.setIfInBounds_toArray, List.set_cons_zero, List.set_cons_succ]
              refine M_ready [4] (by kernel_rfl) (by decide) ?_
              refine AllM.cons (i := 4) (o := { dst := some 31, op := Op.call { callee := Callee.builtin Builtin.append, args := #[Operand.tmp 28, Operand.tmp 30], argTypes := #[22, 22] }, type := 22, pos := "json.go:114", after := #[{ on := 1, ground := Ground.data }, { on := 3, ground := Ground.data }], guard := none }) rfl (fun K hK => ?_) ?_
              · refine step_append_lies _ rfl (.tmp 28) (.tmp 30) 22 rfl (B + 4) 9 iS (.string ⟨#[]⟩) 1 16 Tryz.underlying22 hiS hzS0 hzS1 hzS2 rfl (by decide) (.slice pa done.length ca) done.length ((done.map fun f => f.1).map fun s => .string ⟨s.toArray⟩) ?a10 ?b10 ?_ 1 1 [.string nm] ?c10 ?d10 ?e10 (text_one _) (by decide) ?f10 ?g10 ?h10 _ rfl ?_
                case a10 => rfl
                case c10 => rfl
                case d10 => rfl
                case b10 => first | exact World.ownsRow.alloc HNm.out _ | exact World.ownsRow.alloc (World.ownsRow.alloc HNm.out _) _
                case e10 => first | exact text_new _ _ | exact text_first _ _ _ | exact news_alloc (text_new _ _) | exact text_new2 _ _ _
                case f10 => exact hmx
                case g10 => exact hby1
                case h10 => (simp; omega)
                intro ga ca2 wa hownA hgrowA hatA hltA
                refine hK.out _ _ ⟨hHeld.1.grown hgrowA (HNa.out _ (by omega)), hHeld.2.grown hgrowA (HNa.out _ (by omega))⟩ (fun hHeld => ?_)
                clear hK K
                try simp only [Act.put, List.setIfInBounds_toArray, List.set_cons_zero, List.set_cons_succ]
                refine M_take 10 (oi := { dst := some 37, op := Op.fieldAddr 25 (Operand.tmp 7) 4, type := 0, pos := "json.go:114", after := #[{ on := 0, ground := Ground.phase }, { on := 1, ground := Ground.phase }, { on := 2, ground := Ground.phase }, { on := 3, ground := Ground.phase }, { on := 4, ground := Ground.phase }, { on := 5, ground := Ground.phase }, { on := 6, ground := Ground.phase }, { on := 7, ground := Ground.textOnly Departure.lateStores }, { on := 8, ground := Ground.textOnly Departure.lateStores }, { on := 9, ground := Ground.textOnly Departure.lateStoresUnsure }], guard := none }) (v := ?vv11) rfl (by kernel_rfl) (by kernel_rfl) (by kernel_rfl) (by kernel_rfl) (by kernel_rfl) (by decide) (by decide) (by kernel_rfl) (fun _ _ _ h => h) hHeld (Or.inl ⟨by rfl, ?hy11⟩) ?_
                case hy11 => (intro w' hSw; have r4 := hSw.1.c4; have r5 := hSw.1.c5; have s0 := hSw.2.c0; have s1 := hSw.2.c1; have s2 := hSw.2.c2; have s3 := hSw.2.c3; have s4 := hSw.2.c4; have s5 := hSw.2.c5; go_simp; try (with_reducible rfl))
                try simp only [Act.put, List.setIfInBounds_toArray, List.set_cons_zero, List.set_cons_succ]
                refine M_ready [9] (by kernel_rfl) (by decide) ?_
                refine AllM.cons (i := 9) (o := { dst := some 36, op := Op.call { callee := Callee.builtin Builtin.append, args := #[Operand.tmp 33, Operand.tmp 35], argTypes := #[23, 23] }, type := 23, pos := "json.go:114", after := #[{ on := 6, ground := Ground.data }, { on := 8, ground := Ground.data }, { on := 4, ground := Ground.chain }], guard := none }) rfl (fun K hK => ?_) ?_
                · refine step_append_lies _ rfl (.tmp 33) (.tmp 35) 23 rfl (B + 4) 25 iV (.agg #[.int .i64 0, .bool false, .int .i64 0, .string ⟨#[]⟩, .slice none 0 0, .slice none 0 0]) 6 88 Tryz.underlying23 hiV hzV0 hzV1 hzV2 rfl (by decide) (.slice pb done.length cb) done.length (us.flatMap six3) ?a12 ?b12 ?_ 1 1 (six3 (headJ n j, .slice p1 k1 c1, .slice p2 k2 c2)) ?c12 ?d12 ?e12 (six_one wr _ _ _ _ _ _ _) (by decide) ?f12 ?g12 ?h12 _ rfl ?_
                  case a12 => rfl
                  case c12 => rfl
                  case d12 => rfl
                  case b12 => first | exact World.ownsRow.alloc (World.ownsRow.kept (World.ownsRow.alloc HUo.out _) hgrowA HApp.out) _ | exact World.ownsRow.kept (World.ownsRow.alloc (World.ownsRow.alloc HUo.out _) _) hgrowA HApp.out
                  case e12 => first | exact six_new _ _ _ _ | exact news_grown (six_new _ _ _ _) hgrowA (HNw.out _ (by simp)) | exact news_grown (news_alloc (six_new _ _ _ _)) hgrowA (HNw.out _ (by simp)) | exact news_grown (six_first _ _ _ _ _) hgrowA (HNw.out _ (by simp)) | exact news_grown (six_new2 _ _ _ _ _) hgrowA (HNw.out _ (by simp))
                  case f12 => exact hmx2
                  case g12 => exact hby2
                  case h12 => (have := hgrowA.size; simp at this; simp; omega)
                  intro gb cb2 wb hownB hgrowB hatB hltB
                  refine hK.out _ _ ⟨hHeld.1.grown hgrowB (HNb.out _ (by omega)), hHeld.2.grown hgrowB (HNb.out _ (by omega))⟩ (fun hHeld => ?_)
                  clear hK K
                  try simp only [Act.put, List.setIfInBounds_toArray, List.set_cons_zero, List.set_cons_succ]
                  refine M_tail [{ dst := none, op := Op.store 22 (Operand.tmp 37) (Operand.tmp 31), type := 0, pos := "json.go:114", after := #[{ on := 10, ground := Ground.data }, { on := 4, ground := Ground.data }, { on := 9, ground := Ground.chain }, { on := 0, ground := Ground.phase }, { on := 1, ground := Ground.phase }, { on := 2, ground := Ground.phase }, { on := 3, ground := Ground.phase }, { on := 4, ground := Ground.phase }, { on := 5, ground := Ground.phase }, { on := 6, ground := Ground.phase }, { on := 7, ground := Ground.textOnly Departure.lateStores }, { on := 8, ground := Ground.textOnly Departure.lateStores }, { on := 9, ground := Ground.textOnly Departure.lateStoresUnsure }], guard := none }, { dst := some 38, op := Op.fieldAddr 25 (Operand.tmp 7) 5, type := 0, pos := "json.go:114", after := #[{ on := 0, ground := Ground.phase }, { on := 1, ground := Ground.phase }, { on := 2, ground := Ground.phase }, { on := 3, ground := Ground.phase }, { on := 4, ground := Ground.phase }, { on := 5, ground := Ground.phase }, { on := 6, ground := Ground.phase }, { on := 7, ground := Ground.phase }, { on := 8, ground := Ground.phase }, { on := 9, ground := Ground.phase }, { on := 10, ground := Ground.phase }, { on := 11, ground := Ground.phase }], guard := none }, { dst := none, op := Op.store 23 (Operand.tmp 38) (Operand.tmp 36), type := 0, pos := "json.go:114", after := #[{ on := 12, ground := Ground.data }, { on := 9, ground := Ground.data }, { on := 11, ground := Ground.chain }, { on := 0, ground := Ground.phase }, { on := 1, ground := Ground.phase }, { on := 2, ground := Ground.phase }, { on := 3, ground := Ground.phase }, { on := 4, ground := Ground.phase }, { on := 5, ground := Ground.phase }, { on := 6, ground := Ground.phase }, { on := 7, ground := Ground.phase }, { on := 8, ground := Ground.phase }, { on := 9, ground := Ground.phase }, { on := 10, ground := Ground.phase }, { on := 11, ground := Ground.phase }], guard := none }, { dst := some 8, op := Op.assign (Operand.const (Value.bool true)), type := 4, pos := "json.go:114", after := #[{ on := 13, ground := Ground.chain }, { on := 0, ground := Ground.phase }, { on := 1, ground := Ground.phase }, { on := 2, ground := Ground.phase }, { on := 3, ground := Ground.phase }, { on := 4, ground := Ground.phase }, { on := 5, ground := Ground.phase }, { on := 6, ground := Ground.phase }, { on := 7, ground := Ground.phase }, { on := 8, ground := Ground.phase }, { on := 9, ground := Ground.phase }, { on := 10, ground := Ground.phase }, { on := 11, ground := Ground.phase }, { on := 12, ground := Ground.phase }, { on := 13, ground := Ground.phase }], guard := none }] rfl (by kernel_rfl) (by kernel_rfl) ?_
                  have o4 := hHeld.1.c4
                  have o5 := hHeld.1.c5
                  have x4 := hHeld.1.free 4
                  have x5 := hHeld.1.free 5
                  clear hHeld
                  go_wp2_with fail
                  go_meet
                  case rel => exact ⟨true, done ++ [(nm.data.toList, j)], _, _, rfl, HC.out, by simp at hdl3 ⊢; omega, set_join HS.out HXx.out hul HUe.out (by first | exact grown_one _ _ | exact grown_two _ _ _) hgrowA hownA (nm_eta nm) (by first | exact grown_refl _ | exact World.grownBy_alloc _ _ _) hgrowB hownB (by rcases hatB with h | h; exact Or.inl h; exact Or.inr (by first | omega | (simp; omega) | (simp at h ⊢; omega)))⟩
                exact AllM.nil
              exact AllM.nil
            exact AllM.nil
          refine AllM.cons (i := 8) (o := { dst := some 35, op := Op.buildSlice 23 1 #[(0, Operand.tmp 34)], type := 23, pos := "json.go:114", after := #[{ on := 7, ground := Ground.data }], guard := none }) rfl (fun K hK => ?_) ?_
          · go_simp
            refine hK.out _ _ ⟨hHeld.1.alloc _, hHeld.2.alloc _⟩ (fun hHeld => ?_)
            clear hK K
            try simp only [Act.put, List.setIfInBounds_toArray, List.set_cons_zero, List.set_cons_succ]
            refine M_ready [3] (by kernel_rfl) (by decide) ?_
            refine AllM.cons (i := 3) (o := { dst := some 30, op := Op.buildSlice 22 1 #[(0, Operand.tmp 29)], type := 22, pos := "json.go:114", after := #[{ on := 2, ground := Ground.data }], guard := none }) rfl (fun K hK => ?_) ?_
            · go_simp
              refine hK.out _ _ ⟨hHeld.1.alloc _, hHeld.2.alloc _⟩ (fun hHeld => ?_)
              clear hK K
              try simp only [Act.put, List.setIfInBounds_toArray, List.set_cons_zero, List.set_cons_succ]
              refine M_ready [4] (by kernel_rfl) (by decide) ?_
              refine AllM.cons (i := 4) (o := { dst := some 31, op := Op.call { callee := Callee.builtin Builtin.append, args := #[Operand.tmp 28, Operand.tmp 30], argTypes := #[22, 22] }, type := 22, pos := "json.go:114", after := #[{ on := 1, ground := Ground.data }, { on := 3, ground := Ground.data }], guard := none }) rfl (fun K hK => ?_) ?_
              · refine step_append_lies _ rfl (.tmp 28) (.tmp 30) 22 rfl (B + 4) 9 iS (.string ⟨#[]⟩) 1 16 Tryz.underlying22 hiS hzS0 hzS1 hzS2 rfl (by decide) (.slice pa done.length ca) done.length ((done.map fun f => f.1).map fun s => .string ⟨s.toArray⟩) ?a13 ?b13 ?_ 1 1 [.string nm] ?c13 ?d13 ?e13 (text_one _) (by decide) ?f13 ?g13 ?h13 _ rfl ?_
                case a13 => rfl
                case c13 => rfl
                case d13 => rfl
                case b13 => first | exact World.ownsRow.alloc HNm.out _ | exact World.ownsRow.alloc (World.ownsRow.alloc HNm.out _) _
                case e13 => first | exact text_new _ _ | exact text_first _ _ _ | exact news_alloc (text_new _ _) | exact text_new2 _ _ _
                case f13 => exact hmx
                case g13 => exact hby1
                case h13 => (simp; omega)
                intro ga ca2 wa hownA hgrowA hatA hltA
                refine hK.out _ _ ⟨hHeld.1.grown hgrowA (HNa.out _ (by omega)), hHeld.2.grown hgrowA (HNa.out _ (by omega))⟩ (fun hHeld => ?_)
                clear hK K
                try simp only [Act.put, List.setIfInBounds_toArray, List.set_cons_zero, List.set_cons_succ]
                refine M_take 10 (oi := { dst := some 37, op := Op.fieldAddr 25 (Operand.tmp 7) 4, type := 0, pos := "json.go:114", after := #[{ on := 0, ground := Ground.phase }, { on := 1, ground := Ground.phase }, { on := 2, ground := Ground.phase }, { on := 3, ground := Ground.phase }, { on := 4, ground := Ground.phase }, { on := 5, ground := Ground.phase }, { on := 6, ground := Ground.phase }, { on := 7, ground := Ground.textOnly Departure.lateStores }, { on := 8, ground := Ground.textOnly Departure.lateStores }, { on := 9, ground := Ground.textOnly Departure.lateStoresUnsure }], guard := none }) (v := ?vv14) rfl (by kernel_rfl) (by kernel_rfl) (by kernel_rfl) (by kernel_rfl) (by kernel_rfl) (by decide) (by decide) (by kernel_rfl) (fun _ _ _ h => h) hHeld (Or.inl ⟨by rfl, ?hy14⟩) ?_
                case hy14 => (intro w' hSw; have r4 := hSw.1.c4; have r5 := hSw.1.c5; have s0 := hSw.2.c0; have s1 := hSw.2.c1; have s2 := hSw.2.c2; have s3 := hSw.2.c3; have s4 := hSw.2.c4; have s5 := hSw.2.c5; go_simp; try (with_reducible rfl))
                try simp only [Act.put, List.setIfInBounds_toArray, List.set_cons_zero, List.set_cons_succ]
                refine M_ready [9] (by kernel_rfl) (by decide) ?_
                refine AllM.cons (i := 9) (o := { dst := some 36, op := Op.call { callee := Callee.builtin Builtin.append, args := #[Operand.tmp 33, Operand.tmp 35], argTypes := #[23, 23] }, type := 23, pos := "json.go:114", after := #[{ on := 6, ground := Ground.data }, { on := 8, ground := Ground.data }, { on := 4, ground := Ground.chain }], guard := none }) rfl (fun K hK => ?_) ?_
                · refine step_append_lies _ rfl (.tmp 33) (.tmp 35) 23 rfl (B + 4) 25 iV (.agg #[.int .i64 0, .bool false, .int .i64 0, .string ⟨#[]⟩, .slice none 0 0, .slice none 0 0]) 6 88 Tryz.underlying23 hiV hzV0 hzV1 hzV2 rfl (by decide) (.slice pb done.length cb) done.length (us.flatMap six3) ?a15 ?b15 ?_ 1 1 (six3 (headJ n j, .slice p1 k1 c1, .slice p2 k2 c2)) ?c15 ?d15 ?e15 (six_one wr _ _ _ _ _ _ _) (by decide) ?f15 ?g15 ?h15 _ rfl ?_
                  case a15 => rfl
                  case c15 => rfl
                  case d15 => rfl
                  case b15 => first | exact World.ownsRow.alloc (World.ownsRow.kept (World.ownsRow.alloc HUo.out _) hgrowA HApp.out) _ | exact World.ownsRow.kept (World.ownsRow.alloc (World.ownsRow.alloc HUo.out _) _) hgrowA HApp.out
                  case e15 => first | exact six_new _ _ _ _ | exact news_grown (six_new _ _ _ _) hgrowA (HNw.out _ (by simp)) | exact news_grown (news_alloc (six_new _ _ _ _)) hgrowA (HNw.out _ (by simp)) | exact news_grown (six_first _ _ _ _ _) hgrowA (HNw.out _ (by simp)) | exact news_grown (six_new2 _ _ _ _ _) hgrowA (HNw.out _ (by simp))
                  case f15 => exact hmx2
                  case g15 => exact hby2
                  case h15 => (have := hgrowA.size; simp at this; simp; omega)
                  intro gb cb2 wb hownB hgrowB hatB hltB
                  refine hK.out _ _ ⟨hHeld.1.grown hgrowB (HNb.out _ (by omega)), hHeld.2.grown hgrowB (HNb.out _ (by omega))⟩ (fun hHeld => ?_)
                  clear hK K
                  try simp only [Act.put, List.setIfInBounds_toArray, List.set_cons_zero, List.set_cons_succ]
                  refine M_tail [{ dst := none, op := Op.store 22 (Operand.tmp 37) (Operand.tmp 31), type := 0, pos := "json.go:114", after := #[{ on := 10, ground := Ground.data }, { on := 4, ground := Ground.data }, { on := 9, ground := Ground.chain }, { on := 0, ground := Ground.phase }, { on := 1, ground := Ground.phase }, { on := 2, ground := Ground.phase }, { on := 3, ground := Ground.phase }, { on := 4, ground := Ground.phase }, { on := 5, ground := Ground.phase }, { on := 6, ground := Ground.phase }, { on := 7, ground := Ground.textOnly Departure.lateStores }, { on := 8, ground := Ground.textOnly Departure.lateStores }, { on := 9, ground := Ground.textOnly Departure.lateStoresUnsure }], guard := none }, { dst := some 38, op := Op.fieldAddr 25 (Operand.tmp 7) 5, type := 0, pos := "json.go:114", after := #[{ on := 0, ground := Ground.phase }, { on := 1, ground := Ground.phase }, { on := 2, ground := Ground.phase }, { on := 3, ground := Ground.phase }, { on := 4, ground := Ground.phase }, { on := 5, ground := Ground.phase }, { on := 6, ground := Ground.phase }, { on := 7, ground := Ground.phase }, { on := 8, ground := Ground.phase }, { on := 9, ground := Ground.phase }, { on := 10, ground := Ground.phase }, { on := 11, ground := Ground.phase }], guard := none }, { dst := none, op := Op.store 23 (Operand.tmp 38) (Operand.tmp 36), type := 0, pos := "json.go:114", after := #[{ on := 12, ground := Ground.data }, { on := 9, ground := Ground.data }, { on := 11, ground := Ground.chain }, { on := 0, ground := Ground.phase }, { on := 1, ground := Ground.phase }, { on := 2, ground := Ground.phase }, { on := 3, ground := Ground.phase }, { on := 4, ground := Ground.phase }, { on := 5, ground := Ground.phase }, { on := 6, ground := Ground.phase }, { on := 7, ground := Ground.phase }, { on := 8, ground := Ground.phase }, { on := 9, ground := Ground.phase }, { on := 10, ground := Ground.phase }, { on := 11, ground := Ground.phase }], guard := none }, { dst := some 8, op := Op.assign (Operand.const (Value.bool true)), type := 4, pos := "json.go:114", after := #[{ on := 13, ground := Ground.chain }, { on := 0, ground := Ground.phase }, { on := 1, ground := Ground.phase }, { on := 2, ground := Ground.phase }, { on := 3, ground := Ground.phase }, { on := 4, ground := Ground.phase }, { on := 5, ground := Ground.phase }, { on := 6, ground := Ground.phase }, { on := 7, ground := Ground.phase }, { on := 8, ground := Ground.phase }, { on := 9, ground := Ground.phase }, { on := 10, ground := Ground.phase }, { on := 11, ground := Ground.phase }, { on := 12, ground := Ground.phase }, { on := 13, ground := Ground.phase }], guard := none }] rfl (by kernel_rfl) (by kernel_rfl) ?_
                  have o4 := hHeld.1.c4
                  have o5 := hHeld.1.c5
                  have x4 := hHeld.1.free 4
                  have x5 := hHeld.1.free 5
                  clear hHeld
                  go_wp2_with fail
                  go_meet
                  case rel => exact ⟨true, done ++ [(nm.data.toList, j)], _, _, rfl, HC.out, by simp at hdl3 ⊢; omega, set_join HS.out HXx.out hul HUe.out (by first | exact grown_one _ _ | exact grown_two _ _ _) hgrowA hownA (nm_eta nm) (by first | exact grown_refl _ | exact World.grownBy_alloc _ _ _) hgrowB hownB (by rcases hatB with h | h; exact Or.inl h; exact Or.inr (by first | omega | (simp; omega) | (simp at h ⊢; omega)))⟩
                exact AllM.nil
              exact AllM.nil
            exact AllM.nil
          exact AllM.nil
      clear HF HG HS hdl nn
      obtain ⟨q, done, vn, vl, rfl, hset, hdl, hS⟩ := hcut
      have HF : Hid (setF fs nm.data.toList j = done ++ ((if f.1 = nm.data.toList then [] else [f]) ++ setGo nm.data.toList j q (fs.drop (k + 1)))) := hset
      have HS : Hid (SetAt av w B (some ⟨g, 0, none⟩) pl fs.length cn cl (headJ n j) p1 p2 k1 c1 k2 c2 done wc vn vl) := hS
      clear hset hS
      by_cases he : f.1 = nm.data.toList
      · have hq : (fb.toList == nm.toList) = true := by rw [HBE.out]; exact decide_eq_true he
        have hq2 : (fb.toList != nm.toList) = false := by rw [bne, hq]; rfl
        have HC : Hid (setF fs nm.data.toList j = done ++ setGo nm.data.toList j q (fs.drop (k + 1))) := by
          show setF _ _ _ = _
          rw [HF.out, if_pos he]
          rfl
        have hdl3 : done.length ≤ (k + 1) + (if q then 1 else 0) := by omega
        clear he
        go_wp2_with fail
        go_roundw
        case rel =>
          have hrelN : SetLoop av w B (some ⟨g, 0, none⟩) pl cn cl p1 p2 k1 c1 k2 c2 fs nm.data.toList j (.bool q) (.int .i64 ((k : Int) + 1)) wc := ⟨k + 1, q, done, _, _, by omega, rfl, by go_num, HC.out, hdl3, HS.out⟩
          first | exact hrelN | ((repeat apply Exists.intro); exact ⟨hrelN, rfl, rfl, rfl, rfl⟩) | ((repeat apply Exists.intro); exact ⟨hrelN, rfl⟩)
        case measure => (simp [intOf]; omega)
      · have hq : (fb.toList == nm.toList) = false := by rw [HBE.out]; exact decide_eq_false he
        have hq2 : (fb.toList != nm.toList) = true := by rw [bne, hq]; rfl
        have HC : Hid (setF fs nm.data.toList j = (done ++ [(f.1, f.2)]) ++ setGo nm.data.toList j q (fs.drop (k + 1))) := by
          show setF _ _ _ = _
          rw [HF.out, if_neg he, List.append_assoc]
        have hdl3 : (done ++ [(f.1, f.2)]).length ≤ (k + 1) + (if q then 1 else 0) := by simp; omega
        obtain ⟨g', nm', l', rfl, hg', h6, hst⟩ := HL3.out k f HK.out
        obtain ⟨⟨sp1, sn1, sc1, rfl⟩, sp2, sn2, sc2, rfl⟩ := rst_sl hst
        have H6 : Hid (Six wc g' (k * 6) (headJ n f.2) (.slice sp1 sn1 sc1) (.slice sp2 sn2 sc2)) := h6.keep (HS.out.below.block g' (by rw [HBe.out]; exact hg'))
        have HXx : Hid (RSt (fun c => av c ∨ B ≤ c) wc n f.2 (rfV (headJ n f.2) (.slice sp1 sn1 sc1) (.slice sp2 sn2 sc2))) := (hst.wide (fun c e => by rcases e with e | e; exact Or.inl e; exact Or.inr (by have := HBe.out; omega))).below (by have := HS.out.below; rw [HBe.out] at this; exact this)
        have hkI : (k : Int) < (fs.length : Int) := by omega
        have hkI0 : (0 : Int) ≤ (k : Int) := by omega
        have hgB : g' < B := by rw [HBe.out]; exact hg'
        clear he h6 hst
        obtain ⟨us, hul, huo, hue⟩ := HS.out.vals
        obtain ⟨pa, ca, hva⟩ := HS.out.names.shape
        obtain ⟨pb, cb, hvb⟩ := HS.out.vals.shape
        rw [List.length_map] at hva hvb
        subst hva hvb
        have HNm : Hid (wc.drew.ownsRow (B + 4) 9 1 (.slice pa done.length ca) done.length ((done.map fun f => f.1).map fun s => .string ⟨s.toArray⟩)) := by
          have h9 := World.ownsRow.drew HS.out.names
          rw [List.length_map] at h9
          exact h9
        have HUo : Hid (wc.drew.ownsRow (B + 4) 25 6 (.slice pb done.length cb) done.length (us.flatMap six3)) := by
          have h9 := World.ownsRow.drew huo
          rw [List.length_map] at h9
          exact h9
        have HUe : Hid (∀ (i : Nat) (x : J n) (u : Six3), (done.map fun f => f.2)[i]? = some x → us[i]? = some u → u.1 = headJ n x ∧ RSt (fun c => (av c ∨ B ≤ c) ∨ (Value.slice pb done.length cb).ownBlock = some c) wc n x (rfV u.1 u.2.1 u.2.2)) := hue
        have HApp : Hid ((Value.slice pb done.length cb).ownBlock = none ∨ (Value.slice pb done.length cb).ownBlock ≠ (Value.slice pa done.length ca).ownBlock) := by
          rcases ownT_apart HS.out.names HS.out.vals with h | h
          · exact by rw [h]; exact own_none _
          · exact Or.inr (fun e => h e.symm)
        have HNa : Hid (∀ k, k < B + 4 → some k ≠ (Value.slice pa done.length ca).ownBlock) := fun k hk e => by have := (HS.out.names.row k e.symm).1; omega
        have HNb : Hid (∀ k, k < B + 4 → some k ≠ (Value.slice pb done.length cb).ownBlock) := fun k hk e => by have := (HS.out.vals.row k e.symm).1; omega
        have HNw : Hid (∀ k, wc.heap.size ≤ k → some k ≠ (Value.slice pa done.length ca).ownBlock) := fun k hk e => by have := (HS.out.names.row k e.symm).2; omega
        have hwB := HS.out.size
        have hdl2 : done.length ≤ 1000001 := by split at hdl <;> omega
        have hmx : done.length + 1 ≤ maxLen := by unfold maxLen; omega
        have hby1 : (done.length + 1) * 16 ≤ 140737488355328 := by omega
        have hmx2 : done.length + 1 ≤ maxLen := by unfold maxLen; omega
        have hby2 : (done.length + 1) * 88 ≤ 140737488355328 := by omega
        clear huo hue
        go_wp2_with fail
        refine M_begin 15 18 (fun w' => Box w' (B + 1 + 1 + 1) ⟨6, false, 0, []⟩ (.slice pa done.length ca) (.slice pb done.length cb) ∧ Box w' B ⟨6, false, 0, []⟩ (.slice (some ⟨g, 0, none⟩) fs.length cn) (.slice (some ⟨g', 0, none⟩) fs.length cl) ∧ Six w' g' (k * 6) (headJ n f.2) (.slice sp1 sn1 sc1) (.slice sp2 sn2 sc2) ∧ g' < w'.heap.size) (by kernel_rfl) rfl ?_
        have hHeld : (fun w' => Box w' (B + 1 + 1 + 1) ⟨6, false, 0, []⟩ (.slice pa done.length ca) (.slice pb done.length cb) ∧ Box w' B ⟨6, false, 0, []⟩ (.slice (some ⟨g, 0, none⟩) fs.length cn) (.slice (some ⟨g', 0, none⟩) fs.length cl) ∧ Six w' g' (k * 6) (headJ n f.2) (.slice sp1 sn1 sc1) (.slice sp2 sn2 sc2) ∧ g' < w'.heap.size) wc.drew := ⟨HS.out.b3, HS.out.b0, H6.out, by show g' < wc.heap.size; omega⟩
        refine M_take 0 (oi := { dst := some 42, op := Op.fieldAddr 25 (Operand.tmp 7) 4, type := 0, pos := "json.go:117", after := #[], guard := none }) (v := ?vv16) rfl (by kernel_rfl) (by kernel_rfl) (by kernel_rfl) (by kernel_rfl) (by kernel_rfl) (by decide) (by decide) (by kernel_rfl) (fun _ _ _ h => h) hHeld (Or.inl ⟨by rfl, ?hy16⟩) ?_
        case hy16 => (intro w' hSw; have r4 := hSw.1.c4; have r5 := hSw.1.c5; have v5 := hSw.2.1.c5; obtain ⟨s0, s1, s2, s3, s4, s5⟩ := hSw.2.2.1; go_simp; try (with_reducible rfl))
        try simp only [Act.put, List.setIfInBounds_toArray, List.set_cons_zero, List.set_cons_succ]
        refine M_take 1 (oi := { dst := some 43, op := Op.load 22 (Operand.tmp 42), type := 22, pos := "json.go:117", after := #[{ on := 0, ground := Ground.data }], guard := none }) (v := ?vv17) rfl (by kernel_rfl) (by kernel_rfl) (by kernel_rfl) (by kernel_rfl) (by kernel_rfl) (by decide) (by decide) (by kernel_rfl) (fun _ _ _ h => h) hHeld (Or.inl ⟨by rfl, ?hy17⟩) ?_
        case hy17 => (intro w' hSw; have r4 := hSw.1.c4; have r5 := hSw.1.c5; have v5 := hSw.2.1.c5; obtain ⟨s0, s1, s2, s3, s4, s5⟩ := hSw.2.2.1; go_simp; try (with_reducible rfl))
        try simp only [Act.put, List.setIfInBounds_toArray, List.set_cons_zero, List.set_cons_succ]
        refine M_take 2 (oi := { dst := some 44, op := Op.move (Operand.tmp 10), type := 9, pos := "json.go:117", after := #[], guard := none }) (v := ?vv18) rfl (by kernel_rfl) (by kernel_rfl) (by kernel_rfl) (by kernel_rfl) (by kernel_rfl) (by decide) (by decide) (by kernel_rfl) (fun _ _ _ h => h) hHeld (Or.inl ⟨by rfl, ?hy18⟩) ?_
        case hy18 => (intro w' hSw; have r4 := hSw.1.c4; have r5 := hSw.1.c5; have v5 := hSw.2.1.c5; obtain ⟨s0, s1, s2, s3, s4, s5⟩ := hSw.2.2.1; go_simp; try (with_reducible rfl))
        try simp only [Act.put, List.setIfInBounds_toArray, List.set_cons_zero, List.set_cons_succ]
        refine M_take 5 (oi := { dst := some 47, op := Op.fieldAddr 25 (Operand.tmp 7) 5, type := 0, pos := "json.go:117", after := #[], guard := none }) (v := ?vv19) rfl (by kernel_rfl) (by kernel_rfl) (by kernel_rfl) (by kernel_rfl) (by kernel_rfl) (by decide) (by decide) (by kernel_rfl) (fun _ _ _ h => h) hHeld (Or.inl ⟨by rfl, ?hy19⟩) ?_
        case hy19 => (intro w' hSw; have r4 := hSw.1.c4; have r5 := hSw.1.c5; have v5 := hSw.2.1.c5; obtain ⟨s0, s1, s2, s3, s4, s5⟩ := hSw.2.2.1; go_simp; try (with_reducible rfl))
        try simp only [Act.put, List.setIfInBounds_toArray, List.set_cons_zero, List.set_cons_succ]
        refine M_take 6 (oi := { dst := some 48, op := Op.load 23 (Operand.tmp 47), type := 23, pos := "json.go:117", after := #[{ on := 5, ground := Ground.data }], guard := none }) (v := ?vv20) rfl (by kernel_rfl) (by kernel_rfl) (by kernel_rfl) (by kernel_rfl) (by kernel_rfl) (by decide) (by decide) (by kernel_rfl) (fun _ _ _ h => h) hHeld (Or.inl ⟨by rfl, ?hy20⟩) ?_
        case hy20 => (intro w' hSw; have r4 := hSw.1.c4; have r5 := hSw.1.c5; have v5 := hSw.2.1.c5; obtain ⟨s0, s1, s2, s3, s4, s5⟩ := hSw.2.2.1; go_simp; try (with_reducible rfl))
        try simp only [Act.put, List.setIfInBounds_toArray, List.set_cons_zero, List.set_cons_succ]
        refine M_take 7 (oi := { dst := some 49, op := Op.fieldAddr 25 (Operand.tmp 3) 5, type := 0, pos := "json.go:117", after := #[], guard := none }) (v := ?vv21) rfl (by kernel_rfl) (by kernel_rfl) (by kernel_rfl) (by kernel_rfl) (by kernel_rfl) (by decide) (by decide) (by kernel_rfl) (fun _ _ _ h => h) hHeld (Or.inl ⟨by rfl, ?hy21⟩) ?_
        case hy21 => (intro w' hSw; have r4 := hSw.1.c4; have r5 := hSw.1.c5; have v5 := hSw.2.1.c5; obtain ⟨s0, s1, s2, s3, s4, s5⟩ := hSw.2.2.1; go_simp; try (with_reducible rfl))
        try simp only [Act.put, List.setIfInBounds_toArray, List.set_cons_zero, List.set_cons_succ]
        refine M_take 8 (oi := { dst := some 50, op := Op.load 23 (Operand.tmp 49), type := 23, pos := "json.go:117", after := #[{ on := 7, ground := Ground.data }], guard := none }) (v := ?vv22) rfl (by kernel_rfl) (by kernel_rfl) (by kernel_rfl) (by kernel_rfl) (by kernel_rfl) (by decide) (by decide) (by kernel_rfl) (fun _ _ _ h => h) hHeld (Or.inl ⟨by rfl, ?hy22⟩) ?_
        case hy22 => (intro w' hSw; have r4 := hSw.1.c4; have r5 := hSw.1.c5; have v5 := hSw.2.1.c5; obtain ⟨s0, s1, s2, s3, s4, s5⟩ := hSw.2.2.1; go_simp; try (with_reducible rfl))
        try simp only [Act.put, List.setIfInBounds_toArray, List.set_cons_zero, List.set_cons_succ]
        refine M_take 9 (oi := { dst := some 51, op := Op.move (Operand.tmp 9), type := 3, pos := "json.go:117", after := #[], guard := none }) (v := ?vv23) rfl (by kernel_rfl) (by kernel_rfl) (by kernel_rfl) (by kernel_rfl) (by kernel_rfl) (by decide) (by decide) (by kernel_rfl) (fun _ _ _ h => h) hHeld (Or.inl ⟨by rfl, ?hy23⟩) ?_
        case hy23 => (intro w' hSw; have r4 := hSw.1.c4; have r5 := hSw.1.c5; have v5 := hSw.2.1.c5; obtain ⟨s0, s1, s2, s3, s4, s5⟩ := hSw.2.2.1; go_simp; try (with_reducible rfl))
        try simp only [Act.put, List.setIfInBounds_toArray, List.set_cons_zero, List.set_cons_succ]
        refine M_take 10 (oi := { dst := some 52, op := Op.indexAddr 23 (Operand.tmp 50) (Operand.tmp 51), type := 0, pos := "json.go:117", after := #[{ on := 8, ground := Ground.data }, { on := 9, ground := Ground.data }], guard := none }) (v := ?vv24) rfl (by kernel_rfl) (by kernel_rfl) (by kernel_rfl) (by kernel_rfl) (by kernel_rfl) (by decide) (by decide) (by kernel_rfl) (fun _ _ _ h => h) hHeld (Or.inl ⟨by rfl, ?hy24⟩) ?_
        case hy24 => (intro w' hSw; have r4 := hSw.1.c4; have r5 := hSw.1.c5; have v5 := hSw.2.1.c5; obtain ⟨s0, s1, s2, s3, s4, s5⟩ := hSw.2.2.1; go_simp; try (with_reducible rfl))
        try simp only [Act.put, List.setIfInBounds_toArray, List.set_cons_zero, List.set_cons_succ]
        refine M_take 11 (oi := { dst := some 53, op := Op.load 25 (Operand.tmp 52), type := 25, pos := "json.go:117", after := #[{ on := 10, ground := Ground.data }], guard := none }) (v := ?vv25) rfl (by kernel_rfl) (by kernel_rfl) (by kernel_rfl) (by kernel_rfl) (by kernel_rfl) (by decide) (by decide) (by kernel_rfl) (fun _ _ _ h => h) hHeld (Or.inl ⟨by rfl, ?hy25⟩) ?_
        case hy25 => (intro w' hSw; have r4 := hSw.1.c4; have r5 := hSw.1.c5; have v5 := hSw.2.1.c5; obtain ⟨s0, s1, s2, s3, s4, s5⟩ := hSw.2.2.1; go_simp; try (with_reducible rfl))
        try simp only [Act.put, List.setIfInBounds_toArray, List.set_cons_zero, List.set_cons_succ]
        refine M_ready [3, 12] (by kernel_rfl) (by decide) ?_
        refine AllM.cons (i := 3) (o := { dst := some 45, op := Op.buildSlice 22 1 #[(0, Operand.tmp 44)], type := 22, pos := "json.go:117", after := #[{ on := 2, ground := Ground.data }], guard := none }) rfl (fun K hK => ?_) ?_
        · go_simp
          refine hK.out _ _ ⟨hHeld.1.alloc _, hHeld.2.1.alloc _, hHeld.2.2.1.keep (Below.heap_alloc _ _ _ hHeld.2.2.2), by have := hHeld.2.2.2; simp; omega⟩ (fun hHeld => ?_)
          clear hK K
          try simp only [Act.put, List.setIfInBounds_toArray, List.set_cons_zero, List.set_cons_succ]
          refine M_ready [4, 12] (by kernel_rfl) (by decide) ?_
          refine AllM.cons (i := 4) (o := { dst := some 46, op := Op.call { callee := Callee.builtin Builtin.append, args := #[Operand.tmp 43, Operand.tmp 45], argTypes := #[22, 22] }, type := 22, pos := "json.go:117", after := #[{ on := 1, ground := Ground.data }, { on := 3, ground := Ground.data }], guard := none }) rfl (fun K hK => ?_) ?_
          · refine step_append_lies _ rfl (.tmp 43) (.tmp 45) 22 rfl (B + 4) 9 iS (.string ⟨#[]⟩) 1 16 Tryz.underlying22 hiS hzS0 hzS1 hzS2 rfl (by decide) (.slice pa done.length ca) done.length ((done.map fun f => f.1).map fun s => .string ⟨s.toArray⟩) ?a26 ?b26 ?_ 1 1 [.string fb] ?c26 ?d26 ?e26 (text_one _) (by decide) ?f26 ?g26 ?h26 _ rfl ?_
            case a26 => rfl
            case c26 => rfl
            case d26 => rfl
            case b26 => first | exact World.ownsRow.alloc HNm.out _ | exact World.ownsRow.alloc (World.ownsRow.alloc HNm.out _) _
            case e26 => first | exact text_new _ _ | exact text_first _ _ _ | exact news_alloc (text_new _ _) | exact text_new2 _ _ _
            case f26 => exact hmx
            case g26 => exact hby1
            case h26 => (simp; omega)
            intro ga ca2 wa hownA hgrowA hatA hltA
            refine hK.out _ _ ⟨hHeld.1.grown hgrowA (HNa.out _ (by omega)), hHeld.2.1.grown hgrowA (HNa.out _ (by omega)), hHeld.2.2.1.keep (hgrowA.block _ hHeld.2.2.2 (HNa.out _ (by omega))), Nat.lt_of_lt_of_le hHeld.2.2.2 hgrowA.size⟩ (fun hHeld => ?_)
            clear hK K
            try simp only [Act.put, List.setIfInBounds_toArray, List.set_cons_zero, List.set_cons_succ]
            refine M_take 14 (oi := { dst := some 56, op := Op.fieldAddr 25 (Operand.tmp 7) 4, type := 0, pos := "json.go:117", after := #[{ on := 0, ground := Ground.phase }, { on := 1, ground := Ground.phase }, { on := 2, ground := Ground.phase }, { on := 3, ground := Ground.phase }, { on := 4, ground := Ground.phase }, { on := 5, ground := Ground.phase }, { on := 6, ground := Ground.phase }, { on := 7, ground := Ground.textOnly Departure.lateStores }, { on := 8, ground := Ground.textOnly Departure.lateStores }, { on := 9, ground := Ground.textOnly Departure.lateStores }, { on := 10, ground := Ground.textOnly Departure.lateStores }, { on := 11, ground := Ground.textOnly Departure.lateStores }, { on := 12, ground := Ground.textOnly Departure.lateStores }, { on := 13, ground := Ground.textOnly Departure.lateStoresUnsure }], guard := none }) (v := ?vv27) rfl (by kernel_rfl) (by kernel_rfl) (by kernel_rfl) (by kernel_rfl) (by kernel_rfl) (by decide) (by decide) (by kernel_rfl) (fun _ _ _ h => h) hHeld (Or.inl ⟨by rfl, ?hy27⟩) ?_
            case hy27 => (intro w' hSw; have r4 := hSw.1.c4; have r5 := hSw.1.c5; have v5 := hSw.2.1.c5; obtain ⟨s0, s1, s2, s3, s4, s5⟩ := hSw.2.2.1; go_simp; try (with_reducible rfl))
            try simp only [Act.put, List.setIfInBounds_toArray, List.set_cons_zero, List.set_cons_succ]
            refine M_ready [12] (by kernel_rfl) (by decide) ?_
            refine AllM.cons (i := 12) (o := { dst := some 54, op := Op.buildSlice 23 1 #[(0, Operand.tmp 53)], type := 23, pos := "json.go:117", after := #[{ on := 11, ground := Ground.data }], guard := none }) rfl (fun K hK => ?_) ?_
            · go_simp
              refine hK.out _ _ ⟨hHeld.1.alloc _, hHeld.2.1.alloc _, hHeld.2.2.1.keep (Below.heap_alloc _ _ _ hHeld.2.2.2), by have := hHeld.2.2.2; simp; omega⟩ (fun hHeld => ?_)
              clear hK K
              try simp only [Act.put, List.setIfInBounds_toArray, List.set_cons_zero, List.set_cons_succ]
              refine M_ready [13] (by kernel_rfl) (by decide) ?_
              refine AllM.cons (i := 13) (o := { dst := some 55, op := Op.call { callee := Callee.builtin Builtin.append, args := #[Operand.tmp 48, Operand.tmp 54], argTypes := #[23, 23] }, type := 23, pos := "json.go:117", after := #[{ on := 6, ground := Ground.data }, { on := 12, ground := Ground.data }, { on := 4, ground := Ground.chain }], guard := none }) rfl (fun K hK => ?_) ?_
              · refine step_append_lies _ rfl (.tmp 48) (.tmp 54) 23 rfl (B + 4) 25 iV (.agg #[.int .i64 0, .bool false, .int .i64 0, .string ⟨#[]⟩, .slice none 0 0, .slice none 0 0]) 6 88 Tryz.underlying23 hiV hzV0 hzV1 hzV2 rfl (by decide) (.slice pb done.length cb) done.length (us.flatMap six3) ?a28 ?b28 ?_ 1 1 (six3 (headJ n f.2, .slice sp1 sn1 sc1, .slice sp2 sn2 sc2)) ?c28 ?d28 ?e28 (six_one wc _ _ _ _ _ _ _) (by decide) ?f28 ?g28 ?h28 _ rfl ?_
                case a28 => rfl
                case c28 => rfl
                case d28 => rfl
                case b28 => first | exact World.ownsRow.alloc (World.ownsRow.kept (World.ownsRow.alloc HUo.out _) hgrowA HApp.out) _ | exact World.ownsRow.kept (World.ownsRow.alloc (World.ownsRow.alloc HUo.out _) _) hgrowA HApp.out
                case e28 => first | exact six_new _ _ _ _ | exact news_grown (six_new _ _ _ _) hgrowA (HNw.out _ (by simp)) | exact news_grown (news_alloc (six_new _ _ _ _)) hgrowA (HNw.out _ (by simp)) | exact news_grown (six_first _ _ _ _ _) hgrowA (HNw.out _ (by simp)) | exact news_grown (six_new2 _ _ _ _ _) hgrowA (HNw.out _ (by simp))
                case f28 => exact hmx2
                case g28 => exact hby2
                case h28 => (have := hgrowA.size; simp at this; simp; omega)
                intro gb cb2 wb hownB hgrowB hatB hltB
                refine hK.out _ _ ⟨hHeld.1.grown hgrowB (HNb.out _ (by omega)), hHeld.2.1.grown hgrowB (HNb.out _ (by omega)), hHeld.2.2.1.keep (hgrowB.block _ hHeld.2.2.2 (HNb.out _ (by omega))), Nat.lt_of_lt_of_le hHeld.2.2.2 hgrowB.size⟩ (fun hHeld => ?_)
                clear hK K
                try simp only [Act.put, List.setIfInBounds_toArray, List.set_cons_zero, List.set_cons_succ]
                refine M_tail [{ dst := none, op := Op.store 22 (Operand.tmp 56) (Operand.tmp 46), type := 0, pos := "json.go:117", after := #[{ on := 14, ground := Ground.data }, { on := 4, ground := Ground.data }, { on := 13, ground := Ground.chain }, { on := 0, ground := Ground.phase }, { on := 1, ground := Ground.phase }, { on := 2, ground := Ground.phase }, { on := 3, ground := Ground.phase }, { on := 4, ground := Ground.phase }, { on := 5, ground := Ground.phase }, { on := 6, ground := Ground.phase }, { on := 7, ground := Ground.textOnly Departure.lateStores }, { on := 8, ground := Ground.textOnly Departure.lateStores }, { on := 9, ground := Ground.textOnly Departure.lateStores }, { on := 10, ground := Ground.textOnly Departure.lateStores }, { on := 11, ground := Ground.textOnly Departure.lateStores }, { on := 12, ground := Ground.textOnly Departure.lateStores }, { on := 13, ground := Ground.textOnly Departure.lateStoresUnsure }], guard := none }, { dst := some 57, op := Op.fieldAddr 25 (Operand.tmp 7) 5, type := 0, pos := "json.go:117", after := #[{ on := 0, ground := Ground.phase }, { on := 1, ground := Ground.phase }, { on := 2, ground := Ground.phase }, { on := 3, ground := Ground.phase }, { on := 4, ground := Ground.phase }, { on := 5, ground := Ground.phase }, { on := 6, ground := Ground.phase }, { on := 7, ground := Ground.phase }, { on := 8, ground := Ground.phase }, { on := 9, ground := Ground.phase }, { on := 10, ground := Ground.phase }, { on := 11, ground := Ground.phase }, { on := 12, ground := Ground.phase }, { on := 13, ground := Ground.phase }, { on := 14, ground := Ground.phase }, { on := 15, ground := Ground.phase }], guard := none }, { dst := none, op := Op.store 23 (Operand.tmp 57) (Operand.tmp 55), type := 0, pos := "json.go:117", after := #[{ on := 16, ground := Ground.data }, { on := 13, ground := Ground.data }, { on := 15, ground := Ground.chain }, { on := 0, ground := Ground.phase }, { on := 1, ground := Ground.phase }, { on := 2, ground := Ground.phase }, { on := 3, ground := Ground.phase }, { on := 4, ground := Ground.phase }, { on := 5, ground := Ground.phase }, { on := 6, ground := Ground.phase }, { on := 7, ground := Ground.phase }, { on := 8, ground := Ground.phase }, { on := 9, ground := Ground.phase }, { on := 10, ground := Ground.phase }, { on := 11, ground := Ground.phase }, { on := 12, ground := Ground.phase }, { on := 13, ground := Ground.phase }, { on := 14, ground := Ground.phase }, { on := 15, ground := Ground.phase }], guard := none }] rfl (by kernel_rfl) (by kernel_rfl) ?_
                have o4 := hHeld.1.c4
                have o5 := hHeld.1.c5
                have x4 := hHeld.1.free 4
                have x5 := hHeld.1.free 5
                clear hHeld
                go_wp2_with fail
                go_roundw
                case rel =>
                  have hrelN : SetLoop av w B (some ⟨g, 0, none⟩) (some ⟨g', 0, none⟩) cn cl p1 p2 k1 c1 k2 c2 fs nm.data.toList j (.bool q) (.int .i64 ((k : Int) + 1)) ((wb.setCell ⟨B + 1 + 1 + 1, 4, none⟩ (.slice (some ⟨ga, 0, none⟩) (done.length + 1) ca2)).setCell ⟨B + 1 + 1 + 1, 5, none⟩ (.slice (some ⟨gb, 0, none⟩) (done.length + 1) cb2)) := ⟨k + 1, q, done ++ [(f.1, f.2)], _, _, by omega, rfl, by go_num, HC.out, hdl3, set_join HS.out HXx.out hul HUe.out (by first | exact grown_one _ _ | exact grown_two _ _ _) hgrowA hownA HFb.out (by first | exact grown_refl _ | exact World.grownBy_alloc _ _ _) hgrowB hownB (by rcases hatB with h | h; exact Or.inl h; exact Or.inr (by first | omega | (simp; omega) | (simp at h ⊢; omega)))⟩
                  first | exact hrelN | ((repeat apply Exists.intro); exact ⟨hrelN, rfl, rfl, rfl, rfl⟩) | ((repeat apply Exists.intro); exact ⟨hrelN, rfl⟩)
                case measure => (simp [intOf]; omega)
              exact AllM.nil
            exact AllM.nil
          refine AllM.cons (i := 12) (o := { dst := some 54, op := Op.buildSlice 23 1 #[(0, Operand.tmp 53)], type := 23, pos := "json.go:117", after := #[{ on := 11, ground := Ground.data }], guard := none }) rfl (fun K hK => ?_) ?_
          · go_simp
            refine hK.out _ _ ⟨hHeld.1.alloc _, hHeld.2.1.alloc _, hHeld.2.2.1.keep (Below.heap_alloc _ _ _ hHeld.2.2.2), by have := hHeld.2.2.2; simp; omega⟩ (fun hHeld => ?_)
            clear hK K
            try simp only [Act.put, List.setIfInBounds_toArray, List.set_cons_zero, List.set_cons_succ]
            refine M_ready [4] (by kernel_rfl) (by decide) ?_
            refine AllM.cons (i := 4) (o := { dst := some 46, op := Op.call { callee := Callee.builtin Builtin.append, args := #[Operand.tmp 43, Operand.tmp 45], argTypes := #[22, 22] }, type := 22, pos := "json.go:117", after := #[{ on := 1, ground := Ground.data }, { on := 3, ground := Ground.data }], guard := none }) rfl (fun K hK => ?_) ?_
            · refine step_append_lies _ rfl (.tmp 43) (.tmp 45) 22 rfl (B + 4) 9 iS (.string ⟨#[]⟩) 1 16 Tryz.underlying22 hiS hzS0 hzS1 hzS2 rfl (by decide) (.slice pa done.length ca) done.length ((done.map fun f => f.1).map fun s => .string ⟨s.toArray⟩) ?a29 ?b29 ?_ 1 1 [.string fb] ?c29 ?d29 ?e29 (text_one _) (by decide) ?f29 ?g29 ?h29 _ rfl ?_
              case a29 => rfl
              case c29 => rfl
              case d29 => rfl
              case b29 => first | exact World.ownsRow.alloc HNm.out _ | exact World.ownsRow.alloc (World.ownsRow.alloc HNm.out _) _
              case e29 => first | exact text_new _ _ | exact text_first _ _ _ | exact news_alloc (text_new _ _) | exact text_new2 _ _ _
              case f29 => exact hmx
              case g29 => exact hby1
              case h29 => (simp; omega)
              intro ga ca2 wa hownA hgrowA hatA hltA
              refine hK.out _ _ ⟨hHeld.1.grown hgrowA (HNa.out _ (by omega)), hHeld.2.1.grown hgrowA (HNa.out _ (by omega)), hHeld.2.2.1.keep (hgrowA.block _ hHeld.2.2.2 (HNa.out _ (by omega))), Nat.lt_of_lt_of_le hHeld.2.2.2 hgrowA.size⟩ (fun hHeld => ?_)
              clear hK K
              try simp only [Act.put, List.setIfInBounds_toArray, List.set_cons_zero, List.set_cons_succ]
              refine M_take 14 (oi := { dst := some 56, op := Op.fieldAddr 25 (Operand.tmp 7) 4, type := 0, pos := "json.go:117", after := #[{ on := 0, ground := Ground.phase }, { on := 1, ground := Ground.phase }, { on := 2, ground := Ground.phase }, { on := 3, ground := Ground.phase }, { on := 4, ground := Ground.phase }, { on := 5, ground := Ground.phase }, { on := 6, ground := Ground.phase }, { on := 7, ground := Ground.textOnly Departure.lateStores }, { on := 8, ground := Ground.textOnly Departure.lateStores }, { on := 9, ground := Ground.textOnly Departure.lateStores }, { on := 10, ground := Ground.textOnly Departure.lateStores }, { on := 11, ground := Ground.textOnly Departure.lateStores }, { on := 12, ground := Ground.textOnly Departure.lateStores }, { on := 13, ground := Ground.textOnly Departure.lateStoresUnsure }], guard := none }) (v := ?vv30) rfl (by kernel_rfl) (by kernel_rfl) (by kernel_rfl) (by kernel_rfl) (by kernel_rfl) (by decide) (by decide) (by kernel_rfl) (fun _ _ _ h => h) hHeld (Or.inl ⟨by rfl, ?hy30⟩) ?_
              case hy30 => (intro w' hSw; have r4 := hSw.1.c4; have r5 := hSw.1.c5; have v5 := hSw.2.1.c5; obtain ⟨s0, s1, s2, s3, s4, s5⟩ := hSw.2.2.1; go_simp; try (with_reducible rfl))
              try simp only [Act.put, List.setIfInBounds_toArray, List.set_cons_zero, List.set_cons_succ]
              refine M_ready [13] (by kernel_rfl) (by decide) ?_
              refine AllM.cons (i := 13) (o := { dst := some 55, op := Op.call { callee := Callee.builtin Builtin.append, args := #[Operand.tmp 48, Operand.tmp 54], argTypes := #[23, 23] }, type := 23, pos := "json.go:117", after := #[{ on := 6, ground := Ground.data }, { on := 12, ground := Ground.data }, { on := 4, ground := Ground.chain }], guard := none }) rfl (fun K hK => ?_) ?_
              · refine step_append_lies _ rfl (.tmp 48) (.tmp 54) 23 rfl (B + 4) 25 iV (.agg #[.int .i64 0, .bool false, .int .i64 0, .string ⟨#[]⟩, .slice none 0 0, .slice none 0 0]) 6 88 Tryz.underlying23 hiV hzV0 hzV1 hzV2 rfl (by decide) (.slice pb done.length cb) done.length (us.flatMap six3) ?a31 ?b31 ?_ 1 1 (six3 (headJ n f.2, .slice sp1 sn1 sc1, .slice sp2 sn2 sc2)) ?c31 ?d31 ?e31 (six_one wc _ _ _ _ _ _ _) (by decide) ?f31 ?g31 ?h31 _ rfl ?_
                case a31 => rfl
                case c31 => rfl
                case d31 => rfl
                case b31 => first | exact World.ownsRow.alloc (World.ownsRow.kept (World.ownsRow.alloc HUo.out _) hgrowA HApp.out) _ | exact World.ownsRow.kept (World.ownsRow.alloc (World.ownsRow.alloc HUo.out _) _) hgrowA HApp.out
                case e31 => first | exact six_new _ _ _ _ | exact news_grown (six_new _ _ _ _) hgrowA (HNw.out _ (by simp)) | exact news_grown (news_alloc (six_new _ _ _ _)) hgrowA (HNw.out _ (by simp)) | exact news_grown (six_first _ _ _ _ _) hgrowA (HNw.out _ (by simp)) | exact news_grown (six_new2 _ _ _ _ _) hgrowA (HNw.out _ (by simp))
                case f31 => exact hmx2
                case g31 => exact hby2
                case h31 => (have := hgrowA.size; simp at this; simp; omega)
                intro gb cb2 wb hownB hgrowB hatB hltB
                refine hK.out _ _ ⟨hHeld.1.grown hgrowB (HNb.out _ (by omega)), hHeld.2.1.grown hgrowB (HNb.out _ (by omega)), hHeld.2.2.1.keep (hgrowB.block _ hHeld.2.2.2 (HNb.out _ (by omega))), Nat.lt_of_lt_of_le hHeld.2.2.2 hgrowB.size⟩ (fun hHeld => ?_)
                clear hK K
                try simp only [Act.put, List.setIfInBounds_toArray, List.set_cons_zero, List.set_cons_succ]
                refine M_tail [{ dst := none, op := Op.store 22 (Operand.tmp 56) (Operand.tmp 46), type := 0, pos := "json.go:117", after := #[{ on := 14, ground := Ground.data }, { on := 4, ground := Ground.data }, { on := 13, ground := Ground.chain }, { on := 0, ground := Ground.phase }, { on := 1, ground := Ground.phase }, { on := 2, ground := Ground.phase }, { on := 3, ground := Ground.phase }, { on := 4, ground := Ground.phase }, { on := 5, ground := Ground.phase }, { on := 6, ground := Ground.phase }, { on := 7, ground := Ground.textOnly Departure.lateStores }, { on := 8, ground := Ground.textOnly Departure.lateStores }, { on := 9, ground := Ground.textOnly Departure.lateStores }, { on := 10, ground := Ground.textOnly Departure.lateStores }, { on := 11, ground := Ground.textOnly Departure.lateStores }, { on := 12, ground := Ground.textOnly Departure.lateStores }, { on := 13, ground := Ground.textOnly Departure.lateStoresUnsure }], guard := none }, { dst := some 57, op := Op.fieldAddr 25 (Operand.tmp 7) 5, type := 0, pos := "json.go:117", after := #[{ on := 0, ground := Ground.phase }, { on := 1, ground := Ground.phase }, { on := 2, ground := Ground.phase }, { on := 3, ground := Ground.phase }, { on := 4, ground := Ground.phase }, { on := 5, ground := Ground.phase }, { on := 6, ground := Ground.phase }, { on := 7, ground := Ground.phase }, { on := 8, ground := Ground.phase }, { on := 9, ground := Ground.phase }, { on := 10, ground := Ground.phase }, { on := 11, ground := Ground.phase }, { on := 12, ground := Ground.phase }, { on := 13, ground := Ground.phase }, { on := 14, ground := Ground.phase }, { on := 15, ground := Ground.phase }], guard := none }, { dst := none, op := Op.store 23 (Operand.tmp 57) (Operand.tmp 55), type := 0, pos := "json.go:117", after := #[{ on := 16, ground := Ground.data }, { on := 13, ground := Ground.data }, { on := 15, ground := Ground.chain }, { on := 0, ground := Ground.phase }, { on := 1, ground := Ground.phase }, { on := 2, ground := Ground.phase }, { on := 3, ground := Ground.phase }, { on := 4, ground := Ground.phase }, { on := 5, ground := Ground.phase }, { on := 6, ground := Ground.phase }, { on := 7, ground := Ground.phase }, { on := 8, ground := Ground.phase }, { on := 9, ground := Ground.phase }, { on := 10, ground := Ground.phase }, { on := 11, ground := Ground.phase }, { on := 12, ground := Ground.phase }, { on := 13, ground := Ground.phase }, { on := 14, ground := Ground.phase }, { on := 15, ground := Ground.phase }], guard := none }] rfl (by kernel_rfl) (by kernel_rfl) ?_
                have o4 := hHeld.1.c4
                have o5 := hHeld.1.c5
                have x4 := hHeld.1.free 4
                have x5 := hHeld.1.free 5
                clear hHeld
                go_wp2_with fail
                go_roundw
                case rel =>
                  have hrelN : SetLoop av w B (some ⟨g, 0, none⟩) (some ⟨g', 0, none⟩) cn cl p1 p2 k1 c1 k2 c2 fs nm.data.toList j (.bool q) (.int .i64 ((k : Int) + 1)) ((wb.setCell ⟨B + 1 + 1 + 1, 4, none⟩ (.slice (some ⟨ga, 0, none⟩) (done.length + 1) ca2)).setCell ⟨B + 1 + 1 + 1, 5, none⟩ (.slice (some ⟨gb, 0, none⟩) (done.length + 1) cb2)) := ⟨k + 1, q, done ++ [(f.1, f.2)], _, _, by omega, rfl, by go_num, HC.out, hdl3, set_join HS.out HXx.out hul HUe.out (by first | exact grown_one _ _ | exact grown_two _ _ _) hgrowA hownA HFb.out (by first | exact grown_refl _ | exact World.grownBy_alloc _ _ _) hgrowB hownB (by rcases hatB with h | h; exact Or.inl h; exact Or.inr (by first | omega | (simp; omega) | (simp at h ⊢; omega)))⟩
                  first | exact hrelN | ((repeat apply Exists.intro); exact ⟨hrelN, rfl, rfl, rfl, rfl⟩) | ((repeat apply Exists.intro); exact ⟨hrelN, rfl⟩)
                case measure => (simp [intOf]; omega)
              exact AllM.nil
            exact AllM.nil
          exact AllM.nil
        refine AllM.cons (i := 12) (o := { dst := some 54, op := Op.buildSlice 23 1 #[(0, Operand.tmp 53)], type := 23, pos := "json.go:117", after := #[{ on := 11, ground := Ground.data }], guard := none }) rfl (fun K hK => ?_) ?_
        · go_simp
          refine hK.out _ _ ⟨hHeld.1.alloc _, hHeld.2.1.alloc _, hHeld.2.2.1.keep (Below.heap_alloc _ _ _ hHeld.2.2.2), by have := hHeld.2.2.2; simp; omega⟩ (fun hHeld => ?_)
          clear hK K
          try simp only [Act.put, List.setIfInBounds_toArray, List.set_cons_zero, List.set_cons_succ]
          refine M_ready [3] (by kernel_rfl) (by decide) ?_
          refine AllM.cons (i := 3) (o := { dst := some 45, op := Op.buildSlice 22 1 #[(0, Operand.tmp 44)], type := 22, pos := "json.go:117", after := #[{ on := 2, ground := Ground.data }], guard := none }) rfl (fun K hK => ?_) ?_
          · go_simp
            refine hK.out _ _ ⟨hHeld.1.alloc _, hHeld.2.1.alloc _, hHeld.2.2.1.keep (Below.heap_alloc _ _ _ hHeld.2.2.2), by have := hHeld.2.2.2; simp; omega⟩ (fun hHeld => ?_)
            clear hK K
            try simp only [Act.put, List.setIfInBounds_toArray, List.set_cons_zero, List.set_cons_succ]
            refine M_ready [4] (by kernel_rfl) (by decide) ?_
            refine AllM.cons (i := 4) (o := { dst := some 46, op := Op.call { callee := Callee.builtin Builtin.append, args := #[Operand.tmp 43, Operand.tmp 45], argTypes := #[22, 22] }, type := 22, pos := "json.go:117", after := #[{ on := 1, ground := Ground.data }, { on := 3, ground := Ground.data }], guard := none }) rfl (fun K hK => ?_) ?_
            · refine step_append_lies _ rfl (.tmp 43) (.tmp 45) 22 rfl (B + 4) 9 iS (.string ⟨#[]⟩) 1 16 Tryz.underlying22 hiS hzS0 hzS1 hzS2 rfl (by decide) (.slice pa done.length ca) done.length ((done.map fun f => f.1).map fun s => .string ⟨s.toArray⟩) ?a32 ?b32 ?_ 1 1 [.string fb] ?c32 ?d32 ?e32 (text_one _) (by decide) ?f32 ?g32 ?h32 _ rfl ?_
              case a32 => rfl
              case c32 => rfl
              case d32 => rfl
              case b32 => first | exact World.ownsRow.alloc HNm.out _ | exact World.ownsRow.alloc (World.ownsRow.alloc HNm.out _) _
              case e32 => first | exact text_new _ _ | exact text_first _ _ _ | exact news_alloc (text_new _ _) | exact text_new2 _ _ _
              case f32 => exact hmx
              case g32 => exact hby1
              case h32 => (simp; omega)
              intro ga ca2 wa hownA hgrowA hatA hltA
              refine hK.out _ _ ⟨hHeld.1.grown hgrowA (HNa.out _ (by omega)), hHeld.2.1.grown hgrowA (HNa.out _ (by omega)), hHeld.2.2.1.keep (hgrowA.block _ hHeld.2.2.2 (HNa.out _ (by omega))), Nat.lt_of_lt_of_le hHeld.2.2.2 hgrowA.size⟩ (fun hHeld => ?_)
              clear hK K
              try simp only [Act.put, List.setIfInBounds_toArray, List.set_cons_zero, List.set_cons_succ]
              refine M_take 14 (oi := { dst := some 56, op := Op.fieldAddr 25 (Operand.tmp 7) 4, type := 0, pos := "json.go:117", after := #[{ on := 0, ground := Ground.phase }, { on := 1, ground := Ground.phase }, { on := 2, ground := Ground.phase }, { on := 3, ground := Ground.phase }, { on := 4, ground := Ground.phase }, { on := 5, ground := Ground.phase }, { on := 6, ground := Ground.phase }, { on := 7, ground := Ground.textOnly Departure.lateStores }, { on := 8, ground := Ground.textOnly Departure.lateStores }, { on := 9, ground := Ground.textOnly Departure.lateStores }, { on := 10, ground := Ground.textOnly Departure.lateStores }, { on := 11, ground := Ground.textOnly Departure.lateStores }, { on := 12, ground := Ground.textOnly Departure.lateStores }, { on := 13, ground := Ground.textOnly Departure.lateStoresUnsure }], guard := none }) (v := ?vv33) rfl (by kernel_rfl) (by kernel_rfl) (by kernel_rfl) (by kernel_rfl) (by kernel_rfl) (by decide) (by decide) (by kernel_rfl) (fun _ _ _ h => h) hHeld (Or.inl ⟨by rfl, ?hy33⟩) ?_
              case hy33 => (intro w' hSw; have r4 := hSw.1.c4; have r5 := hSw.1.c5; have v5 := hSw.2.1.c5; obtain ⟨s0, s1, s2, s3, s4, s5⟩ := hSw.2.2.1; go_simp; try (with_reducible rfl))
              try simp only [Act.put, List.setIfInBounds_toArray, List.set_cons_zero, List.set_cons_succ]
              refine M_ready [13] (by kernel_rfl) (by decide) ?_
              refine AllM.cons (i := 13) (o := { dst := some 55, op := Op.call { callee := Callee.builtin Builtin.append, args := #[Operand.tmp 48, Operand.tmp 54], argTypes := #[23, 23] }, type := 23, pos := "json.go:117", after := #[{ on := 6, ground := Ground.data }, { on := 12, ground := Ground.data }, { on := 4, ground := Ground.chain }], guard := none }) rfl (fun K hK => ?_) ?_
              · refine step_append_lies _ rfl (.tmp 48) (.tmp 54) 23 rfl (B + 4) 25 iV (.agg #[.int .i64 0, .bool false, .int .i64 0, .string ⟨#[]⟩, .slice none 0 0, .slice none 0 0]) 6 88 Tryz.underlying23 hiV hzV0 hzV1 hzV2 rfl (by decide) (.slice pb done.length cb) done.length (us.flatMap six3) ?a34 ?b34 ?_ 1 1 (six3 (headJ n f.2, .slice sp1 sn1 sc1, .slice sp2 sn2 sc2)) ?c34 ?d34 ?e34 (six_one wc _ _ _ _ _ _ _) (by decide) ?f34 ?g34 ?h34 _ rfl ?_
                case a34 => rfl
                case c34 => rfl
                case d34 => rfl
                case b34 => first | exact World.ownsRow.alloc (World.ownsRow.kept (World.ownsRow.alloc HUo.out _) hgrowA HApp.out) _ | exact World.ownsRow.kept (World.ownsRow.alloc (World.ownsRow.alloc HUo.out _) _) hgrowA HApp.out
                case e34 => first | exact six_new _ _ _ _ | exact news_grown (six_new _ _ _ _) hgrowA (HNw.out _ (by simp)) | exact news_grown (news_alloc (six_new _ _ _ _)) hgrowA (HNw.out _ (by simp)) | exact news_grown (six_first _ _ _ _ _) hgrowA (HNw.out _ (by simp)) | exact news_grown (six_new2 _ _ _ _ _) hgrowA (HNw.out _ (by simp))
                case f34 => exact hmx2
                case g34 => exact hby2
                case h34 => (have := hgrowA.size; simp at this; simp; omega)
                intro gb cb2 wb hownB hgrowB hatB hltB
                refine hK.out _ _ ⟨hHeld.1.grown hgrowB (HNb.out _ (by omega)), hHeld.2.1.grown hgrowB (HNb.out _ (by omega)), hHeld.2.2.1.keep (hgrowB.block _ hHeld.2.2.2 (HNb.out _ (by omega))), Nat.lt_of_lt_of_le hHeld.2.2.2 hgrowB.size⟩ (fun hHeld => ?_)
                clear hK K
                try simp only [Act.put, List.setIfInBounds_toArray, List.set_cons_zero, List.set_cons_succ]
                refine M_tail [{ dst := none, op := Op.store 22 (Operand.tmp 56) (Operand.tmp 46), type := 0, pos := "json.go:117", after := #[{ on := 14, ground := Ground.data }, { on := 4, ground := Ground.data }, { on := 13, ground := Ground.chain }, { on := 0, ground := Ground.phase }, { on := 1, ground := Ground.phase }, { on := 2, ground := Ground.phase }, { on := 3, ground := Ground.phase }, { on := 4, ground := Ground.phase }, { on := 5, ground := Ground.phase }, { on := 6, ground := Ground.phase }, { on := 7, ground := Ground.textOnly Departure.lateStores }, { on := 8, ground := Ground.textOnly Departure.lateStores }, { on := 9, ground := Ground.textOnly Departure.lateStores }, { on := 10, ground := Ground.textOnly Departure.lateStores }, { on := 11, ground := Ground.textOnly Departure.lateStores }, { on := 12, ground := Ground.textOnly Departure.lateStores }, { on := 13, ground := Ground.textOnly Departure.lateStoresUnsure }], guard := none }, { dst := some 57, op := Op.fieldAddr 25 (Operand.tmp 7) 5, type := 0, pos := "json.go:117", after := #[{ on := 0, ground := Ground.phase }, { on := 1, ground := Ground.phase }, { on := 2, ground := Ground.phase }, { on := 3, ground := Ground.phase }, { on := 4, ground := Ground.phase }, { on := 5, ground := Ground.phase }, { on := 6, ground := Ground.phase }, { on := 7, ground := Ground.phase }, { on := 8, ground := Ground.phase }, { on := 9, ground := Ground.phase }, { on := 10, ground := Ground.phase }, { on := 11, ground := Ground.phase }, { on := 12, ground := Ground.phase }, { on := 13, ground := Ground.phase }, { on := 14, ground := Ground.phase }, { on := 15, ground := Ground.phase }], guard := none }, { dst := none, op := Op.store 23 (Operand.tmp 57) (Operand.tmp 55), type := 0, pos := "json.go:117", after := #[{ on := 16, ground := Ground.data }, { on := 13, ground := Ground.data }, { on := 15, ground := Ground.chain }, { on := 0, ground := Ground.phase }, { on := 1, ground := Ground.phase }, { on := 2, ground := Ground.phase }, { on := 3, ground := Ground.phase }, { on := 4, ground := Ground.phase }, { on := 5, ground := Ground.phase }, { on := 6, ground := Ground.phase }, { on := 7, ground := Ground.phase }, { on := 8, ground := Ground.phase }, { on := 9, ground := Ground.phase }, { on := 10, ground := Ground.phase }, { on := 11, ground := Ground.phase }, { on := 12, ground := Ground.phase }, { on := 13, ground := Ground.phase }, { on := 14, ground := Ground.phase }, { on := 15, ground := Ground.phase }], guard := none }] rfl (by kernel_rfl) (by kernel_rfl) ?_
                have o4 := hHeld.1.c4
                have o5 := hHeld.1.c5
                have x4 := hHeld.1.free 4
                have x5 := hHeld.1.free 5
                clear hHeld
                go_wp2_with fail
                go_roundw
                case rel =>
                  have hrelN : SetLoop av w B (some ⟨g, 0, none⟩) (some ⟨g', 0, none⟩) cn cl p1 p2 k1 c1 k2 c2 fs nm.data.toList j (.bool q) (.int .i64 ((k : Int) + 1)) ((wb.setCell ⟨B + 1 + 1 + 1, 4, none⟩ (.slice (some ⟨ga, 0, none⟩) (done.length + 1) ca2)).setCell ⟨B + 1 + 1 + 1, 5, none⟩ (.slice (some ⟨gb, 0, none⟩) (done.length + 1) cb2)) := ⟨k + 1, q, done ++ [(f.1, f.2)], _, _, by omega, rfl, by go_num, HC.out, hdl3, set_join HS.out HXx.out hul HUe.out (by first | exact grown_one _ _ | exact grown_two _ _ _) hgrowA hownA HFb.out (by first | exact grown_refl _ | exact World.grownBy_alloc _ _ _) hgrowB hownB (by rcases hatB with h | h; exact Or.inl h; exact Or.inr (by first | omega | (simp; omega) | (simp at h ⊢; omega)))⟩
                  first | exact hrelN | ((repeat apply Exists.intro); exact ⟨hrelN, rfl, rfl, rfl, rfl⟩) | ((repeat apply Exists.intro); exact ⟨hrelN, rfl⟩)
                case measure => (simp [intOf]; omega)
              exact AllM.nil
            exact AllM.nil
          exact AllM.nil
        exact AllM.nil
    · have HC0 : Hid (setF fs nm.data.toList j = done ++ setGo nm.data.toList j q []) := by
        show setF _ _ _ = _
        rw [HF.out, List.drop_eq_nil_of_le (by omega)]
      go_upto_if 60 with fail
      go_cut [8] from 59 to 73 (fun _ wc => ∃ (done1 : List (Bs × J n)) (vn1 vl1 : Value), setF fs nm.data.toList j = done1 ∧ SetAt av w B pn pl fs.length cn cl (headJ n j) p1 p2 k1 c1 k2 c2 done1 wc vn1 vl1)
      case first =>
        cases q with
        | true =>
          have HC : Hid (setF fs nm.data.toList j = done) := by
            show setF _ _ _ = _
            rw [HC0.out]
            simp [setGo]
          go_wp2_with fail
          go_meet
          case rel => exact ⟨done, _, _, HC.out, HS.out⟩
        | false =>
          have HC : Hid (setF fs nm.data.toList j = done ++ [(nm.data.toList, j)]) := by
            show setF _ _ _ = _
            rw [HC0.out]
            simp [setGo]
          obtain ⟨us, hul, huo, hue⟩ := HS.out.vals
          obtain ⟨pa, ca, hva⟩ := HS.out.names.shape
          obtain ⟨pb, cb, hvb⟩ := HS.out.vals.shape
          rw [List.length_map] at hva hvb
          subst hva hvb
          have HNm : Hid (wr.drew.ownsRow (B + 4) 9 1 (.slice pa done.length ca) done.length ((done.map fun f => f.1).map fun s => .string ⟨s.toArray⟩)) := by
            have h9 := World.ownsRow.drew HS.out.names
            rw [List.length_map] at h9
            exact h9
          have HUo : Hid (wr.drew.ownsRow (B + 4) 25 6 (.slice pb done.length cb) done.length (us.flatMap six3)) := by
            have h9 := World.ownsRow.drew huo
            rw [List.length_map] at h9
            exact h9
          have HUe : Hid (∀ (i : Nat) (x : J n) (u : Six3), (done.map fun f => f.2)[i]? = some x → us[i]? = some u → u.1 = headJ n x ∧ RSt (fun c => (av c ∨ B ≤ c) ∨ (Value.slice pb done.length cb).ownBlock = some c) wr n x (rfV u.1 u.2.1 u.2.2)) := hue
          have HApp : Hid ((Value.slice pb done.length cb).ownBlock = none ∨ (Value.slice pb done.length cb).ownBlock ≠ (Value.slice pa done.length ca).ownBlock) := by
            rcases ownT_apart HS.out.names HS.out.vals with h | h
            · exact by rw [h]; exact own_none _
            · exact Or.inr (fun e => h e.symm)
          have HNa : Hid (∀ k, k < B + 4 → some k ≠ (Value.slice pa done.length ca).ownBlock) := fun k hk e => by have := (HS.out.names.row k e.symm).1; omega
          have HNb : Hid (∀ k, k < B + 4 → some k ≠ (Value.slice pb done.length cb).ownBlock) := fun k hk e => by have := (HS.out.vals.row k e.symm).1; omega
          have HNw : Hid (∀ k, wr.heap.size ≤ k → some k ≠ (Value.slice pa done.length ca).ownBlock) := fun k hk e => by have := (HS.out.names.row k e.symm).2; omega
          have hwB := HS.out.size
          have hdl2 : done.length ≤ 1000001 := by split at hdl <;> omega
          have hmx : done.length + 1 ≤ maxLen := by unfold maxLen; omega
          have hby1 : (done.length + 1) * 16 ≤ 140737488355328 := by omega
          have hmx2 : done.length + 1 ≤ maxLen := by unfold maxLen; omega
          have hby2 : (done.length + 1) * 88 ≤ 140737488355328 := by omega
          clear huo hue
          have HXx : Hid (RSt (fun c => av c ∨ B ≤ c) wr n j (rfV (headJ n j) (.slice p1 k1 c1) (.slice p2 k2 c2))) := (HJ.out.wide (fun c e => by rcases e with e | e; exact Or.inl e; exact Or.inr (by have := HBe.out; omega))).below (by have := HS.out.below; rw [HBe.out] at this; exact this)
          go_wp2_with fail
          refine M_begin 11 14 (fun w' => Box w' (B + 1 + 1 + 1) ⟨6, false, 0, []⟩ (.slice pa done.length ca) (.slice pb done.length cb) ∧ Box w' (B + 1) (headJ n j) (.slice p1 k1 c1) (.slice p2 k2 c2)) (by kernel_rfl) rfl ?_
          have hHeld : (fun w' => Box w' (B + 1 + 1 + 1) ⟨6, false, 0, []⟩ (.slice pa done.length ca) (.slice pb done.length cb) ∧ Box w' (B + 1) (headJ n j) (.slice p1 k1 c1) (.slice p2 k2 c2)) wr.drew := ⟨HS.out.b3, HS.out.b1⟩
          refine M_take 0 (oi := { dst := some 61, op := Op.fieldAddr 25 (Operand.tmp 7) 4, type := 0, pos := "json.go:121", after := #[], guard := none }) (v := ?vv35) rfl (by kernel_rfl) (by kernel_rfl) (by kernel_rfl) (by kernel_rfl) (by kernel_rfl) (by decide) (by decide) (by kernel_rfl) (fun _ _ _ h => h) hHeld (Or.inl ⟨by rfl, ?hy35⟩) ?_
          case hy35 => (intro w' hSw; have r4 := hSw.1.c4; have r5 := hSw.1.c5; have s0 := hSw.2.c0; have s1 := hSw.2.c1; have s2 := hSw.2.c2; have s3 := hSw.2.c3; have s4 := hSw.2.c4; have s5 := hSw.2.c5; go_simp; try (with_reducible rfl))
          try simp only [Act.put, List.setIfInBounds_toArray, List.set_cons_zero, List.set_cons_succ]
          refine M_take 1 (oi := { dst := some 62, op := Op.load 22 (Operand.tmp 61), type := 22, pos := "json.go:121", after := #[{ on := 0, ground := Ground.data }], guard := none }) (v := ?vv36) rfl (by kernel_rfl) (by kernel_rfl) (by kernel_rfl) (by kernel_rfl) (by kernel_rfl) (by decide) (by decide) (by kernel_rfl) (fun _ _ _ h => h) hHeld (Or.inl ⟨by rfl, ?hy36⟩) ?_
          case hy36 => (intro w' hSw; have r4 := hSw.1.c4; have r5 := hSw.1.c5; have s0 := hSw.2.c0; have s1 := hSw.2.c1; have s2 := hSw.2.c2; have s3 := hSw.2.c3; have s4 := hSw.2.c4; have s5 := hSw.2.c5; go_simp; try (with_reducible rfl))
          try simp only [Act.put, List.setIfInBounds_toArray, List.set_cons_zero, List.set_cons_succ]
          refine M_take 2 (oi := { dst := some 63, op := Op.move (Operand.tmp 1), type := 9, pos := "json.go:121", after := #[], guard := none }) (v := ?vv37) rfl (by kernel_rfl) (by kernel_rfl) (by kernel_rfl) (by kernel_rfl) (by kernel_rfl) (by decide) (by decide) (by kernel_rfl) (fun _ _ _ h => h) hHeld (Or.inl ⟨by rfl, ?hy37⟩) ?_
          case hy37 => (intro w' hSw; have r4 := hSw.1.c4; have r5 := hSw.1.c5; have s0 := hSw.2.c0; have s1 := hSw.2.c1; have s2 := hSw.2.c2; have s3 := hSw.2.c3; have s4 := hSw.2.c4; have s5 := hSw.2.c5; go_simp; try (with_reducible rfl))
          try simp only [Act.put, List.setIfInBounds_toArray, List.set_cons_zero, List.set_cons_succ]
          refine M_take 5 (oi := { dst := some 66, op := Op.fieldAddr 25 (Operand.tmp 7) 5, type := 0, pos := "json.go:121", after := #[], guard := none }) (v := ?vv38) rfl (by kernel_rfl) (by kernel_rfl) (by kernel_rfl) (by kernel_rfl) (by kernel_rfl) (by decide) (by decide) (by kernel_rfl) (fun _ _ _ h => h) hHeld (Or.inl ⟨by rfl, ?hy38⟩) ?_
          case hy38 => (intro w' hSw; have r4 := hSw.1.c4; have r5 := hSw.1.c5; have s0 := hSw.2.c0; have s1 := hSw.2.c1; have s2 := hSw.2.c2; have s3 := hSw.2.c3; have s4 := hSw.2.c4; have s5 := hSw.2.c5; go_simp; try (with_reducible rfl))
          try simp only [Act.put, List.setIfInBounds_toArray, List.set_cons_zero, List.set_cons_succ]
          refine M_take 6 (oi := { dst := some 67, op := Op.load 23 (Operand.tmp 66), type := 23, pos := "json.go:121", after := #[{ on := 5, ground := Ground.data }], guard := none }) (v := ?vv39) rfl (by kernel_rfl) (by kernel_rfl) (by kernel_rfl) (by kernel_rfl) (by kernel_rfl) (by decide) (by decide) (by kernel_rfl) (fun _ _ _ h => h) hHeld (Or.inl ⟨by rfl, ?hy39⟩) ?_
          case hy39 => (intro w' hSw; have r4 := hSw.1.c4; have r5 := hSw.1.c5; have s0 := hSw.2.c0; have s1 := hSw.2.c1; have s2 := hSw.2.c2; have s3 := hSw.2.c3; have s4 := hSw.2.c4; have s5 := hSw.2.c5; go_simp; try (with_reducible rfl))
          try simp only [Act.put, List.setIfInBounds_toArray, List.set_cons_zero, List.set_cons_succ]
          refine M_take 7 (oi := { dst := some 68, op := Op.load 25 (Operand.tmp 5), type := 25, pos := "json.go:121", after := #[], guard := none }) (v := ?vv40) rfl (by kernel_rfl) (by kernel_rfl) (by kernel_rfl) (by kernel_rfl) (by kernel_rfl) (by decide) (by decide) (by kernel_rfl) (fun _ _ _ h => h) hHeld (Or.inl ⟨by rfl, ?hy40⟩) ?_
          case hy40 => (intro w' hSw; have r4 := hSw.1.c4; have r5 := hSw.1.c5; have s0 := hSw.2.c0; have s1 := hSw.2.c1; have s2 := hSw.2.c2; have s3 := hSw.2.c3; have s4 := hSw.2.c4; have s5 := hSw.2.c5; go_simp; try (with_reducible rfl))
          try simp only [Act.put, List.setIfInBounds_toArray, List.set_cons_zero, List.set_cons_succ]
          refine M_ready [3, 8] (by kernel_rfl) (by decide) ?_
          refine AllM.cons (i := 3) (o := { dst := some 64, op := Op.buildSlice 22 1 #[(0, Operand.tmp 63)], type := 22, pos := "json.go:121", after := #[{ on := 2, ground := Ground.data }], guard := none }) rfl (fun K hK => ?_) ?_
          · go_simp
            refine hK.out _ _ ⟨hHeld.1.alloc _, hHeld.2.alloc _⟩ (fun hHeld => ?_)
            clear hK K
            try simp only [Act.put, List.setIfInBounds_toArray, List.set_cons_zero, List.set_cons_succ]
            refine M_ready [4, 8] (by kernel_rfl) (by decide) ?_
            refine AllM.cons (i := 4) (o := { dst := some 65, op := Op.call { callee := Callee.builtin Builtin.append, args := #[Operand.tmp 62, Operand.tmp 64], argTypes := #[22, 22] }, type := 22, pos := "json.go:121", after := #[{ on := 1, ground := Ground.data }, { on := 3, ground := Ground.data }], guard := none }) rfl (fun K hK => ?_) ?_
            · refine step_append_lies _ rfl (.tmp 62) (.tmp 64) 22 rfl (B + 4) 9 iS (.string ⟨#[]⟩) 1 16 Tryz.underlying22 hiS hzS0 hzS1 hzS2 rfl (by decide) (.slice pa done.length ca) done.length ((done.map fun f => f.1).map fun s => .string ⟨s.toArray⟩) ?a41 ?b41 ?_ 1 1 [.string nm] ?c41 ?d41 ?e41 (text_one _) (by decide) ?f41 ?g41 ?h41 _ rfl ?_
              case a41 => rfl
              case c41 => rfl
              case d41 => rfl
              case b41 => first | exact World.ownsRow.alloc HNm.out _ | exact World.ownsRow.alloc (World.ownsRow.alloc HNm.out _) _
              case e41 => first | exact text_new _ _ | exact text_first _ _ _ | exact news_alloc (text_new _ _) | exact text_new2 _ _ _
              case f41 => exact hmx
              case g41 => exact hby1
              case h41 => (simp; omega)
              intro ga ca2 wa hownA hgrowA hatA hltA
              refine hK.out _ _ ⟨hHeld.1.grown hgrowA (HNa.out _ (by omega)), hHeld.2.grown hgrowA (HNa.out _ (by omega))⟩ (fun hHeld => ?_)
              clear hK K
              try simp only [Act.put, List.setIfInBounds_toArray, List.set_cons_zero, List.set_cons_succ]
              refine M_take 10 (oi := { dst := some 71, op := Op.fieldAddr 25 (Operand.tmp 7) 4, type := 0, pos := "json.go:121", after := #[{ on := 0, ground := Ground.phase }, { on := 1, ground := Ground.phase }, { on := 2, ground := Ground.phase }, { on := 3, ground := Ground.phase }, { on := 4, ground := Ground.phase }, { on := 5, ground := Ground.phase }, { on := 6, ground := Ground.phase }, { on := 7, ground := Ground.textOnly Departure.lateStores }, { on := 8, ground := Ground.textOnly Departure.lateStores }, { on := 9, ground := Ground.textOnly Departure.lateStoresUnsure }], guard := none }) (v := ?vv42) rfl (by kernel_rfl) (by kernel_rfl) (by kernel_rfl) (by kernel_rfl) (by kernel_rfl) (by decide) (by decide) (by kernel_rfl) (fun _ _ _ h => h) hHeld (Or.inl ⟨by rfl, ?hy42⟩) ?_
              case hy42 => (intro w' hSw; have r4 := hSw.1.c4; have r5 := hSw.1.c5; have s0 := hSw.2.c0; have s1 := hSw.2.c1; have s2 := hSw.2.c2; have s3 := hSw.2.c3; have s4 := hSw.2.c4; have s5 := hSw.2.c5; go_simp; try (with_reducible rfl))
              try simp only [Act.put, List.setIfInBounds_toArray, List.set_cons_zero, List.set_cons_succ]
              refine M_ready [8] (by kernel_rfl) (by decide) ?_
              refine AllM.cons (i := 8) (o := { dst := some 69, op := Op.buildSlice 23 1 #[(0, Operand.tmp 68)], type := 23, pos := "json.go:121", after := #[{ on := 7, ground := Ground.data }], guard := none }) rfl (fun K hK => ?_) ?_
              · go_simp
                refine hK.out _ _ ⟨hHeld.1.alloc _, hHeld.2.alloc _⟩ (fun hHeld => ?_)
                clear hK K
                try simp only [Act.put, List.setIfInBounds_toArray, List.set_cons_zero, List.set_cons_succ]
                refine M_ready [9] (by kernel_rfl) (by decide) ?_
                refine AllM.cons (i := 9) (o := { dst := some 70, op := Op.call { callee := Callee.builtin Builtin.append, args := #[Operand.tmp 67, Operand.tmp 69], argTypes := #[23, 23] }, type := 23, pos := "json.go:121", after := #[{ on := 6, ground := Ground.data }, { on := 8, ground := Ground.data }, { on := 4, ground := Ground.chain }], guard := none }) rfl (fun K hK => ?_) ?_
                · refine step_append_lies _ rfl (.tmp 67) (.tmp 69) 23 rfl (B + 4) 25 iV (.agg #[.int .i64 0, .bool false, .int .i64 0, .string ⟨#[]⟩, .slice none 0 0, .slice none 0 0]) 6 88 Tryz.underlying23 hiV hzV0 hzV1 hzV2 rfl (by decide) (.slice pb done.length cb) done.length (us.flatMap six3) ?a43 ?b43 ?_ 1 1 (six3 (headJ n j, .slice p1 k1 c1, .slice p2 k2 c2)) ?c43 ?d43 ?e43 (six_one wr _ _ _ _ _ _ _) (by decide) ?f43 ?g43 ?h43 _ rfl ?_
                  case a43 => rfl
                  case c43 => rfl
                  case d43 => rfl
                  case b43 => first | exact World.ownsRow.alloc (World.ownsRow.kept (World.ownsRow.alloc HUo.out _) hgrowA HApp.out) _ | exact World.ownsRow.kept (World.ownsRow.alloc (World.ownsRow.alloc HUo.out _) _) hgrowA HApp.out
                  case e43 => first | exact six_new _ _ _ _ | exact news_grown (six_new _ _ _ _) hgrowA (HNw.out _ (by simp)) | exact news_grown (news_alloc (six_new _ _ _ _)) hgrowA (HNw.out _ (by simp)) | exact news_grown (six_first _ _ _ _ _) hgrowA (HNw.out _ (by simp)) | exact news_grown (six_new2 _ _ _ _ _) hgrowA (HNw.out _ (by simp))
                  case f43 => exact hmx2
                  case g43 => exact hby2
                  case h43 => (have := hgrowA.size; simp at this; simp; omega)
                  intro gb cb2 wb hownB hgrowB hatB hltB
                  refine hK.out _ _ ⟨hHeld.1.grown hgrowB (HNb.out _ (by omega)), hHeld.2.grown hgrowB (HNb.out _ (by omega))⟩ (fun hHeld => ?_)
                  clear hK K
                  try simp only [Act.put, List.setIfInBounds_toArray, List.set_cons_zero, List.set_cons_succ]
                  refine M_tail [{ dst := none, op := Op.store 22 (Operand.tmp 71) (Operand.tmp 65), type := 0, pos := "json.go:121", after := #[{ on := 10, ground := Ground.data }, { on := 4, ground := Ground.data }, { on := 9, ground := Ground.chain }, { on := 0, ground := Ground.phase }, { on := 1, ground := Ground.phase }, { on := 2, ground := Ground.phase }, { on := 3, ground := Ground.phase }, { on := 4, ground := Ground.phase }, { on := 5, ground := Ground.phase }, { on := 6, ground := Ground.phase }, { on := 7, ground := Ground.textOnly Departure.lateStores }, { on := 8, ground := Ground.textOnly Departure.lateStores }, { on := 9, ground := Ground.textOnly Departure.lateStoresUnsure }], guard := none }, { dst := some 72, op := Op.fieldAddr 25 (Operand.tmp 7) 5, type := 0, pos := "json.go:121", after := #[{ on := 0, ground := Ground.phase }, { on := 1, ground := Ground.phase }, { on := 2, ground := Ground.phase }, { on := 3, ground := Ground.phase }, { on := 4, ground := Ground.phase }, { on := 5, ground := Ground.phase }, { on := 6, ground := Ground.phase }, { on := 7, ground := Ground.phase }, { on := 8, ground := Ground.phase }, { on := 9, ground := Ground.phase }, { on := 10, ground := Ground.phase }, { on := 11, ground := Ground.phase }], guard := none }, { dst := none, op := Op.store 23 (Operand.tmp 72) (Operand.tmp 70), type := 0, pos := "json.go:121", after := #[{ on := 12, ground := Ground.data }, { on := 9, ground := Ground.data }, { on := 11, ground := Ground.chain }, { on := 0, ground := Ground.phase }, { on := 1, ground := Ground.phase }, { on := 2, ground := Ground.phase }, { on := 3, ground := Ground.phase }, { on := 4, ground := Ground.phase }, { on := 5, ground := Ground.phase }, { on := 6, ground := Ground.phase }, { on := 7, ground := Ground.phase }, { on := 8, ground := Ground.phase }, { on := 9, ground := Ground.phase }, { on := 10, ground := Ground.phase }, { on := 11, ground := Ground.phase }], guard := none }] rfl (by kernel_rfl) (by kernel_rfl) ?_
                  have o4 := hHeld.1.c4
                  have o5 := hHeld.1.c5
                  have x4 := hHeld.1.free 4
                  have x5 := hHeld.1.free 5
                  clear hHeld
                  go_wp2_with fail
                  go_meet
                  case rel => exact ⟨done ++ [(nm.data.toList, j)], _, _, HC.out, set_join HS.out HXx.out hul HUe.out (by first | exact grown_one _ _ | exact grown_two _ _ _) hgrowA hownA (nm_eta nm) (by first | exact grown_refl _ | exact World.grownBy_alloc _ _ _) hgrowB hownB (by rcases hatB with h | h; exact Or.inl h; exact Or.inr (by first | omega | (simp; omega) | (simp at h ⊢; omega)))⟩
                exact AllM.nil
              exact AllM.nil
            refine AllM.cons (i := 8) (o := { dst := some 69, op := Op.buildSlice 23 1 #[(0, Operand.tmp 68)], type := 23, pos := "json.go:121", after := #[{ on := 7, ground := Ground.data }], guard := none }) rfl (fun K hK => ?_) ?_
            · go_simp
              refine hK.out _ _ ⟨hHeld.1.alloc _, hHeld.2.alloc _⟩ (fun hHeld => ?_)
              clear hK K
              try simp only [Act.put, List.setIfInBounds_toArray, List.set_cons_zero, List.set_cons_succ]
              refine M_ready [4] (by kernel_rfl) (by decide) ?_
              refine AllM.cons (i := 4) (o := { dst := some 65, op := Op.call { callee := Callee.builtin Builtin.append, args := #[Operand.tmp 62, Operand.tmp 64], argTypes := #[22, 22] }, type := 22, pos := "json.go:121", after := #[{ on := 1, ground := Ground.data }, { on := 3, ground := Ground.data }], guard := none }) rfl (fun K hK => ?_) ?_
              · refine step_append_lies _ rfl (.tmp 62) (.tmp 64) 22 rfl (B + 4) 9 iS (.string ⟨#[]⟩) 1 16 Tryz.underlying22 hiS hzS0 hzS1 hzS2 rfl (by decide) (.slice pa done.length ca) done.length ((done.map fun f => f.1).map fun s => .string ⟨s.toArray⟩) ?a44 ?b44 ?_ 1 1 [.string nm] ?c44 ?d44 ?e44 (text_one _) (by decide) ?f44 ?g44 ?h44 _ rfl ?_
                case a44 => rfl
                case c44 => rfl
                case d44 => rfl
                case b44 => first | exact World.ownsRow.alloc HNm.out _ | exact World.ownsRow.alloc (World.ownsRow.alloc HNm.out _) _
                case e44 => first | exact text_new _ _ | exact text_first _ _ _ | exact news_alloc (text_new _ _) | exact text_new2 _ _ _
                case f44 => exact hmx
                case g44 => exact hby1
                case h44 => (simp; omega)
                intro ga ca2 wa hownA hgrowA hatA hltA
                refine hK.out _ _ ⟨hHeld.1.grown hgrowA (HNa.out _ (by omega)), hHeld.2.grown hgrowA (HNa.out _ (by omega))⟩ (fun hHeld => ?_)
                clear hK K
                try simp only [Act.put, List.setIfInBounds_toArray, List.set_cons_zero, List.set_cons_succ]
                refine M_take 10 (oi := { dst := some 71, op := Op.fieldAddr 25 (Operand.tmp 7) 4, type := 0, pos := "json.go:121", after := #[{ on := 0, ground := Ground.phase }, { on := 1, ground := Ground.phase }, { on := 2, ground := Ground.phase }, { on := 3, ground := Ground.phase }, { on := 4, ground := Ground.phase }, { on := 5, ground := Ground.phase }, { on := 6, ground := Ground.phase }, { on := 7, ground := Ground.textOnly Departure.lateStores }, { on := 8, ground := Ground.textOnly Departure.lateStores }, { on := 9, ground := Ground.textOnly Departure.lateStoresUnsure }], guard := none }) (v := ?vv45) rfl (by kernel_rfl) (by kernel_rfl) (by kernel_rfl) (by kernel_rfl) (by kernel_rfl) (by decide) (by decide) (by kernel_rfl) (fun _ _ _ h => h) hHeld (Or.inl ⟨by rfl, ?hy45⟩) ?_
                case hy45 => (intro w' hSw; have r4 := hSw.1.c4; have r5 := hSw.1.c5; have s0 := hSw.2.c0; have s1 := hSw.2.c1; have s2 := hSw.2.c2; have s3 := hSw.2.c3; have s4 := hSw.2.c4; have s5 := hSw.2.c5; go_simp; try (with_reducible rfl))
                try simp only [Act.put, List.setIfInBounds_toArray, List.set_cons_zero, List.set_cons_succ]
                refine M_ready [9] (by kernel_rfl) (by decide) ?_
                refine AllM.cons (i := 9) (o := { dst := some 70, op := Op.call { callee := Callee.builtin Builtin.append, args := #[Operand.tmp 67, Operand.tmp 69], argTypes := #[23, 23] }, type := 23, pos := "json.go:121", after := #[{ on := 6, ground := Ground.data }, { on := 8, ground := Ground.data }, { on := 4, ground := Ground.chain }], guard := none }) rfl (fun K hK => ?_) ?_
                · refine step_append_lies _ rfl (.tmp 67) (.tmp 69) 23 rfl (B + 4) 25 iV (.agg #[.int .i64 0, .bool false, .int .i64 0, .string ⟨#[]⟩, .slice none 0 0, .slice none 0 0]) 6 88 Tryz.underlying23 hiV hzV0 hzV1 hzV2 rfl (by decide) (.slice pb done.length cb) done.length (us.flatMap six3) ?a46 ?b46 ?_ 1 1 (six3 (headJ n j, .slice p1 k1 c1, .slice p2 k2 c2)) ?c46 ?d46 ?e46 (six_one wr _ _ _ _ _ _ _) (by decide) ?f46 ?g46 ?h46 _ rfl ?_
                  case a46 => rfl
                  case c46 => rfl
                  case d46 => rfl
                  case b46 => first | exact World.ownsRow.alloc (World.ownsRow.kept (World.ownsRow.alloc HUo.out _) hgrowA HApp.out) _ | exact World.ownsRow.kept (World.ownsRow.alloc (World.ownsRow.alloc HUo.out _) _) hgrowA HApp.out
                  case e46 => first | exact six_new _ _ _ _ | exact news_grown (six_new _ _ _ _) hgrowA (HNw.out _ (by simp)) | exact news_grown (news_alloc (six_new _ _ _ _)) hgrowA (HNw.out _ (by simp)) | exact news_grown (six_first _ _ _ _ _) hgrowA (HNw.out _ (by simp)) | exact news_grown (six_new2 _ _ _ _ _) hgrowA (HNw.out _ (by simp))
                  case f46 => exact hmx2
                  case g46 => exact hby2
                  case h46 => (have := hgrowA.size; simp at this; simp; omega)
                  intro gb cb2 wb hownB hgrowB hatB hltB
                  refine hK.out _ _ ⟨hHeld.1.grown hgrowB (HNb.out _ (by omega)), hHeld.2.grown hgrowB (HNb.out _ (by omega))⟩ (fun hHeld => ?_)
                  clear hK K
                  try simp only [Act.put, List.setIfInBounds_toArray, List.set_cons_zero, List.set_cons_succ]
                  refine M_tail [{ dst := none, op := Op.store 22 (Operand.tmp 71) (Operand.tmp 65), type := 0, pos := "json.go:121", after := #[{ on := 10, ground := Ground.data }, { on := 4, ground := Ground.data }, { on := 9, ground := Ground.chain }, { on := 0, ground := Ground.phase }, { on := 1, ground := Ground.phase }, { on := 2, ground := Ground.phase }, { on := 3, ground := Ground.phase }, { on := 4, ground := Ground.phase }, { on := 5, ground := Ground.phase }, { on := 6, ground := Ground.phase }, { on := 7, ground := Ground.textOnly Departure.lateStores }, { on := 8, ground := Ground.textOnly Departure.lateStores }, { on := 9, ground := Ground.textOnly Departure.lateStoresUnsure }], guard := none }, { dst := some 72, op := Op.fieldAddr 25 (Operand.tmp 7) 5, type := 0, pos := "json.go:121", after := #[{ on := 0, ground := Ground.phase }, { on := 1, ground := Ground.phase }, { on := 2, ground := Ground.phase }, { on := 3, ground := Ground.phase }, { on := 4, ground := Ground.phase }, { on := 5, ground := Ground.phase }, { on := 6, ground := Ground.phase }, { on := 7, ground := Ground.phase }, { on := 8, ground := Ground.phase }, { on := 9, ground := Ground.phase }, { on := 10, ground := Ground.phase }, { on := 11, ground := Ground.phase }], guard := none }, { dst := none, op := Op.store 23 (Operand.tmp 72) (Operand.tmp 70), type := 0, pos := "json.go:121", after := #[{ on := 12, ground := Ground.data }, { on := 9, ground := Ground.data }, { on := 11, ground := Ground.chain }, { on := 0, ground := Ground.phase }, { on := 1, ground := Ground.phase }, { on := 2, ground := Ground.phase }, { on := 3, ground := Ground.phase }, { on := 4, ground := Ground.phase }, { on := 5, ground := Ground.phase }, { on := 6, ground := Ground.phase }, { on := 7, ground := Ground.phase }, { on := 8, ground := Ground.phase }, { on := 9, ground := Ground.phase }, { on := 10, ground := Ground.phase }, { on := 11, ground := Ground.phase }], guard := none }] rfl (by kernel_rfl) (by kernel_rfl) ?_
                  have o4 := hHeld.1.c4
                  have o5 := hHeld.1.c5
                  have x4 := hHeld.1.free 4
                  have x5 := hHeld.1.free 5
                  clear hHeld
                  go_wp2_with fail
                  go_meet
                  case rel => exact ⟨done ++ [(nm.data.toList, j)], _, _, HC.out, set_join HS.out HXx.out hul HUe.out (by first | exact grown_one _ _ | exact grown_two _ _ _) hgrowA hownA (nm_eta nm) (by first | exact grown_refl _ | exact World.grownBy_alloc _ _ _) hgrowB hownB (by rcases hatB with h | h; exact Or.inl h; exact Or.inr (by first | omega | (simp; omega) | (simp at h ⊢; omega)))⟩
                exact AllM.nil
              exact AllM.nil
            exact AllM.nil
          refine AllM.cons (i := 8) (o := { dst := some 69, op := Op.buildSlice 23 1 #[(0, Operand.tmp 68)], type := 23, pos := "json.go:121", after := #[{ on := 7, ground := Ground.data }], guard := none }) rfl (fun K hK => ?_) ?_
          · go_simp
            refine hK.out _ _ ⟨hHeld.1.alloc _, hHeld.2.alloc _⟩ (fun hHeld => ?_)
            clear hK K
            try simp only [Act.put, List.setIfInBounds_toArray, List.set_cons_zero, List.set_cons_succ]
            refine M_ready [3] (by kernel_rfl) (by decide) ?_
            refine AllM.cons (i := 3) (o := { dst := some 64, op := Op.buildSlice 22 1 #[(0, Operand.tmp 63)], type := 22, pos := "json.go:121", after := #[{ on := 2, ground := Ground.data }], guard := none }) rfl (fun K hK => ?_) ?_
            · go_simp
              refine hK.out _ _ ⟨hHeld.1.alloc _, hHeld.2.alloc _⟩ (fun hHeld => ?_)
              clear hK K
              try simp only [Act.put, List.setIfInBounds_toArray, List.set_cons_zero, List.set_cons_succ]
              refine M_ready [4] (by kernel_rfl) (by decide) ?_
              refine AllM.cons (i := 4) (o := { dst := some 65, op := Op.call { callee := Callee.builtin Builtin.append, args := #[Operand.tmp 62, Operand.tmp 64], argTypes := #[22, 22] }, type := 22, pos := "json.go:121", after := #[{ on := 1, ground := Ground.data }, { on := 3, ground := Ground.data }], guard := none }) rfl (fun K hK => ?_) ?_
              · refine step_append_lies _ rfl (.tmp 62) (.tmp 64) 22 rfl (B + 4) 9 iS (.string ⟨#[]⟩) 1 16 Tryz.underlying22 hiS hzS0 hzS1 hzS2 rfl (by decide) (.slice pa done.length ca) done.length ((done.map fun f => f.1).map fun s => .string ⟨s.toArray⟩) ?a47 ?b47 ?_ 1 1 [.string nm] ?c47 ?d47 ?e47 (text_one _) (by decide) ?f47 ?g47 ?h47 _ rfl ?_
                case a47 => rfl
                case c47 => rfl
                case d47 => rfl
                case b47 => first | exact World.ownsRow.alloc HNm.out _ | exact World.ownsRow.alloc (World.ownsRow.alloc HNm.out _) _
                case e47 => first | exact text_new _ _ | exact text_first _ _ _ | exact news_alloc (text_new _ _) | exact text_new2 _ _ _
                case f47 => exact hmx
                case g47 => exact hby1
                case h47 => (simp; omega)
                intro ga ca2 wa hownA hgrowA hatA hltA
                refine hK.out _ _ ⟨hHeld.1.grown hgrowA (HNa.out _ (by omega)), hHeld.2.grown hgrowA (HNa.out _ (by omega))⟩ (fun hHeld => ?_)
                clear hK K
                try simp only [Act.put, List.setIfInBounds_toArray, List.set_cons_zero, List.set_cons_succ]
                refine M_take 10 (oi := { dst := some 71, op := Op.fieldAddr 25 (Operand.tmp 7) 4, type := 0, pos := "json.go:121", after := #[{ on := 0, ground := Ground.phase }, { on := 1, ground := Ground.phase }, { on := 2, ground := Ground.phase }, { on := 3, ground := Ground.phase }, { on := 4, ground := Ground.phase }, { on := 5, ground := Ground.phase }, { on := 6, ground := Ground.phase }, { on := 7, ground := Ground.textOnly Departure.lateStores }, { on := 8, ground := Ground.textOnly Departure.lateStores }, { on := 9, ground := Ground.textOnly Departure.lateStoresUnsure }], guard := none }) (v := ?vv48) rfl (by kernel_rfl) (by kernel_rfl) (by kernel_rfl) (by kernel_rfl) (by kernel_rfl) (by decide) (by decide) (by kernel_rfl) (fun _ _ _ h => h) hHeld (Or.inl ⟨by rfl, ?hy48⟩) ?_
                case hy48 => (intro w' hSw; have r4 := hSw.1.c4; have r5 := hSw.1.c5; have s0 := hSw.2.c0; have s1 := hSw.2.c1; have s2 := hSw.2.c2; have s3 := hSw.2.c3; have s4 := hSw.2.c4; have s5 := hSw.2.c5; go_simp; try (with_reducible rfl))
                try simp only [Act.put, List.setIfInBounds_toArray, List.set_cons_zero, List.set_cons_succ]
                refine M_ready [9] (by kernel_rfl) (by decide) ?_
                refine AllM.cons (i := 9) (o := { dst := some 70, op := Op.call { callee := Callee.builtin Builtin.append, args := #[Operand.tmp 67, Operand.tmp 69], argTypes := #[23, 23] }, type := 23, pos := "json.go:121", after := #[{ on := 6, ground := Ground.data }, { on := 8, ground := Ground.data }, { on := 4, ground := Ground.chain }], guard := none }) rfl (fun K hK => ?_) ?_
                · refine step_append_lies _ rfl (.tmp 67) (.tmp 69) 23 rfl (B + 4) 25 iV (.agg #[.int .i64 0, .bool false, .int .i64 0, .string ⟨#[]⟩, .slice none 0 0, .slice none 0 0]) 6 88 Tryz.underlying23 hiV hzV0 hzV1 hzV2 rfl (by decide) (.slice pb done.length cb) done.length (us.flatMap six3) ?a49 ?b49 ?_ 1 1 (six3 (headJ n j, .slice p1 k1 c1, .slice p2 k2 c2)) ?c49 ?d49 ?e49 (six_one wr _ _ _ _ _ _ _) (by decide) ?f49 ?g49 ?h49 _ rfl ?_
                  case a49 => rfl
                  case c49 => rfl
                  case d49 => rfl
                  case b49 => first | exact World.ownsRow.alloc (World.ownsRow.kept (World.ownsRow.alloc HUo.out _) hgrowA HApp.out) _ | exact World.ownsRow.kept (World.ownsRow.alloc (World.ownsRow.alloc HUo.out _) _) hgrowA HApp.out
                  case e49 => first | exact six_new _ _ _ _ | exact news_grown (six_new _ _ _ _) hgrowA (HNw.out _ (by simp)) | exact news_grown (news_alloc (six_new _ _ _ _)) hgrowA (HNw.out _ (by simp)) | exact news_grown (six_first _ _ _ _ _) hgrowA (HNw.out _ (by simp)) | exact news_grown (six_new2 _ _ _ _ _) hgrowA (HNw.out _ (by simp))
                  case f49 => exact hmx2
                  case g49 => exact hby2
                  case h49 => (have := hgrowA.size; simp at this; simp; omega)
                  intro gb cb2 wb hownB hgrowB hatB hltB
                  refine hK.out _ _ ⟨hHeld.1.grown hgrowB (HNb.out _ (by omega)), hHeld.2.grown hgrowB (HNb.out _ (by omega))⟩ (fun hHeld => ?_)
                  clear hK K
                  try simp only [Act.put, List.setIfInBounds_toArray, List.set_cons_zero, List.set_cons_succ]
                  refine M_tail [{ dst := none, op := Op.store 22 (Operand.tmp 71) (Operand.tmp 65), type := 0, pos := "json.go:121", after := #[{ on := 10, ground := Ground.data }, { on := 4, ground := Ground.data }, { on := 9, ground := Ground.chain }, { on := 0, ground := Ground.phase }, { on := 1, ground := Ground.phase }, { on := 2, ground := Ground.phase }, { on := 3, ground := Ground.phase }, { on := 4, ground := Ground.phase }, { on := 5, ground := Ground.phase }, { on := 6, ground := Ground.phase }, { on := 7, ground := Ground.textOnly Departure.lateStores }, { on := 8, ground := Ground.textOnly Departure.lateStores }, { on := 9, ground := Ground.textOnly Departure.lateStoresUnsure }], guard := none }, { dst := some 72, op := Op.fieldAddr 25 (Operand.tmp 7) 5, type := 0, pos := "json.go:121", after := #[{ on := 0, ground := Ground.phase }, { on := 1, ground := Ground.phase }, { on := 2, ground := Ground.phase }, { on := 3, ground := Ground.phase }, { on := 4, ground := Ground.phase }, { on := 5, ground := Ground.phase }, { on := 6, ground := Ground.phase }, { on := 7, ground := Ground.phase }, { on := 8, ground := Ground.phase }, { on := 9, ground := Ground.phase }, { on := 10, ground := Ground.phase }, { on := 11, ground := Ground.phase }], guard := none }, { dst := none, op := Op.store 23 (Operand.tmp 72) (Operand.tmp 70), type := 0, pos := "json.go:121", after := #[{ on := 12, ground := Ground.data }, { on := 9, ground := Ground.data }, { on := 11, ground := Ground.chain }, { on := 0, ground := Ground.phase }, { on := 1, ground := Ground.phase }, { on := 2, ground := Ground.phase }, { on := 3, ground := Ground.phase }, { on := 4, ground := Ground.phase }, { on := 5, ground := Ground.phase }, { on := 6, ground := Ground.phase }, { on := 7, ground := Ground.phase }, { on := 8, ground := Ground.phase }, { on := 9, ground := Ground.phase }, { on := 10, ground := Ground.phase }, { on := 11, ground := Ground.phase }], guard := none }] rfl (by kernel_rfl) (by kernel_rfl) ?_
                  have o4 := hHeld.1.c4
                  have o5 := hHeld.1.c5
                  have x4 := hHeld.1.free 4
                  have x5 := hHeld.1.free 5
                  clear hHeld
                  go_wp2_with fail
                  go_meet
                  case rel => exact ⟨done ++ [(nm.data.toList, j)], _, _, HC.out, set_join HS.out HXx.out hul HUe.out (by first | exact grown_one _ _ | exact grown_two _ _ _) hgrowA hownA (nm_eta nm) (by first | exact grown_refl _ | exact World.grownBy_alloc _ _ _) hgrowB hownB (by rcases hatB with h | h; exact Or.inl h; exact Or.inr (by first | omega | (simp; omega) | (simp at h ⊢; omega)))⟩
                exact AllM.nil
              exact AllM.nil
            exact AllM.nil
          exact AllM.nil
      clear HS
      obtain ⟨done, vn, vl, hset, hS⟩ := hcut
      obtain ⟨pa, ca, hva⟩ := hS.names.shape
      obtain ⟨pb, cb, hvb⟩ := hS.vals.shape
      rw [List.length_map] at hva hvb
      subst hva hvb
      have HSet : Hid (setF fs nm.data.toList j = done) := hset
      have HS : Hid (SetAt av w B pn pl fs.length cn cl (headJ n j) p1 p2 k1 c1 k2 c2 done wc (.slice pa done.length ca) (.slice pb done.length cb)) := hS
      have HO : Hid (Box wc (B + 1 + 1 + 1) ⟨6, false, 0, []⟩ (.slice pa done.length ca) (.slice pb done.length cb)) := hS.b3
      have HZ : Hid (Box wc (B + 1 + 1) ⟨0, false, 0, []⟩ (.slice none 0 0) (.slice none 0 0)) := hS.b2
      have o0 := HO.out.c0
      have o1 := HO.out.c1
      have o2 := HO.out.c2
      have o3 := HO.out.c3
      have o4 := HO.out.c4
      have o5 := HO.out.c5
      have f0 := HZ.out.free 0
      have f1 := HZ.out.free 1
      have f2 := HZ.out.free 2
      have f3 := HZ.out.free 3
      have f4 := HZ.out.free 4
      have f5 := HZ.out.free 5
      have z0 := HZ.out.c0
      have z1 := HZ.out.c1
      have z2 := HZ.out.c2
      have z3 := HZ.out.c3
      have z4 := HZ.out.c4
      have z5 := HZ.out.c5
      clear hset hS
      go_wp2_with fail
      have e6 : Box (put6 wc (B + 1 + 1) (.int .i64 6) (.bool false) (.int .i64 0) (.string ⟨#[]⟩) (.slice pa done.length ca) (.slice pb done.length cb)) (B + 1 + 1) ⟨6, false, 0, []⟩ (.slice pa done.length ca) (.slice pb done.length cb) := put6_box HZ.out ⟨6, false, 0, []⟩ (.slice pa done.length ca) (.slice pb done.length cb)
      have g6 := put6_grown wc (B + 1 + 1) (.int .i64 6) (.bool false) (.int .i64 0) (.string ⟨#[]⟩) (.slice pa done.length ca) (.slice pb done.length cb)
      change bodyPost _ _ _ _ _ (put6 wc (B + 1 + 1) _ _ _ _ _ _)
      generalize put6 wc (B + 1 + 1) (.int .i64 6) (.bool false) (.int .i64 0) (.string ⟨#[]⟩) (.slice pa done.length ca) (.slice pb done.length cb) = W at *
      exact bodyPost_ret (v := rfV ⟨6, false, 0, []⟩ (.slice pa done.length ca) (.slice pb done.length cb)) (by simp [results, Tryz.results56, go_sem, rfV, e6.c0, e6.c1, e6.c2, e6.c3, e6.c4, e6.c5]) rfl ⟨by
          have h9 := HS.out.below.grown g6 (by have := HS.out.size; omega) (fun k e => by cases e; omega)
          rw [HBe.out] at h9
          exact h9, _, _, rfl, by
          rw [HSet.out]
          exact (HS.out.names.far g6 (fun k e => by cases e; omega)).strs (fun c hc => HAv.out c (by have := HBe.out; omega)), by
          rw [HSet.out]
          exact (HS.out.vals.far g6 (fun k e => by cases e; exact ⟨by omega, Or.inr (by omega)⟩)).valsTo (fun c hc => HAv.out c (by have := HBe.out; omega)) (fun c h => Or.inl h)⟩
end Go.Proofs.YtaogilpkeeigoaaGreatDoor
