/- Contracts over this translation of the document's Eq at texts, SameRule, SameAll at rules. -/
import Derived.Test.YtnjjlnhchfoigaaGrRules
import Derived.Test.YtnjjlnhchfoigaaRfOrd
namespace Go.Proofs.Ytnjjlnhchfoigaa
open Go.RowKit
set_option linter.unusedVariables false
set_option linter.unusedSimpArgs false
theorem ba_injT {a b : Bs} : ((⟨a.toArray⟩ : ByteArray).toList == (⟨b.toArray⟩ : ByteArray).toList) = (a == b) := by
  rw [ByteArray.toList_eq, ByteArray.toList_eq]
theorem eq_atT {l m : List Bs} (h : l.length = m.length) {k : Nat} (hk : k < l.length) (hne : l[k] ≠ m[k]'(by omega)) : (l == m) = false := by
  rw [beq_eq_false_iff_ne]
  rintro rfl
  exact hne rfl
theorem eq_allT {l m : List Bs} (h : l.length = m.length) (ha : ∀ k (hk : k < l.length), l[k] = m[k]'(by omega)) : (l == m) = true := by
  rw [beq_iff_eq]
  exact List.ext_getElem h (fun k h1 h2 => ha k h1)
set_option maxRecDepth 100000 in
set_option maxHeartbeats 2000000 in
theorem rfeq_any (a b : Value) (l m : List Bs) (w : World) (ha : Strs w a l) (hb : Strs w b m) :
    Calls Try.prog 39 #[a, b] w fun e w' => e = .returned (.bool (l == m)) ∧ Below w.heap.size w w' := by
  by_cases hl : l.length = m.length
  · rcases ha with ⟨rfl, p0, c0, rfl⟩ | ⟨g, o, cap, rfl, h1, h2, h3, h4⟩
    · have hm : m = [] := List.eq_nil_of_length_eq_zero hl.symm
      subst hm
      have : ∃ p c, b = .slice p 0 c := by
        rcases hb with ⟨_, _, _, rfl⟩ | ⟨g, o, cap, rfl, _⟩
        · exact ⟨_, _, rfl⟩
        · exact ⟨_, _, rfl⟩
      obtain ⟨p, c, rfl⟩ := this
      clear hb hl
      go_enter Try.func39, Try.ntmps39
      go_wp2_with fail
      go_loopw [14] (fun i wr => i = .int .i64 0 ∧ wr = w) (fun _ _ => 0)
      case atStart => exact ⟨rfl, rfl⟩
      case round =>
        obtain ⟨rfl, rfl⟩ := hrel
        go_wp2_with fail
        go_ret
        exact ⟨rfl, Below.refl _ _⟩
    · have hb' : ∃ p c, b = .slice p m.length c ∧ ∀ k (hk : k < m.length), ∃ g o, p = some ⟨g, o, none⟩ ∧ m.length ≤ c ∧ ∀ w1, Below w.heap.size w w1 → w1.cell? ⟨g, o + k, none⟩ = some (.string ⟨m[k].toArray⟩) := by
        rcases hb with ⟨rfl, _, _, rfl⟩ | ⟨g', o', cap', rfl, k1, k2, k3, k4⟩
        · exact ⟨_, _, rfl, fun k hk => by simp at hk⟩
        · exact ⟨_, _, rfl, fun k hk => ⟨g', o', rfl, k1, fun w1 hb => by rw [hb.cell (p := ⟨g', o' + k, none⟩) k3]; exact k4 k _ (List.getElem?_eq_getElem hk)⟩⟩
      obtain ⟨p, c, rfl, hB⟩ := hb'
      have HA : Hid (∀ w1, Below w.heap.size w w1 → ∀ k (hk : k < l.length), w1.cell? ⟨g, o + k, none⟩ = some (.string ⟨l[k].toArray⟩)) := fun w1 hb k hk => by rw [hb.cell (p := ⟨g, o + k, none⟩) h3]; exact h4 k _ (List.getElem?_eq_getElem hk)
      have HB : Hid (∀ k (hk : k < m.length), ∃ g o, p = some ⟨g, o, none⟩ ∧ m.length ≤ c ∧ ∀ w1, Below w.heap.size w w1 → w1.cell? ⟨g, o + k, none⟩ = some (.string ⟨m[k].toArray⟩)) := hB
      have HT : Hid ((∀ k (hk : k < l.length), l[k] = m[k]'(by omega)) → (l == m) = true) := eq_allT hl
      have HF : Hid (∀ k (hk : k < l.length), l[k] ≠ m[k]'(by omega) → (l == m) = false) := fun k hk => eq_atT hl hk
      unfold maxLen at h2
      clear hB hb h4
      have hlm : ((l.length : Int) != (m.length : Int)) = false := by rw [hl]; simp
      generalize (l == m) = res at *
      go_enter Try.func39, Try.ntmps39
      go_wp2_with fail
      go_loopw [14] (fun i wr => ∃ k : Nat, k ≤ l.length ∧ i = .int .i64 k ∧ (∀ q (hq : q < l.length), q < k → l[q] = m[q]'(by omega)) ∧ Below w.heap.size w wr) (fun i _ => l.length - (intOf i).toNat)
      case atStart => exact ⟨0, Nat.zero_le _, rfl, fun q hq h => absurd h (Nat.not_lt_zero _), Below.refl _ _⟩
      case round =>
        obtain ⟨k, hk, rfl, hall, hbel⟩ := hrel
        have HBe : Hid (Below w.heap.size w wr) := hbel
        clear hbel
        have HAl : Hid (∀ q (hq : q < l.length), q < k → l[q] = m[q]'(by omega)) := hall
        clear hall
        by_cases hlt : k < l.length
        · have hkm : k < m.length := by omega
          have c1 := HA.out wr HBe.out k hlt
          obtain ⟨g2, o2, rfl, hmc, c2'⟩ := HB.out k hkm
          have c2 := c2' wr HBe.out
          clear c2'
          have HFk : Hid (l[k] ≠ m[k] → res = false) := HF.out k hlt
          have HEq : Hid (((⟨l[k].toArray⟩ : ByteArray).toList == (⟨m[k].toArray⟩ : ByteArray).toList) = (l[k] == m[k])) := ba_injT
          by_cases hx : l[k] = m[k]
          · have HX : Hid (l[k] = m[k]) := hx
            have hne : (((⟨l[k].toArray⟩ : ByteArray).toList == (⟨m[k].toArray⟩ : ByteArray).toList)) = true := by rw [HEq.out, hx]; simp
            clear hx
            generalize (⟨l[k].toArray⟩ : ByteArray) = y at *
            generalize (⟨m[k].toArray⟩ : ByteArray) = z at *
            go_wp2_with fail
            go_roundw
            case rel => exact ⟨k + 1, by omega, by go_num, (fun q hq h => by
              rcases Nat.lt_succ_iff_lt_or_eq.1 h with h | h
              · exact HAl.out q hq h
              · subst h; exact HX.out), HBe.out⟩
            case measure => simp [intOf]; omega
          · have hne : (((⟨l[k].toArray⟩ : ByteArray).toList == (⟨m[k].toArray⟩ : ByteArray).toList)) = false := by rw [HEq.out]; simp [hx]
            have HX : Hid (res = false) := HFk.out hx
            clear hx
            generalize (⟨l[k].toArray⟩ : ByteArray) = y at *
            generalize (⟨m[k].toArray⟩ : ByteArray) = z at *
            go_wp2_with fail
            go_ret
            exact ⟨by rw [HX.out]; rfl, HBe.out⟩
        · have HX : Hid (res = true) := HT.out (fun q hq => HAl.out q hq (by omega))
          go_wp2_with fail
          go_ret
          exact ⟨by rw [HX.out]; rfl, HBe.out⟩
  · have HX : Hid ((l == m) = false) := by
      show _ = false
      rw [beq_eq_false_iff_ne]
      rintro rfl
      exact hl rfl
    have h1 : ∃ p c, a = .slice p l.length c := by
      rcases ha with ⟨rfl, _, _, rfl⟩ | ⟨g, o, cap, rfl, _⟩ <;> exact ⟨_, _, rfl⟩
    have h2 : ∃ p c, b = .slice p m.length c := by
      rcases hb with ⟨rfl, _, _, rfl⟩ | ⟨g, o, cap, rfl, _⟩ <;> exact ⟨_, _, rfl⟩
    obtain ⟨p, c, rfl⟩ := h1
    obtain ⟨p2, c2, rfl⟩ := h2
    have hlm : ((l.length : Int) != (m.length : Int)) = true := by rw [bne_iff_ne]; omega
    clear ha hb
    generalize (l == m) = res at *
    go_enter Try.func39, Try.ntmps39
    go_wp2_with fail
    go_ret
    exact ⟨by rw [HX.out]; rfl, Below.refl _ _⟩

theorem cell_lt2 {W : World} {a : Addr} {v : Value} (h : W.cell? a = some v) : a.block < W.heap.size := by
  rcases Nat.lt_or_ge a.block W.heap.size with h1 | h1
  · exact h1
  · simp [World.cell?, Array.getElem?_eq_none h1] at h
theorem cell_stays2 {w w' : World} {a : Addr} {v : Value} (h : w.cell? a = some v) (hb : Below w.heap.size w w') : w'.cell? a = some v := by
  rw [hb.cell (cell_lt2 h)]; exact h
theorem eq_self (l : List Bs) : (l == l) = true := by simp
set_option maxRecDepth 100000 in
set_option maxHeartbeats 4000000 in
theorem sameRule_any (r : Rl) (a b c a' b' c' : Value) (w : World) (ha : Strs w a r.1) (hb : Strs w b r.2.1) (hc : Strs w c r.2.2) (ha' : Strs w a' r.1) (hb' : Strs w b' r.2.1) (hc' : Strs w c' r.2.2) :
    Calls Try.prog 16 #[.agg #[a, b, c], .agg #[a', b', c']] w fun e w' => e = .returned (.bool true) ∧ Below w.heap.size w w' := by
  have HE1 : Hid (∀ w1, Below w.heap.size w w1 → Calls Try.prog 39 #[a, a'] w1 fun e w' => e = .returned (.bool true) ∧ Below w1.heap.size w1 w') := fun w1 hb => by
    have h := rfeq_any a a' r.1 r.1 w1 (ha.below hb) (ha'.below hb)
    rw [eq_self] at h; exact h
  have HE2 : Hid (∀ w1, Below w.heap.size w w1 → Calls Try.prog 39 #[b, b'] w1 fun e w' => e = .returned (.bool true) ∧ Below w1.heap.size w1 w') := fun w1 h1 => by
    have h := rfeq_any b b' r.2.1 r.2.1 w1 (hb.below h1) (hb'.below h1)
    rw [eq_self] at h; exact h
  have HE3 : Hid (∀ w1, Below w.heap.size w w1 → Calls Try.prog 39 #[c, c'] w1 fun e w' => e = .returned (.bool true) ∧ Below w1.heap.size w1 w') := fun w1 h1 => by
    have h := rfeq_any c c' r.2.2 r.2.2 w1 (hc.below h1) (hc'.below h1)
    rw [eq_self] at h; exact h
  obtain ⟨p1, c1, rfl, _⟩ := ha.form
  obtain ⟨p2, c2, rfl, _⟩ := hb.form
  obtain ⟨p3, c3, rfl, _⟩ := hc.form
  obtain ⟨p4, c4, rfl, _⟩ := ha'.form
  obtain ⟨p5, c5, rfl, _⟩ := hb'.form
  obtain ⟨p6, c6, rfl, _⟩ := hc'.form
  clear ha hb hc ha' hb' hc'
  generalize r.1.length = n1 at *
  generalize r.2.1.length = n2 at *
  generalize r.2.2.length = n3 at *
  have HBx : Hid (∀ w1, Below ((w.alloc (.cells #[.slice p1 n1 c1, .slice p2 n2 c2, .slice p3 n3 c3] 42)).alloc (.cells #[.slice p4 n1 c4, .slice p5 n2 c5, .slice p6 n3 c6] 42)).heap.size ((w.alloc (.cells #[.slice p1 n1 c1, .slice p2 n2 c2, .slice p3 n3 c3] 42)).alloc (.cells #[.slice p4 n1 c4, .slice p5 n2 c5, .slice p6 n3 c6] 42)) w1 →
      (w1.cell? ⟨w.heap.size, 0, none⟩ = some (.slice p1 n1 c1) ∧ w1.cell? ⟨w.heap.size, 1, none⟩ = some (.slice p2 n2 c2) ∧ w1.cell? ⟨w.heap.size, 2, none⟩ = some (.slice p3 n3 c3)) ∧ w1.cell? ⟨w.heap.size + 1, 0, none⟩ = some (.slice p4 n1 c4) ∧ w1.cell? ⟨w.heap.size + 1, 1, none⟩ = some (.slice p5 n2 c5) ∧ w1.cell? ⟨w.heap.size + 1, 2, none⟩ = some (.slice p6 n3 c6)) := fun w1 h => by
    have h0 : Below (w.alloc (.cells #[.slice p1 n1 c1, .slice p2 n2 c2, .slice p3 n3 c3] 42)).heap.size (w.alloc (.cells #[.slice p1 n1 c1, .slice p2 n2 c2, .slice p3 n3 c3] 42)) w1 := ((Below.refl _ _).alloc (Nat.le_refl _) _).trans (h.mono (by simp))
    have k := bx3 h
    have hs : (w.alloc (.cells #[.slice p1 n1 c1, .slice p2 n2 c2, .slice p3 n3 c3] 42)).heap.size = w.heap.size + 1 := by simp
    rw [hs] at k
    exact ⟨bx3 h0, k⟩
  obtain ⟨w0, hw0⟩ : ∃ w0, w0 = (w.alloc (.cells #[.slice p1 n1 c1, .slice p2 n2 c2, .slice p3 n3 c3] 42)).alloc (.cells #[.slice p4 n1 c4, .slice p5 n2 c5, .slice p6 n3 c6] 42) := ⟨_, rfl⟩
  have hB0 : Below w.heap.size w w0 := by rw [hw0]; exact ((Below.refl _ _).alloc (Nat.le_refl _) _).alloc (by simp) _
  have HB0 : Hid (Below w.heap.size w w0) := hB0
  rw [← hw0] at HBx
  have HW0 : Hid (w0 = (w.alloc (.cells #[.slice p1 n1 c1, .slice p2 n2 c2, .slice p3 n3 c3] 42)).alloc (.cells #[.slice p4 n1 c4, .slice p5 n2 c5, .slice p6 n3 c6] 42)) := hw0
  clear hw0 hB0
  go_enter Try.func16, Try.ntmps16
  go_wp2_with fail
  rw [← HW0.out]
  refine Calls.mono (HE1.out _ HB0.out) ?_
  rintro e w1 ⟨rfl, bb⟩
  have HB1 : Hid (Below w.heap.size w w1) := HB0.out.trans (bb.mono HB0.out.size)
  have HC1 : Hid (Below w0.heap.size w0 w1) := bb
  clear bb
  obtain ⟨⟨z0, z1, z2⟩, z3, z4, z5⟩ := HBx.out w1 HC1.out
  go_wp2_with fail
  refine Calls.mono (HE2.out _ HB1.out) ?_
  rintro e w2 ⟨rfl, bb⟩
  have HB2 : Hid (Below w.heap.size w w2) := HB1.out.trans (bb.mono HB1.out.size)
  have HC2 : Hid (Below w0.heap.size w0 w2) := HC1.out.trans (bb.mono HC1.out.size)
  clear bb z0 z1 z2 z3 z4 z5
  obtain ⟨⟨z0, z1, z2⟩, z3, z4, z5⟩ := HBx.out w2 HC2.out
  go_wp2_with fail
  refine Calls.mono (HE3.out _ HB2.out) ?_
  rintro e w3 ⟨rfl, bb⟩
  have HB3 : Hid (Below w.heap.size w w3) := HB2.out.trans (bb.mono HB2.out.size)
  clear bb z0 z1 z2 z3 z4 z5
  go_wp2_with fail
  go_ret
  exact ⟨rfl, HB3.out⟩
set_option maxRecDepth 100000 in
set_option maxHeartbeats 4000000 in
theorem sameAll_any (u v : Value) (l : List Rl) (w : World) (hu : Rls w u l) (hv : Rls w v l) :
    Calls Try.prog 15 #[u, v, .func (.func 16) #[] #[]] w fun e w' => e = .returned (.bool true) ∧ Below w.heap.size w w' := by
  obtain ⟨p, c, rfl, hn, hcell⟩ := rls_open hu
  obtain ⟨p2, c2, rfl, hn2, hcell2⟩ := rls_open hv
  have HC : Hid (∀ k (hk : k < l.length), ∃ g o q1 m1 d1 q2 m2 d2 q3 m3 d3 g' o' r1 s1 t1 r2 s2 t2 r3 s3 t3, p = some ⟨g, o, none⟩ ∧ l.length ≤ c ∧ p2 = some ⟨g', o', none⟩ ∧ l.length ≤ c2 ∧
      (∀ w1, Below w.heap.size w w1 → (w1.cell? ⟨g, o + k * 3, none⟩ = some (.slice q1 m1 d1) ∧ w1.cell? ⟨g, o + k * 3 + 1, none⟩ = some (.slice q2 m2 d2) ∧ w1.cell? ⟨g, o + k * 3 + 2, none⟩ = some (.slice q3 m3 d3)) ∧
        w1.cell? ⟨g', o' + k * 3, none⟩ = some (.slice r1 s1 t1) ∧ w1.cell? ⟨g', o' + k * 3 + 1, none⟩ = some (.slice r2 s2 t2) ∧ w1.cell? ⟨g', o' + k * 3 + 2, none⟩ = some (.slice r3 s3 t3)) ∧
      ∀ w1, Below w.heap.size w w1 → Calls Try.prog 16 #[.agg #[.slice q1 m1 d1, .slice q2 m2 d2, .slice q3 m3 d3], .agg #[.slice r1 s1 t1, .slice r2 s2 t2, .slice r3 s3 t3]] w1 fun e w' => e = .returned (.bool true) ∧ Below w1.heap.size w1 w') := fun k hk => by
    obtain ⟨g, o, h1, h2, h3, h4⟩ := hcell k hk
    obtain ⟨g', o', h1', h2', h3', h4'⟩ := hcell2 k hk
    obtain ⟨q1, m1, d1, q2, m2, d2, q3, m3, d3, k1, k2, k3, x1, x2, x3⟩ := h4 w (Below.refl _ _)
    obtain ⟨r1, s1, t1, r2, s2, t2, r3, s3, t3, k1', k2', k3', x1', x2', x3'⟩ := h4' w (Below.refl _ _)
    exact ⟨g, o, q1, m1, d1, q2, m2, d2, q3, m3, d3, g', o', r1, s1, t1, r2, s2, t2, r3, s3, t3, h1, h2, h1', h2', fun w1 hb => ⟨⟨cell_stays2 k1 hb, cell_stays2 k2 hb, cell_stays2 k3 hb⟩, cell_stays2 k1' hb, cell_stays2 k2' hb, cell_stays2 k3' hb⟩,
      fun w1 hb => sameRule_any l[k] _ _ _ _ _ _ w1 (x1.below hb) (x2.below hb) (x3.below hb) (x1'.below hb) (x2'.below hb) (x3'.below hb)⟩
  clear hcell hcell2 hu hv
  unfold maxLen at hn hn2
  generalize l.length = ln at *
  go_enter Try.func15, Try.ntmps15
  go_wp2_with fail
  go_loopw [15] (fun i wr => ∃ k : Nat, k ≤ ln ∧ i = .int .i64 k ∧ Below w.heap.size w wr) (fun i _ => ln - (intOf i).toNat)
  case atStart => exact ⟨0, Nat.zero_le _, rfl, Below.refl _ _⟩
  case round =>
    obtain ⟨k, hk, rfl, hbel⟩ := hrel
    have HB : Hid (Below w.heap.size w wr) := hbel
    clear hbel
    by_cases hlt : k < ln
    · obtain ⟨g, o, q1, m1, d1, q2, m2, d2, q3, m3, d3, g', o', r1, s1, t1, r2, s2, t2, r3, s3, t3, rfl, hc1, rfl, hc2, hcl, hcall⟩ := HC.out k hlt
      have HCl : Hid (_) := hcl
      have HCa : Hid (_) := hcall
      have hkI : (k : Int) < (ln : Int) := by omega
      clear hcl hcall
      go_wp2_with fail
      refine M_begin 10 11 (fun w' => Below wr.heap.size wr w') (by kernel_rfl) rfl ?_
      have hHeld : (fun w' => Below wr.heap.size wr w') wr.drew := (Below.refl _ _).drew
      refine M_take 0 (oi := { dst := some 18, op := Op.move (Operand.tmp 2), type := 43, pos := "json.go:29", after := #[], guard := none }) (v := ?vt1) rfl (by kernel_rfl) (by kernel_rfl) (by kernel_rfl) (by kernel_rfl) (by kernel_rfl) (by decide) (by decide) (by kernel_rfl) (fun _ _ _ h => h) hHeld ?hy1 ?_
      case hy1 => exact (Or.inl ⟨by rfl, by (intro w' hSw; go_simp; try (with_reducible rfl))⟩)
      try simp only [Act.put, List.setIfInBounds_toArray, List.set_cons_zero, List.set_cons_succ]
      refine M_take 1 (oi := { dst := some 19, op := Op.move (Operand.tmp 0), type := 35, pos := "json.go:29", after := #[], guard := none }) (v := ?vt2) rfl (by kernel_rfl) (by kernel_rfl) (by kernel_rfl) (by kernel_rfl) (by kernel_rfl) (by decide) (by decide) (by kernel_rfl) (fun _ _ _ h => h) hHeld ?hy2 ?_
      case hy2 => exact (Or.inl ⟨by rfl, by (intro w' hSw; go_simp; try (with_reducible rfl))⟩)
      try simp only [Act.put, List.setIfInBounds_toArray, List.set_cons_zero, List.set_cons_succ]
      refine M_take 2 (oi := { dst := some 20, op := Op.move (Operand.tmp 7), type := 3, pos := "json.go:29", after := #[], guard := none }) (v := ?vt3) rfl (by kernel_rfl) (by kernel_rfl) (by kernel_rfl) (by kernel_rfl) (by kernel_rfl) (by decide) (by decide) (by kernel_rfl) (fun _ _ _ h => h) hHeld ?hy3 ?_
      case hy3 => exact (Or.inl ⟨by rfl, by (intro w' hSw; go_simp; try (with_reducible rfl))⟩)
      try simp only [Act.put, List.setIfInBounds_toArray, List.set_cons_zero, List.set_cons_succ]
      refine M_take 3 (oi := { dst := some 21, op := Op.indexAddr 35 (Operand.tmp 19) (Operand.tmp 20), type := 0, pos := "json.go:29", after := #[{ on := 1, ground := Ground.data }, { on := 2, ground := Ground.data }], guard := none }) (v := .pointer (some ⟨g, o + k * 3, none⟩)) rfl (by kernel_rfl) (by kernel_rfl) (by kernel_rfl) (by kernel_rfl) (by kernel_rfl) (by decide) (by decide) (by kernel_rfl) (fun _ _ _ h => h) hHeld ?hy4 ?_
      case hy4 => exact (Or.inl ⟨by rfl, by (intro w' hSw; go_simp; try (with_reducible rfl))⟩)
      try simp only [Act.put, List.setIfInBounds_toArray, List.set_cons_zero, List.set_cons_succ]
      refine M_take 4 (oi := { dst := some 22, op := Op.load 42 (Operand.tmp 21), type := 42, pos := "json.go:29", after := #[{ on := 3, ground := Ground.data }], guard := none }) (v := .agg #[.slice q1 m1 d1, .slice q2 m2 d2, .slice q3 m3 d3]) rfl (by kernel_rfl) (by kernel_rfl) (by kernel_rfl) (by kernel_rfl) (by kernel_rfl) (by decide) (by decide) (by kernel_rfl) (fun _ _ _ h => h) hHeld ?hy5 ?_
      case hy5 => exact (Or.inl ⟨by rfl, by (intro w' hSw; obtain ⟨⟨z0, z1, z2⟩, z3, z4, z5⟩ := HCl.out w' (HB.out.trans (hSw.mono HB.out.size)); go_simp; try (with_reducible rfl))⟩)
      try simp only [Act.put, List.setIfInBounds_toArray, List.set_cons_zero, List.set_cons_succ]
      refine M_take 5 (oi := { dst := some 23, op := Op.move (Operand.tmp 1), type := 35, pos := "json.go:29", after := #[], guard := none }) (v := ?vt6) rfl (by kernel_rfl) (by kernel_rfl) (by kernel_rfl) (by kernel_rfl) (by kernel_rfl) (by decide) (by decide) (by kernel_rfl) (fun _ _ _ h => h) hHeld ?hy6 ?_
      case hy6 => exact (Or.inl ⟨by rfl, by (intro w' hSw; go_simp; try (with_reducible rfl))⟩)
      try simp only [Act.put, List.setIfInBounds_toArray, List.set_cons_zero, List.set_cons_succ]
      refine M_take 6 (oi := { dst := some 24, op := Op.move (Operand.tmp 7), type := 3, pos := "json.go:29", after := #[], guard := none }) (v := ?vt7) rfl (by kernel_rfl) (by kernel_rfl) (by kernel_rfl) (by kernel_rfl) (by kernel_rfl) (by decide) (by decide) (by kernel_rfl) (fun _ _ _ h => h) hHeld ?hy7 ?_
      case hy7 => exact (Or.inl ⟨by rfl, by (intro w' hSw; go_simp; try (with_reducible rfl))⟩)
      try simp only [Act.put, List.setIfInBounds_toArray, List.set_cons_zero, List.set_cons_succ]
      refine M_take 7 (oi := { dst := some 25, op := Op.indexAddr 35 (Operand.tmp 23) (Operand.tmp 24), type := 0, pos := "json.go:29", after := #[{ on := 5, ground := Ground.data }, { on := 6, ground := Ground.data }], guard := none }) (v := (.pointer (some ⟨g', o' + k * 3, none⟩))) rfl (by kernel_rfl) (by kernel_rfl) (by kernel_rfl) (by kernel_rfl) (by kernel_rfl) (by decide) (by decide) (by kernel_rfl) (fun _ _ _ h => h) hHeld ?hy8 ?_
      case hy8 => exact (Or.inl ⟨by rfl, by (intro w' hSw; go_simp; try (with_reducible rfl))⟩)
      try simp only [Act.put, List.setIfInBounds_toArray, List.set_cons_zero, List.set_cons_succ]
      refine M_take 8 (oi := { dst := some 26, op := Op.load 42 (Operand.tmp 25), type := 42, pos := "json.go:29", after := #[{ on := 7, ground := Ground.data }], guard := none }) (v := .agg #[.slice r1 s1 t1, .slice r2 s2 t2, .slice r3 s3 t3]) rfl (by kernel_rfl) (by kernel_rfl) (by kernel_rfl) (by kernel_rfl) (by kernel_rfl) (by decide) (by decide) (by kernel_rfl) (fun _ _ _ h => h) hHeld ?hy9 ?_
      case hy9 => exact (Or.inl ⟨by rfl, by (intro w' hSw; obtain ⟨⟨z0, z1, z2⟩, z3, z4, z5⟩ := HCl.out w' (HB.out.trans (hSw.mono HB.out.size)); go_simp; try (with_reducible rfl))⟩)
      try simp only [Act.put, List.setIfInBounds_toArray, List.set_cons_zero, List.set_cons_succ]
      refine M_ready [9] (by kernel_rfl) (by decide) ?_
      refine AllM.cons (i := 9) (o := { dst := some 27, op := Op.call { callee := Callee.value (Operand.tmp 18), args := #[Operand.tmp 22, Operand.tmp 26], argTypes := #[42, 42] }, type := 4, pos := "json.go:29", after := #[{ on := 0, ground := Ground.data }, { on := 4, ground := Ground.data }, { on := 8, ground := Ground.data }], guard := none }) rfl (fun K hK => ?_) AllM.nil
      rw [if_pos (by rfl)]
      go_wp2_with fail
      refine Calls.mono (HCa.out _ (HB.out.trans (hHeld.mono HB.out.size))) ?_
      rintro e wc ⟨rfl, bb⟩
      dsimp only
      refine hK.out _ _ (hHeld.trans (bb.mono hHeld.size)) (fun hHeld2 => ?_)
      clear hK K hHeld bb
      have hHeld := hHeld2
      clear hHeld2
      try simp only [Act.put, List.setIfInBounds_toArray, List.set_cons_zero, List.set_cons_succ]
      refine M_tail [{ dst := some 28, op := Op.unOp UnOp.not 4 (Operand.tmp 27), type := 4, pos := "json.go:29", after := #[{ on := 9, ground := Ground.data }], guard := none }] rfl (by kernel_rfl) (by kernel_rfl) ?_
      have HB4 : Hid (Below w.heap.size w wc) := HB.out.trans (hHeld.mono HB.out.size)
      clear hHeld
      go_wp2_with fail
      go_roundw
      case rel => exact ⟨k + 1, by omega, by go_num, HB4.out⟩
      case measure => simp [intOf]; omega
    · go_wp2_with fail
      go_ret
      exact ⟨rfl, HB.out⟩
end Go.Proofs.Ytnjjlnhchfoigaa
