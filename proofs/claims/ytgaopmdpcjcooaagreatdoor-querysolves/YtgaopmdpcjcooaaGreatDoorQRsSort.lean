/- Contract over this translation of the reference's Sort, at lists of texts. -/
import Derived.Test.YtgaopmdpcjcooaaGreatDoorQRsCopy
namespace Go.Proofs.YtgaopmdpcjcooaaGreatDoor
open Go.RowKit
set_option linter.unusedVariables false
set_option linter.unusedSimpArgs false
theorem take_while_stop {p : Bs → Bool} : ∀ (S : List Bs) (m : Nat), (∀ i t, i < m → S[i]? = some t → p t = true) → (∀ t, S[m]? = some t → p t = false) → S.takeWhile p = S.take m ∧ S.dropWhile p = S.drop m
  | [], m, _, _ => by simp
  | t :: S, 0, _, h2 => by
    have := h2 t rfl
    simp [List.takeWhile_cons, List.dropWhile_cons, this]
  | t :: S, m + 1, h1, h2 => by
    have h0 := h1 0 t (by omega) rfl
    have ih := take_while_stop S m (fun i u hi hu => h1 (i + 1) u (by omega) hu) (fun u hu => h2 u hu)
    simp only [List.takeWhile_cons, List.dropWhile_cons, h0, if_true, List.take_succ_cons, List.drop_succ_cons, ih.1, ih.2]
    simp
theorem less_asym {s t : Bs} (h : less s t = true) : less t s = false := by
  cases h2 : less t s with
  | false => rfl
  | true =>
    have := m_trans h h2
    rw [m_irrefl] at this
    cases this
theorem le_split (s t : Bs) : (!less s t) = (less t s || decide (t = s)) := by
  cases h : less s t with
  | true =>
    have h1 := less_asym h
    have h2 : t ≠ s := fun e => m_ne h e.symm
    simp [h1, h2]
  | false =>
    by_cases e : t = s
    · simp [e]
    · have := less_of_not h (fun x => e x.symm)
      simp [this]
theorem wp_app_none {P : Program} {w : World} {o : Oper} {a : Act} {K : Act → World → Prop} {Q : Exit → Act → World → Prop} (s x : Operand) (t : TypeId)
    (ho : o.op = .call { callee := .builtin .append, args := #[s, x], argTypes := #[t, t] })
    (base : Nat) (e : TypeId) (i : TypeInfo) (size : Nat) (ht : P.underlying t = some (.slice e)) (hi : P.info? e = some i)
    (v : Value) (n : Nat) (xs : List Value) (hs : a.eval s = v) (hown : w.ownsRow base e size v n xs) (hx : a.eval x = .slice none 0 0)
    (h : K (a.put o.dst v) w) : o.wp P a w K Q := by
  have hrun := run_append_owned_none (P := P) (w := w) base t o.type e i size ht hi v n xs hown
  unfold Oper.wp
  simp [execOp, ho, resolve, invoke, builtin, hs, hx, hrun, Result.andThen]
  exact h
theorem OwnT.low {N N' : Nat} {w : World} {L : List Bs} {v : Value} (h : OwnT N w L v) (hN : N' ≤ N) : OwnT N' w L v := by
  obtain ⟨h1, h2⟩ := h
  refine ⟨h1, ?_⟩
  rcases h2 with h2 | ⟨g, cap, cur, e1, e2, e3⟩
  · exact Or.inl h2
  · exact Or.inr ⟨g, cap, cur, e1, Nat.le_trans hN e2, e3⟩
theorem below_grownR {w w' : World} (b : Below w.heap.size w w') : w.grownBy w' none := ⟨b.os, b.tape, b.output, b.size, fun c hc _ => b.block c hc⟩
def SInv (w : World) (L : List Bs) (o i : Value) (wr : World) : Prop :=
  ∃ (k : Nat) (S : List Bs), k ≤ L.length ∧ i = .int .i64 k ∧ sortR L = (L.drop k).foldl insS S ∧ S.length ≤ k ∧ OwnT w.heap.size wr S o ∧ Below w.heap.size w wr
set_option maxRecDepth 100000 in
set_option maxHeartbeats 8000000 in
theorem rfsort_any (L : List Bs) (v : Value) (w : World) (h : TSl w L v) (hl : L.length ≤ 100000) :
    Calls Tryz.prog 42 #[v] w fun e w' => ∃ u, e = .returned u ∧ OwnT w.heap.size w' (sortR L) u ∧ Below w.heap.size w w' := by
  obtain ⟨i0, hi, hz0, hz1, hz2⟩ := info_parts info_text
  obtain ⟨p, cap, hv, HC⟩ : ∃ p cap, v = .slice p L.length cap ∧ Hid (∀ (i : Nat) (s : Bs), L[i]? = some s → ∃ g o, p = some ⟨g, o, none⟩ ∧ g < w.heap.size ∧ w.cell? ⟨g, o + i, none⟩ = some (.string ⟨s.toArray⟩)) := by
    rcases h with ⟨rfl, rfl⟩ | ⟨g, o, cap, rfl, hc⟩
    · exact ⟨none, 0, rfl, fun i s hi => by simp at hi⟩
    · exact ⟨_, cap, rfl, fun i s hi => ⟨g, o, rfl, (hc i s hi).1, (hc i s hi).2⟩⟩
  subst hv
  obtain ⟨R, hR⟩ : ∃ R, R = sortR L := ⟨_, rfl⟩
  have HR : Hid (R = sortR L) := hR
  rw [← hR]
  clear h hR
  go_enter Tryz.func42, Tryz.ntmps42
  go_wp2_with fail
  go_loopw [3, 9] (fun o i wr => SInv w L o i wr) (fun _ i _ => L.length - (intOf i).toNat)
  case atStart => exact ⟨0, [], Nat.zero_le _, rfl, rfl, Nat.le_refl _, OwnT.nil _ _, Below.refl _ _⟩
  case round =>
    obtain ⟨k, S, hk, rfl, hS, hSl, hO, hB⟩ := hrel
    have HS : Hid (sortR L = (L.drop k).foldl insS S) := hS
    have HO : Hid _ := hO
    have HB : Hid (Below w.heap.size w wr) := hB
    clear hS hO hB
    by_cases hlt : k < L.length
    · obtain ⟨s, hsk⟩ : ∃ s, L[k]? = some s := ⟨L[k], List.getElem?_eq_getElem hlt⟩
      obtain ⟨g, o, rfl, hg, hgc⟩ := HC.out k s hsk
      obtain ⟨sb, hsb⟩ : ∃ sb : ByteArray, sb = ⟨s.toArray⟩ := ⟨_, rfl⟩
      have hsl2 : sb.data.toList = s := by rw [hsb]
      have n1 : wr.cell? ⟨g, o + k, none⟩ = some (.string sb) := by rw [hsb]; exact (HB.out.cell (p := ⟨g, o + k, none⟩) hg).trans hgc
      have hkI : (k : Int) < (L.length : Int) := by omega
      have HSk : Hid (sortR L = (L.drop (k + 1)).foldl insS (insS S s)) := by
        show _ = _
        rw [HS.out, drop_at hsk]
        rfl
      rcases (OwnT.strs (av := fun _ => False) HO.out (fun _ _ e => e)) with ⟨hS0, hv0⟩ | ⟨go, co, hv0, hco1, hco2, _, hgo, hgoc0⟩
      · subst hv0 hS0
        clear hgc hsk
        go_wp2_with fail
        go_loopw [6] (fun x wx => x = .int .i64 0 ∧ wx = wr) (fun x _ => 0)
        case atStart => exact ⟨rfl, rfl⟩
        case round =>
          obtain ⟨rfl, rfl⟩ := hrel
          go_wp2_with fail
          have hHeld : Below wr.heap.size wr wr.drew := (Below.refl _ _).drew
          refine M_begin 11 12 (fun w' => Below wr.heap.size wr w') (by kernel_rfl) rfl ?_
          refine M_take 0 (oi := { dst := some 27, op := Op.move (Operand.tmp 3), type := 33, pos := "json.go:66", after := #[], guard := none }) (v := ?vv1) rfl (by kernel_rfl) (by kernel_rfl) (by kernel_rfl) (by kernel_rfl) (by kernel_rfl) (by decide) (by decide) (by kernel_rfl) (fun _ _ _ h => h) hHeld (Or.inl ⟨by rfl, ?hy1⟩) ?_
          case hy1 => (intro w' hSw; skip; go_simp; try (with_reducible rfl))
          try simp only [Act.put, List.setIfInBounds_toArray, List.set_cons_zero, List.set_cons_succ]
          refine M_take 1 (oi := { dst := some 28, op := Op.move (Operand.tmp 6), type := 3, pos := "json.go:66", after := #[], guard := none }) (v := ?vv2) rfl (by kernel_rfl) (by kernel_rfl) (by kernel_rfl) (by kernel_rfl) (by kernel_rfl) (by decide) (by decide) (by kernel_rfl) (fun _ _ _ h => h) hHeld (Or.inl ⟨by rfl, ?hy2⟩) ?_
          case hy2 => (intro w' hSw; skip; go_simp; try (with_reducible rfl))
          try simp only [Act.put, List.setIfInBounds_toArray, List.set_cons_zero, List.set_cons_succ]
          refine M_take 2 (oi := { dst := some 29, op := Op.slice 33 (Operand.tmp 27) none (some (Operand.tmp 28)) none, type := 33, pos := "json.go:66", after := #[{ on := 0, ground := Ground.data }, { on := 1, ground := Ground.data }], guard := none }) (v := ?vv3) rfl (by kernel_rfl) (by kernel_rfl) (by kernel_rfl) (by kernel_rfl) (by kernel_rfl) (by decide) (by decide) (by kernel_rfl) (fun _ _ _ h => h) hHeld (Or.inl ⟨by rfl, ?hy3⟩) ?_
          case hy3 => (intro w' hSw; skip; go_simp; try (with_reducible rfl))
          try simp only [Act.put, List.setIfInBounds_toArray, List.set_cons_zero, List.set_cons_succ]
          refine M_take 4 (oi := { dst := some 31, op := Op.move (Operand.tmp 5), type := 9, pos := "json.go:66", after := #[], guard := none }) (v := ?vv4) rfl (by kernel_rfl) (by kernel_rfl) (by kernel_rfl) (by kernel_rfl) (by kernel_rfl) (by decide) (by decide) (by kernel_rfl) (fun _ _ _ h => h) hHeld (Or.inl ⟨by rfl, ?hy4⟩) ?_
          case hy4 => (intro w' hSw; skip; go_simp; try (with_reducible rfl))
          try simp only [Act.put, List.setIfInBounds_toArray, List.set_cons_zero, List.set_cons_succ]
          refine M_take 6 (oi := { dst := some 33, op := Op.move (Operand.tmp 3), type := 33, pos := "json.go:66", after := #[], guard := none }) (v := ?vv5) rfl (by kernel_rfl) (by kernel_rfl) (by kernel_rfl) (by kernel_rfl) (by kernel_rfl) (by decide) (by decide) (by kernel_rfl) (fun _ _ _ h => h) hHeld (Or.inl ⟨by rfl, ?hy5⟩) ?_
          case hy5 => (intro w' hSw; skip; go_simp; try (with_reducible rfl))
          try simp only [Act.put, List.setIfInBounds_toArray, List.set_cons_zero, List.set_cons_succ]
          refine M_take 7 (oi := { dst := some 34, op := Op.move (Operand.tmp 6), type := 3, pos := "json.go:66", after := #[], guard := none }) (v := ?vv6) rfl (by kernel_rfl) (by kernel_rfl) (by kernel_rfl) (by kernel_rfl) (by kernel_rfl) (by decide) (by decide) (by kernel_rfl) (fun _ _ _ h => h) hHeld (Or.inl ⟨by rfl, ?hy6⟩) ?_
          case hy6 => (intro w' hSw; skip; go_simp; try (with_reducible rfl))
          try simp only [Act.put, List.setIfInBounds_toArray, List.set_cons_zero, List.set_cons_succ]
          refine M_take 8 (oi := { dst := some 35, op := Op.slice 33 (Operand.tmp 33) (some (Operand.tmp 34)) none none, type := 33, pos := "json.go:66", after := #[{ on := 6, ground := Ground.data }, { on := 7, ground := Ground.data }], guard := none }) (v := ?vv7) rfl (by kernel_rfl) (by kernel_rfl) (by kernel_rfl) (by kernel_rfl) (by kernel_rfl) (by decide) (by decide) (by kernel_rfl) (fun _ _ _ h => h) hHeld (Or.inl ⟨by rfl, ?hy7⟩) ?_
          case hy7 => (intro w' hSw; skip; go_simp; try (with_reducible rfl))
          try simp only [Act.put, List.setIfInBounds_toArray, List.set_cons_zero, List.set_cons_succ]
          have HCp : Hid (∀ W, Below wr.heap.size wr W → Calls Tryz.prog 71 #[.slice none 0 0] W fun e w' => ∃ u, e = .returned u ∧ OwnT W.heap.size w' ([] : List Bs) u ∧ Below W.heap.size W w') := fun W b => rfcopy_any [] _ W (Or.inl ⟨rfl, rfl⟩) (by simp)
          have HIn : Hid (insS ([] : List Bs) s = [] ++ s :: []) := rfl
          refine M_ready [3, 5] (by kernel_rfl) (by decide) ?_
          refine AllM.cons (i := 3) (o := { dst := some 30, op := Op.call { callee := Callee.value (Operand.func 71), args := #[Operand.tmp 29], argTypes := #[33] }, type := 33, pos := "json.go:66", after := #[{ on := 2, ground := Ground.data }], guard := none }) rfl (fun K hK => ?_) ?_
          · rw [if_pos (by rfl)]
            go_wp2_with fail
            refine Calls.mono (HCp.out _ hHeld) ?_
            rintro e x1 ⟨u, rfl, hu, b1⟩
            dsimp only
            refine hK.out _ _ (hHeld.trans (b1.mono hHeld.size)) (fun hHeld => ?_)
            clear hK K
            try simp only [Act.put, List.setIfInBounds_toArray, List.set_cons_zero, List.set_cons_succ]
            have hHeld0 : wr.heap.size ≤ x1.heap.size := hHeld.size
            refine M_ready [5] (by kernel_rfl) (by decide) ?_
            refine AllM.cons (i := 5) (o := { dst := some 32, op := Op.buildSlice 33 1 #[(0, Operand.tmp 31)], type := 33, pos := "json.go:66", after := #[{ on := 4, ground := Ground.data }], guard := none }) rfl (fun K hK => ?_) AllM.nil
            go_simp
            have b5 : Below x1.heap.size x1 (x1.alloc (.cells #[.string ⟨s.toArray⟩] 9)) := (Below.refl _ x1).alloc (Nat.le_refl _) (.cells #[.string ⟨s.toArray⟩] 9)
            have n5 : (x1.alloc (.cells #[.string ⟨s.toArray⟩] 9)).heap[x1.heap.size]? = some (.cells #[.string ⟨s.toArray⟩] 9 (0, 0)) := heap_alloc_new x1 _
            refine hK.out _ _ (hHeld.trans (b5.mono hHeld.size)) (fun hHeld => ?_)
            generalize x1.alloc (.cells #[.string ⟨s.toArray⟩] 9) = x5 at *
            clear hK K
            try simp only [Act.put, List.setIfInBounds_toArray, List.set_cons_zero, List.set_cons_succ]
            have hle5 : wr.heap.size ≤ x1.heap.size := (hHeld0 : wr.heap.size ≤ x1.heap.size)
            have hOne : x5.ownsRow w.heap.size 9 1 (.slice (some ⟨x1.heap.size, 0, none⟩) 1 1) 1 [.string ⟨s.toArray⟩] := ⟨rfl, Or.inr ⟨x1.heap.size, 1, _, rfl, Nat.le_trans HB.out.size hle5, n5, Nat.le_refl _, by unfold maxLen; omega, rfl, rfl⟩⟩
            have hU : OwnT w.heap.size x5 ([] : List Bs) u := (OwnT.low (hu.kept (below_grownR b5) (own_none u)) (by have := HB.out.size; exact this))
            have hne5 : u.ownBlock = none ∨ u.ownBlock ≠ some x1.heap.size := (by cases hob : u.ownBlock with | none => exact Or.inl rfl | some c => exact Or.inr (fun e => by have := (OwnT.row hu c hob).2; have := Option.some.inj e; omega))
            have HU : Hid (OwnT w.heap.size x5 ([] : List Bs) u ∧ (u.ownBlock = none ∨ u.ownBlock ≠ some x1.heap.size)) := ⟨hU, hne5⟩
            clear hU hne5
            refine M_ready [9] (by kernel_rfl) (by decide) ?_
            refine AllM.cons (i := 9) (o := { dst := some 36, op := Op.call { callee := Callee.builtin Builtin.append, args := #[Operand.tmp 32, Operand.tmp 35], argTypes := #[33, 33] }, type := 33, pos := "json.go:66", after := #[{ on := 5, ground := Ground.data }, { on := 8, ground := Ground.data }, { on := 3, ground := Ground.chain }], guard := none }) rfl (fun K hK => ?_) AllM.nil
            rw [if_pos (by rfl)]
            refine wp_app_none (.tmp 32) (.tmp 35) 33 rfl w.heap.size 9 i0 1 Tryz.underlying33 hi _ _ _ rfl hOne rfl ?_
            refine hK.out _ _ hHeld (fun hHeld => ?_)
            clear hK K
            try simp only [Act.put, List.setIfInBounds_toArray, List.set_cons_zero, List.set_cons_succ]
            have hV9 : OwnT w.heap.size x5 (s :: []) (.slice (some ⟨x1.heap.size, 0, none⟩) 1 1) := hOne
            have HU9 : Hid (OwnT w.heap.size x5 ([] : List Bs) u) := HU.out.1
            obtain ⟨gT, oT, cT, hvT, hcT⟩ : ∃ g o c, ((.slice (some ⟨x1.heap.size, 0, none⟩) 1 1) : Value) = .slice (some ⟨g, o, none⟩) (s :: ([] : List Bs)).length c ∧ ∀ (i : Nat) (t : Bs), (s :: ([] : List Bs))[i]? = some t → g < x5.heap.size ∧ x5.cell? ⟨g, o + i, none⟩ = some (.string ⟨t.toArray⟩) := by
              rcases OwnT.tsl hV9 with ⟨_, h9⟩ | h9
              · cases h9
              · exact h9
            have hl9 : (s :: ([] : List Bs)).length ≤ 100002 := by first | (simp; done) | (simp; omega)
            have HV9 : Hid _ := hcT
            clear hcT hV9
            refine M_ready [10] (by kernel_rfl) (by decide) ?_
            refine AllM.cons (i := 10) (o := { dst := some 37, op := Op.call { callee := Callee.builtin Builtin.append, args := #[Operand.tmp 30, Operand.tmp 36], argTypes := #[33, 33] }, type := 33, pos := "json.go:66", after := #[{ on := 3, ground := Ground.data }, { on := 9, ground := Ground.data }, { on := 9, ground := Ground.chain }], guard := none }) rfl (fun K hK => ?_) AllM.nil
            rw [if_pos (by rfl)]
            refine wp_append_own x5 (.tmp 30) (.tmp 36) 33 rfl w.heap.size 9 i0 (Value.string ⟨#[]⟩) 1 16 Tryz.underlying33 hi hz0 hz1 hz2 rfl (by decide) _ _ _ rfl HU9.out ⟨gT, oT, none⟩ (s :: ([] : List Bs)).length cT ((s :: ([] : List Bs)).map fun s => .string ⟨s.toArray⟩) hvT (by rw [List.length_map, Nat.mul_one]) (texts_news HV9.out) (texts_one _) (by unfold maxLen; simp) (by simp) (Nat.le_trans HB.out.size hHeld.size) ?_
            intro v10 x10 hown10 hgrow10 _
            refine hK.out _ _ (hHeld.grown hgrow10 hHeld.size (fun k e => by have := (OwnT.row hu _ (by assumption)).1; exact this)) (fun hHeld => ?_)
            clear hK K
            try simp only [Act.put, List.setIfInBounds_toArray, List.set_cons_zero, List.set_cons_succ]
            have HO10 : Hid (OwnT w.heap.size x10 (insS ([] : List Bs) s) v10) := by
              show x10.ownsRow _ _ _ _ _ _
              rw [HIn.out, List.length_append, List.map_append]
              exact hown10
            have HB10 : Hid (Below w.heap.size w x10) := HB.out.trans (hHeld.mono HB.out.size)
            have hins : (insS ([] : List Bs) s).length ≤ k + 1 := by
              rw [HIn.out, List.length_append, List.length_cons]
              simp only [List.length_nil]; omega
            clear hown10 hgrow10 hHeld
            refine M_tail [{ dst := some 3, op := Op.assign (Operand.tmp 37), type := 33, pos := "json.go:66", after := #[{ on := 10, ground := Ground.data }, { on := 10, ground := Ground.chain }, { on := 0, ground := Ground.phase }, { on := 1, ground := Ground.phase }, { on := 2, ground := Ground.phase }, { on := 3, ground := Ground.phase }, { on := 4, ground := Ground.phase }, { on := 5, ground := Ground.phase }, { on := 6, ground := Ground.phase }, { on := 7, ground := Ground.phase }, { on := 8, ground := Ground.phase }, { on := 9, ground := Ground.phase }, { on := 10, ground := Ground.phase }], guard := none }] rfl (by kernel_rfl) (by kernel_rfl) ?_
            go_wp2_with fail
            go_roundw
            case rel =>
              have hrelN : SInv w L v10 (.int .i64 ((k : Int) + 1)) x10 := ⟨k + 1, _, by omega, by go_num, HSk.out, hins, HO10.out, HB10.out⟩
              first | exact hrelN | ((repeat apply Exists.intro); refine ⟨hrelN, ?_⟩; first | rfl | exact ⟨rfl, rfl⟩ | exact ⟨rfl, rfl, rfl⟩ | exact ⟨rfl, rfl, rfl, rfl⟩ | exact ⟨rfl, rfl, rfl, rfl, rfl⟩)
            case measure => (simp [intOf]; omega)
          refine AllM.cons (i := 5) (o := { dst := some 32, op := Op.buildSlice 33 1 #[(0, Operand.tmp 31)], type := 33, pos := "json.go:66", after := #[{ on := 4, ground := Ground.data }], guard := none }) rfl (fun K hK => ?_) AllM.nil
          go_simp
          have b5 : Below wr.heap.size wr.drew ((wr.alloc (.cells #[.string ⟨s.toArray⟩] 9)).drew) := (Below.refl _ wr.drew).alloc (Nat.le_refl _) (.cells #[.string ⟨s.toArray⟩] 9)
          have n5 : ((wr.alloc (.cells #[.string ⟨s.toArray⟩] 9)).drew).heap[wr.heap.size]? = some (.cells #[.string ⟨s.toArray⟩] 9 (0, 0)) := heap_alloc_new wr.drew _
          refine hK.out _ _ (hHeld.trans (b5.mono hHeld.size)) (fun hHeld => ?_)
          generalize (wr.alloc (.cells #[.string ⟨s.toArray⟩] 9)).drew = x5 at *
          clear hK K
          try simp only [Act.put, List.setIfInBounds_toArray, List.set_cons_zero, List.set_cons_succ]
          refine M_ready [3] (by kernel_rfl) (by decide) ?_
          refine AllM.cons (i := 3) (o := { dst := some 30, op := Op.call { callee := Callee.value (Operand.func 71), args := #[Operand.tmp 29], argTypes := #[33] }, type := 33, pos := "json.go:66", after := #[{ on := 2, ground := Ground.data }], guard := none }) rfl (fun K hK => ?_) AllM.nil
          rw [if_pos (by rfl)]
          go_wp2_with fail
          refine Calls.mono (HCp.out _ hHeld) ?_
          rintro e x1 ⟨u, rfl, hu, b1⟩
          dsimp only
          refine hK.out _ _ (hHeld.trans (b1.mono hHeld.size)) (fun hHeld => ?_)
          clear hK K
          try simp only [Act.put, List.setIfInBounds_toArray, List.set_cons_zero, List.set_cons_succ]
          have hle5 : wr.heap.size ≤ wr.heap.size := (Nat.le_refl _)
          have hOne : x1.ownsRow w.heap.size 9 1 (.slice (some ⟨wr.heap.size, 0, none⟩) 1 1) 1 [.string ⟨s.toArray⟩] := ⟨rfl, Or.inr ⟨wr.heap.size, 1, _, rfl, Nat.le_trans HB.out.size hle5, ((b1.block _ (lt_of_block n5)).trans n5), Nat.le_refl _, by unfold maxLen; omega, rfl, rfl⟩⟩
          have hU : OwnT w.heap.size x1 ([] : List Bs) u := (OwnT.low hu (Nat.le_trans HB.out.size (by have := b5.size; exact this)))
          have hne5 : u.ownBlock = none ∨ u.ownBlock ≠ some wr.heap.size := (by cases hob : u.ownBlock with | none => exact Or.inl rfl | some c => exact Or.inr (fun e => by have := (OwnT.row hu c hob).1; have := lt_of_block n5; have := Option.some.inj e; omega))
          have HU : Hid (OwnT w.heap.size x1 ([] : List Bs) u ∧ (u.ownBlock = none ∨ u.ownBlock ≠ some wr.heap.size)) := ⟨hU, hne5⟩
          clear hU hne5
          refine M_ready [9] (by kernel_rfl) (by decide) ?_
          refine AllM.cons (i := 9) (o := { dst := some 36, op := Op.call { callee := Callee.builtin Builtin.append, args := #[Operand.tmp 32, Operand.tmp 35], argTypes := #[33, 33] }, type := 33, pos := "json.go:66", after := #[{ on := 5, ground := Ground.data }, { on := 8, ground := Ground.data }, { on := 3, ground := Ground.chain }], guard := none }) rfl (fun K hK => ?_) AllM.nil
          rw [if_pos (by rfl)]
          refine wp_app_none (.tmp 32) (.tmp 35) 33 rfl w.heap.size 9 i0 1 Tryz.underlying33 hi _ _ _ rfl hOne rfl ?_
          refine hK.out _ _ hHeld (fun hHeld => ?_)
          clear hK K
          try simp only [Act.put, List.setIfInBounds_toArray, List.set_cons_zero, List.set_cons_succ]
          have hV9 : OwnT w.heap.size x1 (s :: []) (.slice (some ⟨wr.heap.size, 0, none⟩) 1 1) := hOne
          have HU9 : Hid (OwnT w.heap.size x1 ([] : List Bs) u) := HU.out.1
          obtain ⟨gT, oT, cT, hvT, hcT⟩ : ∃ g o c, ((.slice (some ⟨wr.heap.size, 0, none⟩) 1 1) : Value) = .slice (some ⟨g, o, none⟩) (s :: ([] : List Bs)).length c ∧ ∀ (i : Nat) (t : Bs), (s :: ([] : List Bs))[i]? = some t → g < x1.heap.size ∧ x1.cell? ⟨g, o + i, none⟩ = some (.string ⟨t.toArray⟩) := by
            rcases OwnT.tsl hV9 with ⟨_, h9⟩ | h9
            · cases h9
            · exact h9
          have hl9 : (s :: ([] : List Bs)).length ≤ 100002 := by first | (simp; done) | (simp; omega)
          have HV9 : Hid _ := hcT
          clear hcT hV9
          refine M_ready [10] (by kernel_rfl) (by decide) ?_
          refine AllM.cons (i := 10) (o := { dst := some 37, op := Op.call { callee := Callee.builtin Builtin.append, args := #[Operand.tmp 30, Operand.tmp 36], argTypes := #[33, 33] }, type := 33, pos := "json.go:66", after := #[{ on := 3, ground := Ground.data }, { on := 9, ground := Ground.data }, { on := 9, ground := Ground.chain }], guard := none }) rfl (fun K hK => ?_) AllM.nil
          rw [if_pos (by rfl)]
          refine wp_append_own x1 (.tmp 30) (.tmp 36) 33 rfl w.heap.size 9 i0 (Value.string ⟨#[]⟩) 1 16 Tryz.underlying33 hi hz0 hz1 hz2 rfl (by decide) _ _ _ rfl HU9.out ⟨gT, oT, none⟩ (s :: ([] : List Bs)).length cT ((s :: ([] : List Bs)).map fun s => .string ⟨s.toArray⟩) hvT (by rw [List.length_map, Nat.mul_one]) (texts_news HV9.out) (texts_one _) (by unfold maxLen; simp) (by simp) (Nat.le_trans HB.out.size hHeld.size) ?_
          intro v10 x10 hown10 hgrow10 _
          refine hK.out _ _ (hHeld.grown hgrow10 hHeld.size (fun k e => by have := (OwnT.row hu _ (by assumption)).1; have h55 : wr.heap.size ≤ x5.heap.size := b5.size; omega)) (fun hHeld => ?_)
          clear hK K
          try simp only [Act.put, List.setIfInBounds_toArray, List.set_cons_zero, List.set_cons_succ]
          have HO10 : Hid (OwnT w.heap.size x10 (insS ([] : List Bs) s) v10) := by
            show x10.ownsRow _ _ _ _ _ _
            rw [HIn.out, List.length_append, List.map_append]
            exact hown10
          have HB10 : Hid (Below w.heap.size w x10) := HB.out.trans (hHeld.mono HB.out.size)
          have hins : (insS ([] : List Bs) s).length ≤ k + 1 := by
            rw [HIn.out, List.length_append, List.length_cons]
            simp only [List.length_nil]; omega
          clear hown10 hgrow10 hHeld
          refine M_tail [{ dst := some 3, op := Op.assign (Operand.tmp 37), type := 33, pos := "json.go:66", after := #[{ on := 10, ground := Ground.data }, { on := 10, ground := Ground.chain }, { on := 0, ground := Ground.phase }, { on := 1, ground := Ground.phase }, { on := 2, ground := Ground.phase }, { on := 3, ground := Ground.phase }, { on := 4, ground := Ground.phase }, { on := 5, ground := Ground.phase }, { on := 6, ground := Ground.phase }, { on := 7, ground := Ground.phase }, { on := 8, ground := Ground.phase }, { on := 9, ground := Ground.phase }, { on := 10, ground := Ground.phase }], guard := none }] rfl (by kernel_rfl) (by kernel_rfl) ?_
          go_wp2_with fail
          go_roundw
          case rel =>
            have hrelN : SInv w L v10 (.int .i64 ((k : Int) + 1)) x10 := ⟨k + 1, _, by omega, by go_num, HSk.out, hins, HO10.out, HB10.out⟩
            first | exact hrelN | ((repeat apply Exists.intro); refine ⟨hrelN, ?_⟩; first | rfl | exact ⟨rfl, rfl⟩ | exact ⟨rfl, rfl, rfl⟩ | exact ⟨rfl, rfl, rfl, rfl⟩ | exact ⟨rfl, rfl, rfl, rfl, rfl⟩)
          case measure => (simp [intOf]; omega)
      subst hv0
      unfold maxLen at hco2
      have HQ : Hid (∀ (i : Nat) (t : Bs), S[i]? = some t → wr.cell? ⟨go, i, none⟩ = some (.string ⟨t.toArray⟩)) := hgoc0
      clear hgoc0
      clear hgc hsk
      go_wp2_with fail
      go_loopw [6] (fun x wx => ∃ m : Nat, m ≤ S.length ∧ x = .int .i64 m ∧ wx = wr ∧ ∀ i t, i < m → S[i]? = some t → (!less s t) = true) (fun x _ => S.length - (intOf x).toNat)
      case atStart => exact ⟨0, Nat.zero_le _, rfl, rfl, fun i t hi => absurd hi (Nat.not_lt_zero _)⟩
      case round =>
        obtain ⟨m, hm, rfl, rfl, hall⟩ := hrel
        have HAll : Hid (∀ i t, i < m → S[i]? = some t → (!less s t) = true) := hall
        clear hall
        by_cases hmt : m < S.length
        · obtain ⟨t, htk⟩ : ∃ t, S[m]? = some t := ⟨S[m], List.getElem?_eq_getElem hmt⟩
          have hgoc := HQ.out m t htk
          have HT : Hid (S[m]? = some t) := htk
          have hmI : (m : Int) < (S.length : Int) := by omega
          clear htk
          obtain ⟨tb, htb⟩ : ∃ tb : ByteArray, tb = ⟨t.toArray⟩ := ⟨_, rfl⟩
          have htl : tb.data.toList = t := by rw [htb]
          rw [← htb] at hgoc
          clear htb
          have hbl : Op.bytesLess tb.toList s = less t s := by rw [ByteArray.toList_eq, htl, less_bytes']
          have hbe : (tb.toList == s) = decide (t = s) := by rw [ByteArray.toList_eq, htl, Bool.eq_iff_iff, beq_iff_eq, decide_eq_true_iff]
          cases hle : (!less s t) with
          | true =>
            have h9 : (less t s || decide (t = s)) = true := by rw [← le_split]; exact hle
            have hbo : (Op.bytesLess tb.toList s || tb.toList == s) = true := by rw [hbl, hbe]; exact h9
            have HAl2 : Hid (∀ i t, i < m + 1 → S[i]? = some t → (!less s t) = true) := fun i u hi2 hu => by
              rcases Nat.lt_succ_iff_lt_or_eq.1 hi2 with h | h
              · exact HAll.out i u h hu
              · subst h
                rw [HT.out] at hu
                cases hu
                exact hle
            clear hbl hbe h9 hle
            go_wp2_with fail
            go_roundw
            case rel =>
              exact ⟨m + 1, by omega, by go_num, trivial, HAl2.out⟩
            case measure => (simp [intOf]; omega)
          | false =>
            have h9 : (less t s || decide (t = s)) = false := by rw [← le_split]; exact hle
            have hbo : (Op.bytesLess tb.toList s || tb.toList == s) = false := by rw [hbl, hbe]; exact h9
            have HSt : Hid (insS S s = S.take m ++ s :: S.drop m) := by
              show _ = _
              have h8 := take_while_stop (p := fun t => !less s t) S m HAll.out (fun u hu => by
                rw [HT.out] at hu
                cases hu
                exact hle)
              unfold insS
              rw [h8.1, h8.2]
            clear hbl hbe h9 hle
            go_wp2_with fail
            have hmc : m ≤ co := by omega
            obtain ⟨pm, hpm⟩ : ∃ pm, pm = (if co = m then (some ⟨go, 0, none⟩ : Option Addr) else some ⟨go, m, none⟩) := ⟨_, rfl⟩
            have hHeld : Below wr.heap.size wr wr.drew := (Below.refl _ _).drew
            refine M_begin 11 12 (fun w' => Below wr.heap.size wr w') (by kernel_rfl) rfl ?_
            refine M_take 0 (oi := { dst := some 27, op := Op.move (Operand.tmp 3), type := 33, pos := "json.go:66", after := #[], guard := none }) (v := ?vv15) rfl (by kernel_rfl) (by kernel_rfl) (by kernel_rfl) (by kernel_rfl) (by kernel_rfl) (by decide) (by decide) (by kernel_rfl) (fun _ _ _ h => h) hHeld (Or.inl ⟨by rfl, ?hy15⟩) ?_
            case hy15 => (intro w' hSw; skip; go_simp; try (with_reducible rfl))
            try simp only [Act.put, List.setIfInBounds_toArray, List.set_cons_zero, List.set_cons_succ]
            refine M_take 1 (oi := { dst := some 28, op := Op.move (Operand.tmp 6), type := 3, pos := "json.go:66", after := #[], guard := none }) (v := ?vv16) rfl (by kernel_rfl) (by kernel_rfl) (by kernel_rfl) (by kernel_rfl) (by kernel_rfl) (by decide) (by decide) (by kernel_rfl) (fun _ _ _ h => h) hHeld (Or.inl ⟨by rfl, ?hy16⟩) ?_
            case hy16 => (intro w' hSw; skip; go_simp; try (with_reducible rfl))
            try simp only [Act.put, List.setIfInBounds_toArray, List.set_cons_zero, List.set_cons_succ]
            refine M_take 2 (oi := { dst := some 29, op := Op.slice 33 (Operand.tmp 27) none (some (Operand.tmp 28)) none, type := 33, pos := "json.go:66", after := #[{ on := 0, ground := Ground.data }, { on := 1, ground := Ground.data }], guard := none }) (v := .slice (some ⟨go, 0, none⟩) m co) rfl (by kernel_rfl) (by kernel_rfl) (by kernel_rfl) (by kernel_rfl) (by kernel_rfl) (by decide) (by decide) (by kernel_rfl) (fun _ _ _ h => h) hHeld (Or.inl ⟨by rfl, ?hy17⟩) ?_
            case hy17 => (intro w' hSw; skip; go_simp; try rfl)
            try simp only [Act.put, List.setIfInBounds_toArray, List.set_cons_zero, List.set_cons_succ]
            refine M_take 4 (oi := { dst := some 31, op := Op.move (Operand.tmp 5), type := 9, pos := "json.go:66", after := #[], guard := none }) (v := ?vv18) rfl (by kernel_rfl) (by kernel_rfl) (by kernel_rfl) (by kernel_rfl) (by kernel_rfl) (by decide) (by decide) (by kernel_rfl) (fun _ _ _ h => h) hHeld (Or.inl ⟨by rfl, ?hy18⟩) ?_
            case hy18 => (intro w' hSw; skip; go_simp; try (with_reducible rfl))
            try simp only [Act.put, List.setIfInBounds_toArray, List.set_cons_zero, List.set_cons_succ]
            refine M_take 6 (oi := { dst := some 33, op := Op.move (Operand.tmp 3), type := 33, pos := "json.go:66", after := #[], guard := none }) (v := ?vv19) rfl (by kernel_rfl) (by kernel_rfl) (by kernel_rfl) (by kernel_rfl) (by kernel_rfl) (by decide) (by decide) (by kernel_rfl) (fun _ _ _ h => h) hHeld (Or.inl ⟨by rfl, ?hy19⟩) ?_
            case hy19 => (intro w' hSw; skip; go_simp; try (with_reducible rfl))
            try simp only [Act.put, List.setIfInBounds_toArray, List.set_cons_zero, List.set_cons_succ]
            refine M_take 7 (oi := { dst := some 34, op := Op.move (Operand.tmp 6), type := 3, pos := "json.go:66", after := #[], guard := none }) (v := ?vv20) rfl (by kernel_rfl) (by kernel_rfl) (by kernel_rfl) (by kernel_rfl) (by kernel_rfl) (by decide) (by decide) (by kernel_rfl) (fun _ _ _ h => h) hHeld (Or.inl ⟨by rfl, ?hy20⟩) ?_
            case hy20 => (intro w' hSw; skip; go_simp; try (with_reducible rfl))
            try simp only [Act.put, List.setIfInBounds_toArray, List.set_cons_zero, List.set_cons_succ]
            refine M_take 8 (oi := { dst := some 35, op := Op.slice 33 (Operand.tmp 33) (some (Operand.tmp 34)) none none, type := 33, pos := "json.go:66", after := #[{ on := 6, ground := Ground.data }, { on := 7, ground := Ground.data }], guard := none }) (v := .slice pm (S.length - m) (co - m)) rfl (by kernel_rfl) (by kernel_rfl) (by kernel_rfl) (by kernel_rfl) (by kernel_rfl) (by decide) (by decide) (by kernel_rfl) (fun _ _ _ h => h) hHeld (Or.inl ⟨by rfl, ?hy21⟩) ?_
            case hy21 => (intro w' hSw; skip; go_simp; try rfl)
            try simp only [Act.put, List.setIfInBounds_toArray, List.set_cons_zero, List.set_cons_succ]
            obtain ⟨om, hom, hpm2⟩ : ∃ om, (om = m ∨ co = m) ∧ pm = some ⟨go, om, none⟩ := by
              by_cases hcm : co = m
              · exact ⟨0, Or.inr hcm, by rw [hpm, if_pos hcm]⟩
              · exact ⟨m, Or.inl rfl, by rw [hpm, if_neg hcm]⟩
            clear hpm
            subst hpm2
            have HCp : Hid (∀ W, Below wr.heap.size wr W → Calls Tryz.prog 71 #[.slice (some ⟨go, 0, none⟩) m co] W fun e w' => ∃ u, e = .returned u ∧ OwnT W.heap.size w' (S.take m) u ∧ Below W.heap.size W w') := fun W b => by
              refine rfcopy_any (S.take m) _ W (Or.inr ⟨go, 0, co, by rw [List.length_take, Nat.min_eq_left hm], fun i t ht => ?_⟩) (by rw [List.length_take]; omega)
              have h1 : S[i]? = some t := by
                rw [List.getElem?_take] at ht
                split at ht
                · exact ht
                · cases ht
              exact ⟨Nat.lt_of_lt_of_le hgo b.size, by rw [Nat.zero_add, b.cell (p := ⟨go, i, none⟩) hgo]; exact HQ.out i t h1⟩
            have HDr : Hid (∀ W, Below wr.heap.size wr W → ∀ (i : Nat) (t : Bs), (S.drop m)[i]? = some t → go < W.heap.size ∧ W.cell? ⟨go, om + i, none⟩ = some (.string ⟨t.toArray⟩)) := fun W b i t ht => by
              rw [List.getElem?_drop] at ht
              have hlt9 := (List.getElem?_eq_some_iff.1 ht).1
              have e9 : om = m := by
                rcases hom with h | h
                · exact h
                · omega
              rw [e9]
              exact ⟨Nat.lt_of_lt_of_le hgo b.size, by rw [b.cell (p := ⟨go, m + i, none⟩) hgo]; exact HQ.out _ t ht⟩
            have hdl : (S.drop m).length = S.length - m := List.length_drop
            have htl9 : (S.take m).length = m := by rw [List.length_take]; omega
            have HIn : Hid (insS S s = S.take m ++ s :: S.drop m) := HSt.out
            refine M_ready [3, 5] (by kernel_rfl) (by decide) ?_
            refine AllM.cons (i := 3) (o := { dst := some 30, op := Op.call { callee := Callee.value (Operand.func 71), args := #[Operand.tmp 29], argTypes := #[33] }, type := 33, pos := "json.go:66", after := #[{ on := 2, ground := Ground.data }], guard := none }) rfl (fun K hK => ?_) ?_
            · rw [if_pos (by rfl)]
              go_wp2_with fail
              refine Calls.mono (HCp.out _ hHeld) ?_
              rintro e x1 ⟨u, rfl, hu, b1⟩
              dsimp only
              refine hK.out _ _ (hHeld.trans (b1.mono hHeld.size)) (fun hHeld => ?_)
              clear hK K
              try simp only [Act.put, List.setIfInBounds_toArray, List.set_cons_zero, List.set_cons_succ]
              have hHeld0 : wr.heap.size ≤ x1.heap.size := hHeld.size
              refine M_ready [5] (by kernel_rfl) (by decide) ?_
              refine AllM.cons (i := 5) (o := { dst := some 32, op := Op.buildSlice 33 1 #[(0, Operand.tmp 31)], type := 33, pos := "json.go:66", after := #[{ on := 4, ground := Ground.data }], guard := none }) rfl (fun K hK => ?_) AllM.nil
              go_simp
              have b5 : Below x1.heap.size x1 (x1.alloc (.cells #[.string ⟨s.toArray⟩] 9)) := (Below.refl _ x1).alloc (Nat.le_refl _) (.cells #[.string ⟨s.toArray⟩] 9)
              have n5 : (x1.alloc (.cells #[.string ⟨s.toArray⟩] 9)).heap[x1.heap.size]? = some (.cells #[.string ⟨s.toArray⟩] 9 (0, 0)) := heap_alloc_new x1 _
              refine hK.out _ _ (hHeld.trans (b5.mono hHeld.size)) (fun hHeld => ?_)
              generalize x1.alloc (.cells #[.string ⟨s.toArray⟩] 9) = x5 at *
              clear hK K
              try simp only [Act.put, List.setIfInBounds_toArray, List.set_cons_zero, List.set_cons_succ]
              have hle5 : wr.heap.size ≤ x1.heap.size := (hHeld0 : wr.heap.size ≤ x1.heap.size)
              have hOne : x5.ownsRow w.heap.size 9 1 (.slice (some ⟨x1.heap.size, 0, none⟩) 1 1) 1 [.string ⟨s.toArray⟩] := ⟨rfl, Or.inr ⟨x1.heap.size, 1, _, rfl, Nat.le_trans HB.out.size hle5, n5, Nat.le_refl _, by unfold maxLen; omega, rfl, rfl⟩⟩
              have hU : OwnT w.heap.size x5 (S.take m) u := (OwnT.low (hu.kept (below_grownR b5) (own_none u)) (by have := HB.out.size; exact this))
              have hne5 : u.ownBlock = none ∨ u.ownBlock ≠ some x1.heap.size := (by cases hob : u.ownBlock with | none => exact Or.inl rfl | some c => exact Or.inr (fun e => by have := (OwnT.row hu c hob).2; have := Option.some.inj e; omega))
              have HU : Hid (OwnT w.heap.size x5 (S.take m) u ∧ (u.ownBlock = none ∨ u.ownBlock ≠ some x1.heap.size)) := ⟨hU, hne5⟩
              clear hU hne5
              refine M_ready [9] (by kernel_rfl) (by decide) ?_
              refine AllM.cons (i := 9) (o := { dst := some 36, op := Op.call { callee := Callee.builtin Builtin.append, args := #[Operand.tmp 32, Operand.tmp 35], argTypes := #[33, 33] }, type := 33, pos := "json.go:66", after := #[{ on := 5, ground := Ground.data }, { on := 8, ground := Ground.data }, { on := 3, ground := Ground.chain }], guard := none }) rfl (fun K hK => ?_) AllM.nil
              rw [if_pos (by rfl)]
              refine wp_append_own x5 (.tmp 32) (.tmp 35) 33 rfl w.heap.size 9 i0 (Value.string ⟨#[]⟩) 1 16 Tryz.underlying33 hi hz0 hz1 hz2 rfl (by decide) _ _ _ rfl hOne ⟨go, om, none⟩ (S.length - m) (co - m) ((S.drop m).map fun s => .string ⟨s.toArray⟩) rfl (by rw [List.length_map, hdl]; omega) (texts_news (HDr.out _ hHeld)) (texts_one _) (by unfold maxLen; omega) (by omega) (Nat.le_trans HB.out.size hHeld.size) ?_
              intro v9 x9 hown9 hgrow9 _
              have hg9 : x5.grownBy x9 (some x1.heap.size) := hgrow9
              refine hK.out _ _ (hHeld.grown hg9 hHeld.size (fun k e => by cases e; exact hle5)) (fun hHeld => ?_)
              clear hK K
              try simp only [Act.put, List.setIfInBounds_toArray, List.set_cons_zero, List.set_cons_succ]
              have hV9 : OwnT w.heap.size x9 (s :: S.drop m) v9 := by
                show x9.ownsRow _ _ _ _ _ _
                have e9 : (s :: S.drop m).length = 1 + (S.length - m) := by rw [List.length_cons, hdl]; omega
                rw [e9]
                exact hown9
              have HU9 : Hid (OwnT w.heap.size x9 (S.take m) u) := OwnT.kept HU.out.1 hg9 HU.out.2
              obtain ⟨gT, oT, cT, hvT, hcT⟩ : ∃ g o c, (v9 : Value) = .slice (some ⟨g, o, none⟩) (s :: (S.drop m)).length c ∧ ∀ (i : Nat) (t : Bs), (s :: (S.drop m))[i]? = some t → g < x9.heap.size ∧ x9.cell? ⟨g, o + i, none⟩ = some (.string ⟨t.toArray⟩) := by
                rcases OwnT.tsl hV9 with ⟨_, h9⟩ | h9
                · cases h9
                · exact h9
              have hl9 : (s :: (S.drop m)).length ≤ 100002 := by first | (simp; done) | (simp; omega)
              have HV9 : Hid _ := hcT
              clear hcT hV9
              refine M_ready [10] (by kernel_rfl) (by decide) ?_
              refine AllM.cons (i := 10) (o := { dst := some 37, op := Op.call { callee := Callee.builtin Builtin.append, args := #[Operand.tmp 30, Operand.tmp 36], argTypes := #[33, 33] }, type := 33, pos := "json.go:66", after := #[{ on := 3, ground := Ground.data }, { on := 9, ground := Ground.data }, { on := 9, ground := Ground.chain }], guard := none }) rfl (fun K hK => ?_) AllM.nil
              rw [if_pos (by rfl)]
              refine wp_append_own x9 (.tmp 30) (.tmp 36) 33 rfl w.heap.size 9 i0 (Value.string ⟨#[]⟩) 1 16 Tryz.underlying33 hi hz0 hz1 hz2 rfl (by decide) _ _ _ rfl HU9.out ⟨gT, oT, none⟩ (s :: (S.drop m)).length cT ((s :: (S.drop m)).map fun s => .string ⟨s.toArray⟩) hvT (by rw [List.length_map, Nat.mul_one]) (texts_news HV9.out) (texts_one _) (by unfold maxLen; omega) (by omega) (Nat.le_trans HB.out.size hHeld.size) ?_
              intro v10 x10 hown10 hgrow10 _
              refine hK.out _ _ (hHeld.grown hgrow10 hHeld.size (fun k e => by have := (OwnT.row hu _ (by assumption)).1; exact this)) (fun hHeld => ?_)
              clear hK K
              try simp only [Act.put, List.setIfInBounds_toArray, List.set_cons_zero, List.set_cons_succ]
              have HO10 : Hid (OwnT w.heap.size x10 (insS S s) v10) := by
                show x10.ownsRow _ _ _ _ _ _
                rw [HIn.out, List.length_append, List.map_append]
                exact hown10
              have HB10 : Hid (Below w.heap.size w x10) := HB.out.trans (hHeld.mono HB.out.size)
              have hins : (insS S s).length ≤ k + 1 := by
                rw [HIn.out, List.length_append, List.length_cons, htl9, hdl]
                omega
              clear hown10 hgrow10 hHeld
              refine M_tail [{ dst := some 3, op := Op.assign (Operand.tmp 37), type := 33, pos := "json.go:66", after := #[{ on := 10, ground := Ground.data }, { on := 10, ground := Ground.chain }, { on := 0, ground := Ground.phase }, { on := 1, ground := Ground.phase }, { on := 2, ground := Ground.phase }, { on := 3, ground := Ground.phase }, { on := 4, ground := Ground.phase }, { on := 5, ground := Ground.phase }, { on := 6, ground := Ground.phase }, { on := 7, ground := Ground.phase }, { on := 8, ground := Ground.phase }, { on := 9, ground := Ground.phase }, { on := 10, ground := Ground.phase }], guard := none }] rfl (by kernel_rfl) (by kernel_rfl) ?_
              go_wp2_with fail
              go_roundw
              case rel =>
                have hrelN : SInv w L v10 (.int .i64 ((k : Int) + 1)) x10 := ⟨k + 1, _, by omega, by go_num, HSk.out, hins, HO10.out, HB10.out⟩
                first | exact hrelN | ((repeat apply Exists.intro); refine ⟨hrelN, ?_⟩; first | rfl | exact ⟨rfl, rfl⟩ | exact ⟨rfl, rfl, rfl⟩ | exact ⟨rfl, rfl, rfl, rfl⟩ | exact ⟨rfl, rfl, rfl, rfl, rfl⟩)
              case measure => (simp [intOf]; omega)
            refine AllM.cons (i := 5) (o := { dst := some 32, op := Op.buildSlice 33 1 #[(0, Operand.tmp 31)], type := 33, pos := "json.go:66", after := #[{ on := 4, ground := Ground.data }], guard := none }) rfl (fun K hK => ?_) AllM.nil
            go_simp
            have b5 : Below wr.heap.size wr.drew ((wr.alloc (.cells #[.string ⟨s.toArray⟩] 9)).drew) := (Below.refl _ wr.drew).alloc (Nat.le_refl _) (.cells #[.string ⟨s.toArray⟩] 9)
            have n5 : ((wr.alloc (.cells #[.string ⟨s.toArray⟩] 9)).drew).heap[wr.heap.size]? = some (.cells #[.string ⟨s.toArray⟩] 9 (0, 0)) := heap_alloc_new wr.drew _
            refine hK.out _ _ (hHeld.trans (b5.mono hHeld.size)) (fun hHeld => ?_)
            generalize (wr.alloc (.cells #[.string ⟨s.toArray⟩] 9)).drew = x5 at *
            clear hK K
            try simp only [Act.put, List.setIfInBounds_toArray, List.set_cons_zero, List.set_cons_succ]
            refine M_ready [3] (by kernel_rfl) (by decide) ?_
            refine AllM.cons (i := 3) (o := { dst := some 30, op := Op.call { callee := Callee.value (Operand.func 71), args := #[Operand.tmp 29], argTypes := #[33] }, type := 33, pos := "json.go:66", after := #[{ on := 2, ground := Ground.data }], guard := none }) rfl (fun K hK => ?_) AllM.nil
            rw [if_pos (by rfl)]
            go_wp2_with fail
            refine Calls.mono (HCp.out _ hHeld) ?_
            rintro e x1 ⟨u, rfl, hu, b1⟩
            dsimp only
            refine hK.out _ _ (hHeld.trans (b1.mono hHeld.size)) (fun hHeld => ?_)
            clear hK K
            try simp only [Act.put, List.setIfInBounds_toArray, List.set_cons_zero, List.set_cons_succ]
            have hle5 : wr.heap.size ≤ wr.heap.size := (Nat.le_refl _)
            have hOne : x1.ownsRow w.heap.size 9 1 (.slice (some ⟨wr.heap.size, 0, none⟩) 1 1) 1 [.string ⟨s.toArray⟩] := ⟨rfl, Or.inr ⟨wr.heap.size, 1, _, rfl, Nat.le_trans HB.out.size hle5, ((b1.block _ (lt_of_block n5)).trans n5), Nat.le_refl _, by unfold maxLen; omega, rfl, rfl⟩⟩
            have hU : OwnT w.heap.size x1 (S.take m) u := (OwnT.low hu (Nat.le_trans HB.out.size (by have := b5.size; exact this)))
            have hne5 : u.ownBlock = none ∨ u.ownBlock ≠ some wr.heap.size := (by cases hob : u.ownBlock with | none => exact Or.inl rfl | some c => exact Or.inr (fun e => by have := (OwnT.row hu c hob).1; have := lt_of_block n5; have := Option.some.inj e; omega))
            have HU : Hid (OwnT w.heap.size x1 (S.take m) u ∧ (u.ownBlock = none ∨ u.ownBlock ≠ some wr.heap.size)) := ⟨hU, hne5⟩
            clear hU hne5
            refine M_ready [9] (by kernel_rfl) (by decide) ?_
            refine AllM.cons (i := 9) (o := { dst := some 36, op := Op.call { callee := Callee.builtin Builtin.append, args := #[Operand.tmp 32, Operand.tmp 35], argTypes := #[33, 33] }, type := 33, pos := "json.go:66", after := #[{ on := 5, ground := Ground.data }, { on := 8, ground := Ground.data }, { on := 3, ground := Ground.chain }], guard := none }) rfl (fun K hK => ?_) AllM.nil
            rw [if_pos (by rfl)]
            refine wp_append_own x1 (.tmp 32) (.tmp 35) 33 rfl w.heap.size 9 i0 (Value.string ⟨#[]⟩) 1 16 Tryz.underlying33 hi hz0 hz1 hz2 rfl (by decide) _ _ _ rfl hOne ⟨go, om, none⟩ (S.length - m) (co - m) ((S.drop m).map fun s => .string ⟨s.toArray⟩) rfl (by rw [List.length_map, hdl]; omega) (texts_news (HDr.out _ hHeld)) (texts_one _) (by unfold maxLen; omega) (by omega) (Nat.le_trans HB.out.size hHeld.size) ?_
            intro v9 x9 hown9 hgrow9 _
            have hg9 : x1.grownBy x9 (some wr.heap.size) := hgrow9
            refine hK.out _ _ (hHeld.grown hg9 hHeld.size (fun k e => by cases e; exact hle5)) (fun hHeld => ?_)
            clear hK K
            try simp only [Act.put, List.setIfInBounds_toArray, List.set_cons_zero, List.set_cons_succ]
            have hV9 : OwnT w.heap.size x9 (s :: S.drop m) v9 := by
              show x9.ownsRow _ _ _ _ _ _
              have e9 : (s :: S.drop m).length = 1 + (S.length - m) := by rw [List.length_cons, hdl]; omega
              rw [e9]
              exact hown9
            have HU9 : Hid (OwnT w.heap.size x9 (S.take m) u) := OwnT.kept HU.out.1 hg9 HU.out.2
            obtain ⟨gT, oT, cT, hvT, hcT⟩ : ∃ g o c, (v9 : Value) = .slice (some ⟨g, o, none⟩) (s :: (S.drop m)).length c ∧ ∀ (i : Nat) (t : Bs), (s :: (S.drop m))[i]? = some t → g < x9.heap.size ∧ x9.cell? ⟨g, o + i, none⟩ = some (.string ⟨t.toArray⟩) := by
              rcases OwnT.tsl hV9 with ⟨_, h9⟩ | h9
              · cases h9
              · exact h9
            have hl9 : (s :: (S.drop m)).length ≤ 100002 := by first | (simp; done) | (simp; omega)
            have HV9 : Hid _ := hcT
            clear hcT hV9
            refine M_ready [10] (by kernel_rfl) (by decide) ?_
            refine AllM.cons (i := 10) (o := { dst := some 37, op := Op.call { callee := Callee.builtin Builtin.append, args := #[Operand.tmp 30, Operand.tmp 36], argTypes := #[33, 33] }, type := 33, pos := "json.go:66", after := #[{ on := 3, ground := Ground.data }, { on := 9, ground := Ground.data }, { on := 9, ground := Ground.chain }], guard := none }) rfl (fun K hK => ?_) AllM.nil
            rw [if_pos (by rfl)]
            refine wp_append_own x9 (.tmp 30) (.tmp 36) 33 rfl w.heap.size 9 i0 (Value.string ⟨#[]⟩) 1 16 Tryz.underlying33 hi hz0 hz1 hz2 rfl (by decide) _ _ _ rfl HU9.out ⟨gT, oT, none⟩ (s :: (S.drop m)).length cT ((s :: (S.drop m)).map fun s => .string ⟨s.toArray⟩) hvT (by rw [List.length_map, Nat.mul_one]) (texts_news HV9.out) (texts_one _) (by unfold maxLen; omega) (by omega) (Nat.le_trans HB.out.size hHeld.size) ?_
            intro v10 x10 hown10 hgrow10 _
            refine hK.out _ _ (hHeld.grown hgrow10 hHeld.size (fun k e => by have := (OwnT.row hu _ (by assumption)).1; have h55 : wr.heap.size ≤ x5.heap.size := b5.size; omega)) (fun hHeld => ?_)
            clear hK K
            try simp only [Act.put, List.setIfInBounds_toArray, List.set_cons_zero, List.set_cons_succ]
            have HO10 : Hid (OwnT w.heap.size x10 (insS S s) v10) := by
              show x10.ownsRow _ _ _ _ _ _
              rw [HIn.out, List.length_append, List.map_append]
              exact hown10
            have HB10 : Hid (Below w.heap.size w x10) := HB.out.trans (hHeld.mono HB.out.size)
            have hins : (insS S s).length ≤ k + 1 := by
              rw [HIn.out, List.length_append, List.length_cons, htl9, hdl]
              omega
            clear hown10 hgrow10 hHeld
            refine M_tail [{ dst := some 3, op := Op.assign (Operand.tmp 37), type := 33, pos := "json.go:66", after := #[{ on := 10, ground := Ground.data }, { on := 10, ground := Ground.chain }, { on := 0, ground := Ground.phase }, { on := 1, ground := Ground.phase }, { on := 2, ground := Ground.phase }, { on := 3, ground := Ground.phase }, { on := 4, ground := Ground.phase }, { on := 5, ground := Ground.phase }, { on := 6, ground := Ground.phase }, { on := 7, ground := Ground.phase }, { on := 8, ground := Ground.phase }, { on := 9, ground := Ground.phase }, { on := 10, ground := Ground.phase }], guard := none }] rfl (by kernel_rfl) (by kernel_rfl) ?_
            go_wp2_with fail
            go_roundw
            case rel =>
              have hrelN : SInv w L v10 (.int .i64 ((k : Int) + 1)) x10 := ⟨k + 1, _, by omega, by go_num, HSk.out, hins, HO10.out, HB10.out⟩
              first | exact hrelN | ((repeat apply Exists.intro); refine ⟨hrelN, ?_⟩; first | rfl | exact ⟨rfl, rfl⟩ | exact ⟨rfl, rfl, rfl⟩ | exact ⟨rfl, rfl, rfl, rfl⟩ | exact ⟨rfl, rfl, rfl, rfl, rfl⟩)
            case measure => (simp [intOf]; omega)
        · have HSt : Hid (insS S s = S.take m ++ s :: S.drop m) := by
            show _ = _
            have h8 := take_while_stop (p := fun t => !less s t) S m HAll.out (fun u hu => by
              rw [List.getElem?_eq_none (by omega)] at hu
              cases hu)
            unfold insS
            rw [h8.1, h8.2]
          go_wp2_with fail
          have hmc : m ≤ co := by omega
          obtain ⟨pm, hpm⟩ : ∃ pm, pm = (if co = m then (some ⟨go, 0, none⟩ : Option Addr) else some ⟨go, m, none⟩) := ⟨_, rfl⟩
          have hHeld : Below wr.heap.size wr wr.drew := (Below.refl _ _).drew
          refine M_begin 11 12 (fun w' => Below wr.heap.size wr w') (by kernel_rfl) rfl ?_
          refine M_take 0 (oi := { dst := some 27, op := Op.move (Operand.tmp 3), type := 33, pos := "json.go:66", after := #[], guard := none }) (v := ?vv8) rfl (by kernel_rfl) (by kernel_rfl) (by kernel_rfl) (by kernel_rfl) (by kernel_rfl) (by decide) (by decide) (by kernel_rfl) (fun _ _ _ h => h) hHeld (Or.inl ⟨by rfl, ?hy8⟩) ?_
          case hy8 => (intro w' hSw; skip; go_simp; try (with_reducible rfl))
          try simp only [Act.put, List.setIfInBounds_toArray, List.set_cons_zero, List.set_cons_succ]
          refine M_take 1 (oi := { dst := some 28, op := Op.move (Operand.tmp 6), type := 3, pos := "json.go:66", after := #[], guard := none }) (v := ?vv9) rfl (by kernel_rfl) (by kernel_rfl) (by kernel_rfl) (by kernel_rfl) (by kernel_rfl) (by decide) (by decide) (by kernel_rfl) (fun _ _ _ h => h) hHeld (Or.inl ⟨by rfl, ?hy9⟩) ?_
          case hy9 => (intro w' hSw; skip; go_simp; try (with_reducible rfl))
          try simp only [Act.put, List.setIfInBounds_toArray, List.set_cons_zero, List.set_cons_succ]
          refine M_take 2 (oi := { dst := some 29, op := Op.slice 33 (Operand.tmp 27) none (some (Operand.tmp 28)) none, type := 33, pos := "json.go:66", after := #[{ on := 0, ground := Ground.data }, { on := 1, ground := Ground.data }], guard := none }) (v := .slice (some ⟨go, 0, none⟩) m co) rfl (by kernel_rfl) (by kernel_rfl) (by kernel_rfl) (by kernel_rfl) (by kernel_rfl) (by decide) (by decide) (by kernel_rfl) (fun _ _ _ h => h) hHeld (Or.inl ⟨by rfl, ?hy10⟩) ?_
          case hy10 => (intro w' hSw; skip; go_simp; try rfl)
          try simp only [Act.put, List.setIfInBounds_toArray, List.set_cons_zero, List.set_cons_succ]
          refine M_take 4 (oi := { dst := some 31, op := Op.move (Operand.tmp 5), type := 9, pos := "json.go:66", after := #[], guard := none }) (v := ?vv11) rfl (by kernel_rfl) (by kernel_rfl) (by kernel_rfl) (by kernel_rfl) (by kernel_rfl) (by decide) (by decide) (by kernel_rfl) (fun _ _ _ h => h) hHeld (Or.inl ⟨by rfl, ?hy11⟩) ?_
          case hy11 => (intro w' hSw; skip; go_simp; try (with_reducible rfl))
          try simp only [Act.put, List.setIfInBounds_toArray, List.set_cons_zero, List.set_cons_succ]
          refine M_take 6 (oi := { dst := some 33, op := Op.move (Operand.tmp 3), type := 33, pos := "json.go:66", after := #[], guard := none }) (v := ?vv12) rfl (by kernel_rfl) (by kernel_rfl) (by kernel_rfl) (by kernel_rfl) (by kernel_rfl) (by decide) (by decide) (by kernel_rfl) (fun _ _ _ h => h) hHeld (Or.inl ⟨by rfl, ?hy12⟩) ?_
          case hy12 => (intro w' hSw; skip; go_simp; try (with_reducible rfl))
          try simp only [Act.put, List.setIfInBounds_toArray, List.set_cons_zero, List.set_cons_succ]
          refine M_take 7 (oi := { dst := some 34, op := Op.move (Operand.tmp 6), type := 3, pos := "json.go:66", after := #[], guard := none }) (v := ?vv13) rfl (by kernel_rfl) (by kernel_rfl) (by kernel_rfl) (by kernel_rfl) (by kernel_rfl) (by decide) (by decide) (by kernel_rfl) (fun _ _ _ h => h) hHeld (Or.inl ⟨by rfl, ?hy13⟩) ?_
          case hy13 => (intro w' hSw; skip; go_simp; try (with_reducible rfl))
          try simp only [Act.put, List.setIfInBounds_toArray, List.set_cons_zero, List.set_cons_succ]
          refine M_take 8 (oi := { dst := some 35, op := Op.slice 33 (Operand.tmp 33) (some (Operand.tmp 34)) none none, type := 33, pos := "json.go:66", after := #[{ on := 6, ground := Ground.data }, { on := 7, ground := Ground.data }], guard := none }) (v := .slice pm (S.length - m) (co - m)) rfl (by kernel_rfl) (by kernel_rfl) (by kernel_rfl) (by kernel_rfl) (by kernel_rfl) (by decide) (by decide) (by kernel_rfl) (fun _ _ _ h => h) hHeld (Or.inl ⟨by rfl, ?hy14⟩) ?_
          case hy14 => (intro w' hSw; skip; go_simp; try rfl)
          try simp only [Act.put, List.setIfInBounds_toArray, List.set_cons_zero, List.set_cons_succ]
          obtain ⟨om, hom, hpm2⟩ : ∃ om, (om = m ∨ co = m) ∧ pm = some ⟨go, om, none⟩ := by
            by_cases hcm : co = m
            · exact ⟨0, Or.inr hcm, by rw [hpm, if_pos hcm]⟩
            · exact ⟨m, Or.inl rfl, by rw [hpm, if_neg hcm]⟩
          clear hpm
          subst hpm2
          have HCp : Hid (∀ W, Below wr.heap.size wr W → Calls Tryz.prog 71 #[.slice (some ⟨go, 0, none⟩) m co] W fun e w' => ∃ u, e = .returned u ∧ OwnT W.heap.size w' (S.take m) u ∧ Below W.heap.size W w') := fun W b => by
            refine rfcopy_any (S.take m) _ W (Or.inr ⟨go, 0, co, by rw [List.length_take, Nat.min_eq_left hm], fun i t ht => ?_⟩) (by rw [List.length_take]; omega)
            have h1 : S[i]? = some t := by
              rw [List.getElem?_take] at ht
              split at ht
              · exact ht
              · cases ht
            exact ⟨Nat.lt_of_lt_of_le hgo b.size, by rw [Nat.zero_add, b.cell (p := ⟨go, i, none⟩) hgo]; exact HQ.out i t h1⟩
          have HDr : Hid (∀ W, Below wr.heap.size wr W → ∀ (i : Nat) (t : Bs), (S.drop m)[i]? = some t → go < W.heap.size ∧ W.cell? ⟨go, om + i, none⟩ = some (.string ⟨t.toArray⟩)) := fun W b i t ht => by
            rw [List.getElem?_drop] at ht
            have hlt9 := (List.getElem?_eq_some_iff.1 ht).1
            have e9 : om = m := by
              rcases hom with h | h
              · exact h
              · omega
            rw [e9]
            exact ⟨Nat.lt_of_lt_of_le hgo b.size, by rw [b.cell (p := ⟨go, m + i, none⟩) hgo]; exact HQ.out _ t ht⟩
          have hdl : (S.drop m).length = S.length - m := List.length_drop
          have htl9 : (S.take m).length = m := by rw [List.length_take]; omega
          have HIn : Hid (insS S s = S.take m ++ s :: S.drop m) := HSt.out
          refine M_ready [3, 5] (by kernel_rfl) (by decide) ?_
          refine AllM.cons (i := 3) (o := { dst := some 30, op := Op.call { callee := Callee.value (Operand.func 71), args := #[Operand.tmp 29], argTypes := #[33] }, type := 33, pos := "json.go:66", after := #[{ on := 2, ground := Ground.data }], guard := none }) rfl (fun K hK => ?_) ?_
          · rw [if_pos (by rfl)]
            go_wp2_with fail
            refine Calls.mono (HCp.out _ hHeld) ?_
            rintro e x1 ⟨u, rfl, hu, b1⟩
            dsimp only
            refine hK.out _ _ (hHeld.trans (b1.mono hHeld.size)) (fun hHeld => ?_)
            clear hK K
            try simp only [Act.put, List.setIfInBounds_toArray, List.set_cons_zero, List.set_cons_succ]
            have hHeld0 : wr.heap.size ≤ x1.heap.size := hHeld.size
            refine M_ready [5] (by kernel_rfl) (by decide) ?_
            refine AllM.cons (i := 5) (o := { dst := some 32, op := Op.buildSlice 33 1 #[(0, Operand.tmp 31)], type := 33, pos := "json.go:66", after := #[{ on := 4, ground := Ground.data }], guard := none }) rfl (fun K hK => ?_) AllM.nil
            go_simp
            have b5 : Below x1.heap.size x1 (x1.alloc (.cells #[.string ⟨s.toArray⟩] 9)) := (Below.refl _ x1).alloc (Nat.le_refl _) (.cells #[.string ⟨s.toArray⟩] 9)
            have n5 : (x1.alloc (.cells #[.string ⟨s.toArray⟩] 9)).heap[x1.heap.size]? = some (.cells #[.string ⟨s.toArray⟩] 9 (0, 0)) := heap_alloc_new x1 _
            refine hK.out _ _ (hHeld.trans (b5.mono hHeld.size)) (fun hHeld => ?_)
            generalize x1.alloc (.cells #[.string ⟨s.toArray⟩] 9) = x5 at *
            clear hK K
            try simp only [Act.put, List.setIfInBounds_toArray, List.set_cons_zero, List.set_cons_succ]
            have hle5 : wr.heap.size ≤ x1.heap.size := (hHeld0 : wr.heap.size ≤ x1.heap.size)
            have hOne : x5.ownsRow w.heap.size 9 1 (.slice (some ⟨x1.heap.size, 0, none⟩) 1 1) 1 [.string ⟨s.toArray⟩] := ⟨rfl, Or.inr ⟨x1.heap.size, 1, _, rfl, Nat.le_trans HB.out.size hle5, n5, Nat.le_refl _, by unfold maxLen; omega, rfl, rfl⟩⟩
            have hU : OwnT w.heap.size x5 (S.take m) u := (OwnT.low (hu.kept (below_grownR b5) (own_none u)) (by have := HB.out.size; exact this))
            have hne5 : u.ownBlock = none ∨ u.ownBlock ≠ some x1.heap.size := (by cases hob : u.ownBlock with | none => exact Or.inl rfl | some c => exact Or.inr (fun e => by have := (OwnT.row hu c hob).2; have := Option.some.inj e; omega))
            have HU : Hid (OwnT w.heap.size x5 (S.take m) u ∧ (u.ownBlock = none ∨ u.ownBlock ≠ some x1.heap.size)) := ⟨hU, hne5⟩
            clear hU hne5
            refine M_ready [9] (by kernel_rfl) (by decide) ?_
            refine AllM.cons (i := 9) (o := { dst := some 36, op := Op.call { callee := Callee.builtin Builtin.append, args := #[Operand.tmp 32, Operand.tmp 35], argTypes := #[33, 33] }, type := 33, pos := "json.go:66", after := #[{ on := 5, ground := Ground.data }, { on := 8, ground := Ground.data }, { on := 3, ground := Ground.chain }], guard := none }) rfl (fun K hK => ?_) AllM.nil
            rw [if_pos (by rfl)]
            refine wp_append_own x5 (.tmp 32) (.tmp 35) 33 rfl w.heap.size 9 i0 (Value.string ⟨#[]⟩) 1 16 Tryz.underlying33 hi hz0 hz1 hz2 rfl (by decide) _ _ _ rfl hOne ⟨go, om, none⟩ (S.length - m) (co - m) ((S.drop m).map fun s => .string ⟨s.toArray⟩) rfl (by rw [List.length_map, hdl]; omega) (texts_news (HDr.out _ hHeld)) (texts_one _) (by unfold maxLen; omega) (by omega) (Nat.le_trans HB.out.size hHeld.size) ?_
            intro v9 x9 hown9 hgrow9 _
            have hg9 : x5.grownBy x9 (some x1.heap.size) := hgrow9
            refine hK.out _ _ (hHeld.grown hg9 hHeld.size (fun k e => by cases e; exact hle5)) (fun hHeld => ?_)
            clear hK K
            try simp only [Act.put, List.setIfInBounds_toArray, List.set_cons_zero, List.set_cons_succ]
            have hV9 : OwnT w.heap.size x9 (s :: S.drop m) v9 := by
              show x9.ownsRow _ _ _ _ _ _
              have e9 : (s :: S.drop m).length = 1 + (S.length - m) := by rw [List.length_cons, hdl]; omega
              rw [e9]
              exact hown9
            have HU9 : Hid (OwnT w.heap.size x9 (S.take m) u) := OwnT.kept HU.out.1 hg9 HU.out.2
            obtain ⟨gT, oT, cT, hvT, hcT⟩ : ∃ g o c, (v9 : Value) = .slice (some ⟨g, o, none⟩) (s :: (S.drop m)).length c ∧ ∀ (i : Nat) (t : Bs), (s :: (S.drop m))[i]? = some t → g < x9.heap.size ∧ x9.cell? ⟨g, o + i, none⟩ = some (.string ⟨t.toArray⟩) := by
              rcases OwnT.tsl hV9 with ⟨_, h9⟩ | h9
              · cases h9
              · exact h9
            have hl9 : (s :: (S.drop m)).length ≤ 100002 := by first | (simp; done) | (simp; omega)
            have HV9 : Hid _ := hcT
            clear hcT hV9
            refine M_ready [10] (by kernel_rfl) (by decide) ?_
            refine AllM.cons (i := 10) (o := { dst := some 37, op := Op.call { callee := Callee.builtin Builtin.append, args := #[Operand.tmp 30, Operand.tmp 36], argTypes := #[33, 33] }, type := 33, pos := "json.go:66", after := #[{ on := 3, ground := Ground.data }, { on := 9, ground := Ground.data }, { on := 9, ground := Ground.chain }], guard := none }) rfl (fun K hK => ?_) AllM.nil
            rw [if_pos (by rfl)]
            refine wp_append_own x9 (.tmp 30) (.tmp 36) 33 rfl w.heap.size 9 i0 (Value.string ⟨#[]⟩) 1 16 Tryz.underlying33 hi hz0 hz1 hz2 rfl (by decide) _ _ _ rfl HU9.out ⟨gT, oT, none⟩ (s :: (S.drop m)).length cT ((s :: (S.drop m)).map fun s => .string ⟨s.toArray⟩) hvT (by rw [List.length_map, Nat.mul_one]) (texts_news HV9.out) (texts_one _) (by unfold maxLen; omega) (by omega) (Nat.le_trans HB.out.size hHeld.size) ?_
            intro v10 x10 hown10 hgrow10 _
            refine hK.out _ _ (hHeld.grown hgrow10 hHeld.size (fun k e => by have := (OwnT.row hu _ (by assumption)).1; exact this)) (fun hHeld => ?_)
            clear hK K
            try simp only [Act.put, List.setIfInBounds_toArray, List.set_cons_zero, List.set_cons_succ]
            have HO10 : Hid (OwnT w.heap.size x10 (insS S s) v10) := by
              show x10.ownsRow _ _ _ _ _ _
              rw [HIn.out, List.length_append, List.map_append]
              exact hown10
            have HB10 : Hid (Below w.heap.size w x10) := HB.out.trans (hHeld.mono HB.out.size)
            have hins : (insS S s).length ≤ k + 1 := by
              rw [HIn.out, List.length_append, List.length_cons, htl9, hdl]
              omega
            clear hown10 hgrow10 hHeld
            refine M_tail [{ dst := some 3, op := Op.assign (Operand.tmp 37), type := 33, pos := "json.go:66", after := #[{ on := 10, ground := Ground.data }, { on := 10, ground := Ground.chain }, { on := 0, ground := Ground.phase }, { on := 1, ground := Ground.phase }, { on := 2, ground := Ground.phase }, { on := 3, ground := Ground.phase }, { on := 4, ground := Ground.phase }, { on := 5, ground := Ground.phase }, { on := 6, ground := Ground.phase }, { on := 7, ground := Ground.phase }, { on := 8, ground := Ground.phase }, { on := 9, ground := Ground.phase }, { on := 10, ground := Ground.phase }], guard := none }] rfl (by kernel_rfl) (by kernel_rfl) ?_
            go_wp2_with fail
            go_roundw
            case rel =>
              have hrelN : SInv w L v10 (.int .i64 ((k : Int) + 1)) x10 := ⟨k + 1, _, by omega, by go_num, HSk.out, hins, HO10.out, HB10.out⟩
              first | exact hrelN | ((repeat apply Exists.intro); refine ⟨hrelN, ?_⟩; first | rfl | exact ⟨rfl, rfl⟩ | exact ⟨rfl, rfl, rfl⟩ | exact ⟨rfl, rfl, rfl, rfl⟩ | exact ⟨rfl, rfl, rfl, rfl, rfl⟩)
            case measure => (simp [intOf]; omega)
          refine AllM.cons (i := 5) (o := { dst := some 32, op := Op.buildSlice 33 1 #[(0, Operand.tmp 31)], type := 33, pos := "json.go:66", after := #[{ on := 4, ground := Ground.data }], guard := none }) rfl (fun K hK => ?_) AllM.nil
          go_simp
          have b5 : Below wr.heap.size wr.drew ((wr.alloc (.cells #[.string ⟨s.toArray⟩] 9)).drew) := (Below.refl _ wr.drew).alloc (Nat.le_refl _) (.cells #[.string ⟨s.toArray⟩] 9)
          have n5 : ((wr.alloc (.cells #[.string ⟨s.toArray⟩] 9)).drew).heap[wr.heap.size]? = some (.cells #[.string ⟨s.toArray⟩] 9 (0, 0)) := heap_alloc_new wr.drew _
          refine hK.out _ _ (hHeld.trans (b5.mono hHeld.size)) (fun hHeld => ?_)
          generalize (wr.alloc (.cells #[.string ⟨s.toArray⟩] 9)).drew = x5 at *
          clear hK K
          try simp only [Act.put, List.setIfInBounds_toArray, List.set_cons_zero, List.set_cons_succ]
          refine M_ready [3] (by kernel_rfl) (by decide) ?_
          refine AllM.cons (i := 3) (o := { dst := some 30, op := Op.call { callee := Callee.value (Operand.func 71), args := #[Operand.tmp 29], argTypes := #[33] }, type := 33, pos := "json.go:66", after := #[{ on := 2, ground := Ground.data }], guard := none }) rfl (fun K hK => ?_) AllM.nil
          rw [if_pos (by rfl)]
          go_wp2_with fail
          refine Calls.mono (HCp.out _ hHeld) ?_
          rintro e x1 ⟨u, rfl, hu, b1⟩
          dsimp only
          refine hK.out _ _ (hHeld.trans (b1.mono hHeld.size)) (fun hHeld => ?_)
          clear hK K
          try simp only [Act.put, List.setIfInBounds_toArray, List.set_cons_zero, List.set_cons_succ]
          have hle5 : wr.heap.size ≤ wr.heap.size := (Nat.le_refl _)
          have hOne : x1.ownsRow w.heap.size 9 1 (.slice (some ⟨wr.heap.size, 0, none⟩) 1 1) 1 [.string ⟨s.toArray⟩] := ⟨rfl, Or.inr ⟨wr.heap.size, 1, _, rfl, Nat.le_trans HB.out.size hle5, ((b1.block _ (lt_of_block n5)).trans n5), Nat.le_refl _, by unfold maxLen; omega, rfl, rfl⟩⟩
          have hU : OwnT w.heap.size x1 (S.take m) u := (OwnT.low hu (Nat.le_trans HB.out.size (by have := b5.size; exact this)))
          have hne5 : u.ownBlock = none ∨ u.ownBlock ≠ some wr.heap.size := (by cases hob : u.ownBlock with | none => exact Or.inl rfl | some c => exact Or.inr (fun e => by have := (OwnT.row hu c hob).1; have := lt_of_block n5; have := Option.some.inj e; omega))
          have HU : Hid (OwnT w.heap.size x1 (S.take m) u ∧ (u.ownBlock = none ∨ u.ownBlock ≠ some wr.heap.size)) := ⟨hU, hne5⟩
          clear hU hne5
          refine M_ready [9] (by kernel_rfl) (by decide) ?_
          refine AllM.cons (i := 9) (o := { dst := some 36, op := Op.call { callee := Callee.builtin Builtin.append, args := #[Operand.tmp 32, Operand.tmp 35], argTypes := #[33, 33] }, type := 33, pos := "json.go:66", after := #[{ on := 5, ground := Ground.data }, { on := 8, ground := Ground.data }, { on := 3, ground := Ground.chain }], guard := none }) rfl (fun K hK => ?_) AllM.nil
          rw [if_pos (by rfl)]
          refine wp_append_own x1 (.tmp 32) (.tmp 35) 33 rfl w.heap.size 9 i0 (Value.string ⟨#[]⟩) 1 16 Tryz.underlying33 hi hz0 hz1 hz2 rfl (by decide) _ _ _ rfl hOne ⟨go, om, none⟩ (S.length - m) (co - m) ((S.drop m).map fun s => .string ⟨s.toArray⟩) rfl (by rw [List.length_map, hdl]; omega) (texts_news (HDr.out _ hHeld)) (texts_one _) (by unfold maxLen; omega) (by omega) (Nat.le_trans HB.out.size hHeld.size) ?_
          intro v9 x9 hown9 hgrow9 _
          have hg9 : x1.grownBy x9 (some wr.heap.size) := hgrow9
          refine hK.out _ _ (hHeld.grown hg9 hHeld.size (fun k e => by cases e; exact hle5)) (fun hHeld => ?_)
          clear hK K
          try simp only [Act.put, List.setIfInBounds_toArray, List.set_cons_zero, List.set_cons_succ]
          have hV9 : OwnT w.heap.size x9 (s :: S.drop m) v9 := by
            show x9.ownsRow _ _ _ _ _ _
            have e9 : (s :: S.drop m).length = 1 + (S.length - m) := by rw [List.length_cons, hdl]; omega
            rw [e9]
            exact hown9
          have HU9 : Hid (OwnT w.heap.size x9 (S.take m) u) := OwnT.kept HU.out.1 hg9 HU.out.2
          obtain ⟨gT, oT, cT, hvT, hcT⟩ : ∃ g o c, (v9 : Value) = .slice (some ⟨g, o, none⟩) (s :: (S.drop m)).length c ∧ ∀ (i : Nat) (t : Bs), (s :: (S.drop m))[i]? = some t → g < x9.heap.size ∧ x9.cell? ⟨g, o + i, none⟩ = some (.string ⟨t.toArray⟩) := by
            rcases OwnT.tsl hV9 with ⟨_, h9⟩ | h9
            · cases h9
            · exact h9
          have hl9 : (s :: (S.drop m)).length ≤ 100002 := by first | (simp; done) | (simp; omega)
          have HV9 : Hid _ := hcT
          clear hcT hV9
          refine M_ready [10] (by kernel_rfl) (by decide) ?_
          refine AllM.cons (i := 10) (o := { dst := some 37, op := Op.call { callee := Callee.builtin Builtin.append, args := #[Operand.tmp 30, Operand.tmp 36], argTypes := #[33, 33] }, type := 33, pos := "json.go:66", after := #[{ on := 3, ground := Ground.data }, { on := 9, ground := Ground.data }, { on := 9, ground := Ground.chain }], guard := none }) rfl (fun K hK => ?_) AllM.nil
          rw [if_pos (by rfl)]
          refine wp_append_own x9 (.tmp 30) (.tmp 36) 33 rfl w.heap.size 9 i0 (Value.string ⟨#[]⟩) 1 16 Tryz.underlying33 hi hz0 hz1 hz2 rfl (by decide) _ _ _ rfl HU9.out ⟨gT, oT, none⟩ (s :: (S.drop m)).length cT ((s :: (S.drop m)).map fun s => .string ⟨s.toArray⟩) hvT (by rw [List.length_map, Nat.mul_one]) (texts_news HV9.out) (texts_one _) (by unfold maxLen; omega) (by omega) (Nat.le_trans HB.out.size hHeld.size) ?_
          intro v10 x10 hown10 hgrow10 _
          refine hK.out _ _ (hHeld.grown hgrow10 hHeld.size (fun k e => by have := (OwnT.row hu _ (by assumption)).1; have h55 : wr.heap.size ≤ x5.heap.size := b5.size; omega)) (fun hHeld => ?_)
          clear hK K
          try simp only [Act.put, List.setIfInBounds_toArray, List.set_cons_zero, List.set_cons_succ]
          have HO10 : Hid (OwnT w.heap.size x10 (insS S s) v10) := by
            show x10.ownsRow _ _ _ _ _ _
            rw [HIn.out, List.length_append, List.map_append]
            exact hown10
          have HB10 : Hid (Below w.heap.size w x10) := HB.out.trans (hHeld.mono HB.out.size)
          have hins : (insS S s).length ≤ k + 1 := by
            rw [HIn.out, List.length_append, List.length_cons, htl9, hdl]
            omega
          clear hown10 hgrow10 hHeld
          refine M_tail [{ dst := some 3, op := Op.assign (Operand.tmp 37), type := 33, pos := "json.go:66", after := #[{ on := 10, ground := Ground.data }, { on := 10, ground := Ground.chain }, { on := 0, ground := Ground.phase }, { on := 1, ground := Ground.phase }, { on := 2, ground := Ground.phase }, { on := 3, ground := Ground.phase }, { on := 4, ground := Ground.phase }, { on := 5, ground := Ground.phase }, { on := 6, ground := Ground.phase }, { on := 7, ground := Ground.phase }, { on := 8, ground := Ground.phase }, { on := 9, ground := Ground.phase }, { on := 10, ground := Ground.phase }], guard := none }] rfl (by kernel_rfl) (by kernel_rfl) ?_
          go_wp2_with fail
          go_roundw
          case rel =>
            have hrelN : SInv w L v10 (.int .i64 ((k : Int) + 1)) x10 := ⟨k + 1, _, by omega, by go_num, HSk.out, hins, HO10.out, HB10.out⟩
            first | exact hrelN | ((repeat apply Exists.intro); refine ⟨hrelN, ?_⟩; first | rfl | exact ⟨rfl, rfl⟩ | exact ⟨rfl, rfl, rfl⟩ | exact ⟨rfl, rfl, rfl, rfl⟩ | exact ⟨rfl, rfl, rfl, rfl, rfl⟩)
          case measure => (simp [intOf]; omega)
    · have HE : Hid (R = S) := by
        show R = S
        rw [HR.out, HS.out, List.drop_eq_nil_of_le (by omega)]
        rfl
      go_wp2_with fail
      go_ret
      exact ⟨_, rfl, by rw [HE.out]; exact HO.out, HB.out⟩
end Go.Proofs.YtgaopmdpcjcooaaGreatDoor
