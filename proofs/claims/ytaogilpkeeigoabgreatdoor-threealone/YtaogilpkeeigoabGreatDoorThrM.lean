/- Contract over this translation: what the three make at one place; the loop over the names. -/
import Derived.Test.YtaogilpkeeigoabGreatDoorThrMp
namespace Go.Proofs.YtaogilpkeeigoabGreatDoor
open Go.RowKit
set_option linter.unusedVariables false
set_option linter.unusedSimpArgs false
def TLoop (av : Nat → Prop) (n : Nat) (w0 : World) (Bp : Nat) (va vb vc : Value) (pl : Option Addr) (L : List Bs) (G : Bs → Option (J n)) (o i : Value) (wr : World) : Prop :=
  ∃ (k : Nat) (acc : List (Bs × J n)) (g cap : Nat) (us : List Value), k ≤ L.length ∧ i = .int .i64 k ∧ o = .slice (some ⟨g, 0, none⟩) acc.length cap ∧ TInv av n w0 wr Bp va vb vc pl L G k acc g cap us
def CutR (n : Nat) (wr : World) (u1 u2 u3 : Value) (x y : Value) (wc : World) : Prop :=
  ∃ p k c gb, x = .slice p k c ∧ y = .pointer (some ⟨gb, 0, none⟩) ∧ WayOK n wc (.slice p k c) ∧ Box3 wc gb u1 u2 u3 ∧ Below wr.heap.size wr wc ∧ wr.heap.size ≤ gb
set_option maxRecDepth 100000 in
set_option maxHeartbeats 8000000 in
theorem tmerged_obj (av : Nat → Prop) (n : Nat) (ih : ThrOK n) (w : World) (a b : Option (J (n + 1))) (fs : List (Bs × J n)) (va vb : Value) (px : Option Addr) (cx : Nat) (way gv : Value) (hav : ∀ c, av c → c < w.heap.size) (ha : OptV av w (n + 1) a va) (hb : OptV av w (n + 1) b vb)
    (hx : St av w (n + 1) (Sum.inr (Sum.inr fs)) (.iface 80 (.slice px fs.length cx))) (oka : OkTO (n + 1) a) (okb : OkTO (n + 1) b) (okx : OkT (n + 1) (Sum.inr (Sum.inr fs))) (hway : WayOK (n + 1) w way) (hgv : gv = goNot ∨ noLoss (n + 1) a b (Sum.inr (Sum.inr fs))) :
    Calls Tryz.prog 45 #[.agg #[va, vb, .iface 80 (.slice px fs.length cx)], way, gv] w fun e w' => ∃ T' y', e = .returned (.iface T' y') ∧ St av w' (n + 1) (threeP (n + 1) a b (Sum.inr (Sum.inr fs))) (.iface T' y') ∧ Below w.heap.size w w' := by
  have okc : OkTO (n + 1) (some (Sum.inr (Sum.inr fs))) := fun x e => by cases e; exact okx
  have hc : OptV av w (n + 1) (some (Sum.inr (Sum.inr fs))) (.iface 80 (.slice px fs.length cx)) := Or.inr ⟨_, _, _, rfl, rfl, hx⟩
  obtain ⟨ra, la, fa⟩ := okT_fields oka
  obtain ⟨rb, lb, fb⟩ := okT_fields okb
  obtain ⟨rc, lc, fc⟩ := okT_fields okc
  obtain ⟨L, hL⟩ : ∃ L, L = namesU (fieldsP b) fs := ⟨_, rfl⟩
  obtain ⟨G, hG⟩ : ∃ G : Bs → Option (J n), G = fun s => ofT (threeP n) (look (fieldsP a) s) (look (fieldsP b) s) (look fs s) := ⟨_, rfl⟩
  have HL : Hid (L = namesU (fieldsP b) fs) := hL
  have HG : Hid (∀ s, G s = ofT (threeP n) (look (fieldsP a) s) (look (fieldsP b) s) (look fs s)) := fun s => by rw [hG]
  have HRes : Hid (threeP (n + 1) a b (Sum.inr (Sum.inr fs)) = Sum.inr (Sum.inr (pickF L G))) := by show _ = _; rw [hL, hG]; rfl
  have hLl : L.length ≤ 4000 := by
    rw [hL]
    have h1 := Lib.compact_length_le (sortB ((fieldsP b ++ fs).map fun f => f.1))
    have h2 : (sortB ((fieldsP b ++ fs).map fun f => f.1)).length = (fieldsP b).length + fs.length := by unfold sortB; simp
    have h3 : fs.length ≤ 2000 := lc
    unfold namesU
    omega
  have HNs : Hid (∀ w1, Below w.heap.size w w1 → Calls Tryz.prog 69 #[.agg #[va, vb, .iface 80 (.slice px fs.length cx)]] w1 fun e w' => ∃ v, e = .returned v ∧ HoldsL w1.heap.size w' v L ∧ Below w1.heap.size w1 w') := fun w1 b1 => by
    have h9 := placeNames_any av n b (some (Sum.inr (Sum.inr fs))) va vb _ w1 ha.isV (hb.below b1) (hc.below b1) lb lc
    rw [hL]
    exact h9
  have HUn0 : Hid (∀ nb : ByteArray, ∃ u1 u2 u3, OptV (fun c => av c ∨ w.heap.size ≤ c) w n (look (fieldsP a) nb.data.toList) u1 ∧ OptV (fun c => av c ∨ w.heap.size ≤ c) w n (look (fieldsP b) nb.data.toList) u2 ∧ OptV (fun c => av c ∨ w.heap.size ≤ c) w n (look fs nb.data.toList) u3 ∧
      ∀ w1, Below w.heap.size w w1 → Calls Tryz.prog 71 #[.agg #[va, vb, .iface 80 (.slice px fs.length cx)], .string nb] w1 fun e w' => e = .returned (.agg #[u1, u2, u3]) ∧ Below w1.heap.size w1 w') := fun nb => by
    have hwd : ∀ c, c < w.heap.size → ¬ av c → ¬ (av c ∨ w.heap.size ≤ c) := fun c h1 h2 h3 => by rcases h3 with h3 | h3; exact h2 h3; omega
    exact placeUnder_any (fun c => av c ∨ w.heap.size ≤ c) n a b (some (Sum.inr (Sum.inr fs))) va vb _ nb w (ha.move (Nat.le_refl _) (fun _ _ _ => rfl) hwd) (hb.move (Nat.le_refl _) (fun _ _ _ => rfl) hwd) (hc.move (Nat.le_refl _) (fun _ _ _ => rfl) hwd) ra rb rc la lb lc
  have HCat0 : Hid (∀ (nb : ByteArray) (W : World) (gg A : Nat), Below w.heap.size w W → W.heap[gg]? = some (.cells #[way, .slice (some ⟨A, 0, none⟩) 1 1] 34 (0, 0)) → W.heap[A]? = some (.cells #[.string nb] 9 (0, 0)) →
    Calls Tryz.prog 70 #[.slice (some ⟨gg, 0, none⟩) 2 2] W fun e w' => ∃ p k c, e = .returned (.slice p k c) ∧ WayOK n w' (.slice p k c) ∧ Below W.heap.size W w') := fun nb W gg A h1 h2 h3 => cat_any n way nb w hway W gg A h1 h2 h3
  have HIh : Hid (ThrOK n) := ih
  have HOa : Hid (∀ s, OkTO n (look (fieldsP a) s)) := okT_look oka
  have HOb : Hid (∀ s, OkTO n (look (fieldsP b) s)) := okT_look okb
  have HOc : Hid (∀ s, OkTO n (look fs s)) := okT_look okc
  have HGv : Hid (gv = goNot ∨ ∀ s, (∀ y, look fs s = some y → noLoss n (look (fieldsP a) s) (look (fieldsP b) s) y) ∧ (look fs s = none → look (fieldsP a) s = none)) := hgv
  have HAv : Hid (∀ c, av c → c < w.heap.size) := hav
  have HNot : Hid (∀ i (hi : i < L.length), look (fieldsP b) L[i] ≠ none ∨ look fs L[i] ≠ none) := fun i hi => by
    have h1 : L[i] ∈ namesU (fieldsP b) fs := by rw [← hL]; exact List.getElem_mem hi
    rcases (namesU_mem _ _ _).1 h1 with h | h
    · exact Or.inl (fun e => look_none e h)
    · exact Or.inr (fun e => look_none e h)
  have hwv : ∃ q mq cq, way = .slice q mq cq := by
    obtain ⟨l, hp, _⟩ := hway
    obtain ⟨q, c, e⟩ := hp.shape
    exact ⟨q, _, c, e⟩
  obtain ⟨qw, mw, cw0, rfl⟩ := hwv
  obtain ⟨i0, hi, hz0, hz1, hz2⟩ := info_parts info_field
  obtain ⟨a1, a2, a3, a4, a5, a6⟩ := tas_Object
  have va' := ha.isV
  have vb' := hb.isV
  have HP : Hid (Box3 ((w.alloc (.cells #[va, vb, .iface 80 (.slice px fs.length cx)] 88)).alloc (.cells #[] 83)) w.heap.size va vb (.iface 80 (.slice px fs.length cx))) := (box3_new w _ _ _).alloc _
  have HRw0 : Hid (((w.alloc (.cells #[va, vb, .iface 80 (.slice px fs.length cx)] 88)).alloc (.cells #[] 83)).heap[w.heap.size + 1]? = some (.cells #[] 83 (0, 0))) := by
    have h9 := heap_alloc_new (w.alloc (.cells #[va, vb, .iface 80 (.slice px fs.length cx)] 88)) (.cells #[] 83)
    have e9 : (w.alloc (.cells #[va, vb, .iface 80 (.slice px fs.length cx)] 88)).heap.size = w.heap.size + 1 := by simp
    rw [e9] at h9
    exact h9
  have HB0 : Hid (Below w.heap.size w ((w.alloc (.cells #[va, vb, .iface 80 (.slice px fs.length cx)] 88)).alloc (.cells #[] 83))) := ((Below.refl _ _).alloc (Nat.le_refl _) _).alloc (by simp) _
  clear hG hL ih ha hb hc hx hway hgv hav oka okb okx okc ra la fa rb lb fb rc lc fc
  go_enter Tryz.func45, Tryz.ntmps45
  go_wp2_with fail
  obtain ⟨w0, hw0⟩ : ∃ w0, w0 = (w.alloc (.cells #[va, vb, .iface 80 (.slice px fs.length cx)] 88)).alloc (.cells #[] 83) := ⟨_, rfl⟩
  rw [← hw0] at HP HRw0 HB0 ⊢
  clear hw0
  refine Calls.mono (HNs.out w0 HB0.out) ?_
  rintro e w1 ⟨vL, rfl, hNm, b1⟩
  obtain ⟨pl, cl, rfl, hN⟩ := hNm.at
  have HB1 : Hid (Below w.heap.size w w1) := HB0.out.trans (b1.mono HB0.out.size)
  have HT0 : Hid (TInv av n w w1 w.heap.size va vb (.iface 80 (.slice px fs.length cx)) pl L G 0 [] (w.heap.size + 1) 0 []) := by
    refine ⟨HP.out.below b1, by omega, fun i s hi => ?_, ⟨rfl, #[], (b1.block _ (lt_of_block HRw0.out)).trans HRw0.out, Nat.le_refl _, by unfold maxLen; omega, rfl, rfl⟩, rfl, fun i f u hf => by simp at hf, by omega, HB1.out, Nat.le_refl _, by simp [pickF]⟩
    obtain ⟨gl, e1, e2, e3, e4⟩ := hN i s hi
    exact ⟨gl, e1, by have := lt_of_block HRw0.out; omega, e3, e4⟩
  clear hNm hN b1 HP HRw0
  go_wp2_with fail
  go_loopw [9, 28] (fun o i wr => TLoop av n w w.heap.size va vb (.iface 80 (.slice px fs.length cx)) pl L G o i wr) (fun _ i _ => L.length - (intOf i).toNat)
  case atStart => exact ⟨0, [], _, 0, [], Nat.zero_le _, rfl, rfl, HT0.out⟩
  case round =>
    obtain ⟨k, acc, g, cap, us, hk, rfl, rfl, hI⟩ := hrel
    have HI : Hid (TInv av n w wr w.heap.size va vb (.iface 80 (.slice px fs.length cx)) pl L G k acc g cap us) := hI
    have hmany := hI.many
    clear hI HT0
    by_cases hlt : k < L.length
    · obtain ⟨gl, rfl, hgl1, hgl2, hgl3⟩ := HI.out.nms k L[k] (List.getElem?_eq_getElem hlt)
      obtain ⟨nb, hnb⟩ : ∃ nb : ByteArray, nb = ⟨L[k].toArray⟩ := ⟨_, rfl⟩
      have hnl : nb.data.toList = L[k] := by rw [hnb]
      have HNB : Hid (nb = ⟨L[k].toArray⟩) := hnb
      rw [← hnb] at hgl3
      obtain ⟨u1, u2, u3, o1, o2, o3, hU⟩ := HUn0.out nb
      rw [hnl] at o1 o2 o3
      have HUn : Hid (∀ W, Below wr.heap.size wr W → Calls Tryz.prog 71 #[.agg #[va, vb, .iface 80 (.slice px fs.length cx)], .string nb] W fun e w' => e = .returned (.agg #[u1, u2, u3]) ∧ Below W.heap.size W w') := fun W bw => hU W (HI.out.bel.trans (bw.mono HI.out.bel.size))
      have HCat : Hid (∀ (W : World) (gg A : Nat), Below wr.heap.size wr W → W.heap[gg]? = some (.cells #[.slice qw mw cw0, .slice (some ⟨A, 0, none⟩) 1 1] 34 (0, 0)) → W.heap[A]? = some (.cells #[.string nb] 9 (0, 0)) →
        Calls Tryz.prog 70 #[.slice (some ⟨gg, 0, none⟩) 2 2] W fun e w' => ∃ p k c, e = .returned (.slice p k c) ∧ WayOK n w' (.slice p k c) ∧ Below W.heap.size W w') := fun W gg A bw h1 h2 => HCat0.out nb W gg A (HI.out.bel.trans (bw.mono HI.out.bel.size)) h1 h2
      have HO1 : Hid (OptV (fun c => av c ∨ w.heap.size ≤ c) w n (look (fieldsP a) L[k]) u1) := o1
      have HO2 : Hid (OptV (fun c => av c ∨ w.heap.size ≤ c) w n (look (fieldsP b) L[k]) u2) := o2
      have HO3 : Hid (OptV (fun c => av c ∨ w.heap.size ≤ c) w n (look fs L[k]) u3) := o3
      have i1 := o1.isV
      have i2 := o2.isV
      have i3 := o3.isV
      have hkI : (k : Int) < (L.length : Int) := by omega
      clear o1 o2 o3 hU hnb
      go_wp2_with fail
      go_cut [12, 13] from 32 to 67 (fun x y wc => CutR n wr u1 u2 u3 x y wc)
      case first =>
        have hm1 : (match u1 with | Value.agg cs => cs | v => #[v]) = #[u1] := by rcases i1 with rfl | ⟨T, x, rfl⟩ <;> rfl
        have hm2 : (match u2 with | Value.agg cs => cs | v => #[v]) = #[u2] := by rcases i2 with rfl | ⟨T, x, rfl⟩ <;> rfl
        have hm3 : (match u3 with | Value.agg cs => cs | v => #[v]) = #[u3] := by rcases i3 with rfl | ⟨T, x, rfl⟩ <;> rfl
        have hHeld : Below wr.heap.size wr wr.drew ∧ Box3 wr.drew w.heap.size va vb (.iface 80 (.slice px fs.length cx)) := ⟨(Below.refl _ _).drew, HI.out.box⟩
        refine M_begin 9 11 (fun w' => Below wr.heap.size wr w' ∧ Box3 w' w.heap.size va vb (.iface 80 (.slice px fs.length cx))) (by kernel_rfl) rfl ?_
        refine M_take 0 (oi := { dst := some 32, op := Op.move (Operand.tmp 1), type := 34, pos := "place.go:38", after := #[], guard := none }) (v := ?vv1) rfl (by kernel_rfl) (by kernel_rfl) (by kernel_rfl) (by kernel_rfl) (by kernel_rfl) (by decide) (by decide) (by kernel_rfl) (fun _ _ _ h => h) hHeld (Or.inl ⟨by rfl, ?hy1⟩) ?_
        case hy1 => (intro w' hSw; have r0 := hSw.2.c0; have r1 := hSw.2.c1; have r2 := hSw.2.c2; go_simp; try (with_reducible rfl))
        try simp only [Act.put, List.setIfInBounds_toArray, List.set_cons_zero, List.set_cons_succ]
        refine M_take 1 (oi := { dst := some 33, op := Op.move (Operand.tmp 11), type := 9, pos := "place.go:38", after := #[], guard := none }) (v := ?vv2) rfl (by kernel_rfl) (by kernel_rfl) (by kernel_rfl) (by kernel_rfl) (by kernel_rfl) (by decide) (by decide) (by kernel_rfl) (fun _ _ _ h => h) hHeld (Or.inl ⟨by rfl, ?hy2⟩) ?_
        case hy2 => (intro w' hSw; have r0 := hSw.2.c0; have r1 := hSw.2.c1; have r2 := hSw.2.c2; go_simp; try (with_reducible rfl))
        try simp only [Act.put, List.setIfInBounds_toArray, List.set_cons_zero, List.set_cons_succ]
        refine M_take 5 (oi := { dst := some 37, op := Op.load 88 (Operand.tmp 3), type := 88, pos := "place.go:38", after := #[], guard := none }) (v := ?vv3) rfl (by kernel_rfl) (by kernel_rfl) (by kernel_rfl) (by kernel_rfl) (by kernel_rfl) (by decide) (by decide) (by kernel_rfl) (fun _ _ _ h => h) hHeld (Or.inl ⟨by rfl, ?hy3⟩) ?_
        case hy3 => (intro w' hSw; have r0 := hSw.2.c0; have r1 := hSw.2.c1; have r2 := hSw.2.c2; go_simp; try (with_reducible rfl))
        try simp only [Act.put, List.setIfInBounds_toArray, List.set_cons_zero, List.set_cons_succ]
        refine M_take 6 (oi := { dst := some 38, op := Op.move (Operand.tmp 11), type := 9, pos := "place.go:38", after := #[], guard := none }) (v := ?vv4) rfl (by kernel_rfl) (by kernel_rfl) (by kernel_rfl) (by kernel_rfl) (by kernel_rfl) (by decide) (by decide) (by kernel_rfl) (fun _ _ _ h => h) hHeld (Or.inl ⟨by rfl, ?hy4⟩) ?_
        case hy4 => (intro w' hSw; have r0 := hSw.2.c0; have r1 := hSw.2.c1; have r2 := hSw.2.c2; go_simp; try (with_reducible rfl))
        try simp only [Act.put, List.setIfInBounds_toArray, List.set_cons_zero, List.set_cons_succ]
        refine M_ready [2, 8] (by kernel_rfl) (by decide) ?_
        refine AllM.cons (i := 2) (o := { dst := some 34, op := Op.buildSlice 34 1 #[(0, Operand.tmp 33)], type := 34, pos := "place.go:38", after := #[{ on := 1, ground := Ground.data }], guard := none }) rfl (fun K hK => ?_) ?_
        · go_simp
          have hBx1 : Below wr.heap.size wr.drew ((wr.alloc (.cells #[.string nb] 9)).drew) := (Below.refl _ wr.drew).alloc (Nat.le_refl _) (.cells #[.string nb] 9)
          have hNx1 : ((wr.alloc (.cells #[.string nb] 9)).drew).heap[wr.heap.size]? = some (.cells #[.string nb] 9 (0, 0)) := heap_alloc_new wr.drew _
          refine hK.out _ _ ⟨hHeld.1.trans (hBx1.mono hHeld.1.size), hHeld.2.below hBx1⟩ (fun hHeld => ?_)
          generalize (wr.alloc (.cells #[.string nb] 9)).drew = x1 at *
          clear hK K
          try simp only [Act.put, List.setIfInBounds_toArray, List.set_cons_zero, List.set_cons_succ]
          refine M_ready [3, 8] (by kernel_rfl) (by decide) ?_
          refine AllM.cons (i := 3) (o := { dst := some 35, op := Op.buildSlice 158 2 #[(0, Operand.tmp 32), (1, Operand.tmp 34)], type := 158, pos := "place.go:38", after := #[{ on := 0, ground := Ground.data }, { on := 2, ground := Ground.data }], guard := none }) rfl (fun K hK => ?_) ?_
          · go_simp
            have hBx2 : Below x1.heap.size x1 (x1.alloc (.cells #[.slice qw mw cw0, .slice (some ⟨wr.heap.size, 0, none⟩) 1 1] 34)) := (Below.refl _ x1).alloc (Nat.le_refl _) (.cells #[.slice qw mw cw0, .slice (some ⟨wr.heap.size, 0, none⟩) 1 1] 34)
            have hNx2 : (x1.alloc (.cells #[.slice qw mw cw0, .slice (some ⟨wr.heap.size, 0, none⟩) 1 1] 34)).heap[x1.heap.size]? = some (.cells #[.slice qw mw cw0, .slice (some ⟨wr.heap.size, 0, none⟩) 1 1] 34 (0, 0)) := heap_alloc_new x1 _
            refine hK.out _ _ ⟨hHeld.1.trans (hBx2.mono hHeld.1.size), hHeld.2.below hBx2⟩ (fun hHeld => ?_)
            generalize x1.alloc (.cells #[.slice qw mw cw0, .slice (some ⟨wr.heap.size, 0, none⟩) 1 1] 34) = x2 at *
            clear hK K
            try simp only [Act.put, List.setIfInBounds_toArray, List.set_cons_zero, List.set_cons_succ]
            refine M_ready [4, 8] (by kernel_rfl) (by decide) ?_
            refine AllM.cons (i := 4) (o := { dst := some 36, op := Op.call { callee := Callee.value (Operand.func 70), args := #[Operand.tmp 35], argTypes := #[158] }, type := 34, pos := "place.go:38", after := #[{ on := 3, ground := Ground.data }], guard := none }) rfl (fun K hK => ?_) ?_
            · have hG3 : x2.heap[x1.heap.size]? = _ := (((Below.refl x2.heap.size x2)).block _ (lt_of_block hNx2)).trans hNx2
              have hG2 : x2.heap[wr.heap.size]? = _ := ((((Below.refl x1.heap.size x1).trans (hBx2.mono (Below.refl x1.heap.size x1).size))).block _ (lt_of_block hNx1)).trans hNx1
              have HCl : Hid _ := HCat.out x2 (x1.heap.size) (wr.heap.size) hHeld.1 hG3 hG2
              rw [if_pos (by rfl)]
              go_wp2_with fail
              refine Calls.mono HCl.out ?_
              rintro e x3 ⟨pw, kw, cw, rfl, hWy, hBx3⟩
              dsimp only
              first | refine hK.out _ _ ⟨hHeld.1.trans (hBx3.mono hHeld.1.size), hHeld.2.below hBx3⟩ (fun hHeld => ?_) | (trace_state; fail)
              clear HCl hG3 hG2
              clear hK K
              try simp only [Act.put, List.setIfInBounds_toArray, List.set_cons_zero, List.set_cons_succ]
              refine M_ready [7, 8] (by kernel_rfl) (by decide) ?_
              refine AllM.cons (i := 7) (o := { dst := some 39, op := Op.call { callee := Callee.value (Operand.func 71), args := #[Operand.tmp 37, Operand.tmp 38], argTypes := #[88, 9] }, type := 88, pos := "place.go:38", after := #[{ on := 5, ground := Ground.data }, { on := 6, ground := Ground.data }, { on := 4, ground := Ground.chain }], guard := none }) rfl (fun K hK => ?_) ?_
              · rw [if_pos (by rfl)]
                go_wp2_with fail
                refine Calls.mono (HUn.out x3 hHeld.1) ?_
                rintro e x4 ⟨rfl, hBx4⟩
                dsimp only
                refine hK.out _ _ ⟨hHeld.1.trans (hBx4.mono hHeld.1.size), hHeld.2.below hBx4⟩ (fun hHeld => ?_)
                clear hK K
                try simp only [Act.put, List.setIfInBounds_toArray, List.set_cons_zero, List.set_cons_succ]
                refine M_ready [8] (by kernel_rfl) (by decide) ?_
                refine AllM.cons (i := 8) (o := { dst := some 13, op := Op.alloc 88, type := 0, pos := "place.go:38", after := #[], guard := none }) rfl (fun K hK => ?_) ?_
                · go_simp
                  have hBx5 : Below x4.heap.size x4 (x4.alloc (.cells #[.nilIface, .nilIface, .nilIface] 88)) := (Below.refl _ x4).alloc (Nat.le_refl _) (.cells #[.nilIface, .nilIface, .nilIface] 88)
                  have hNx5 : (x4.alloc (.cells #[.nilIface, .nilIface, .nilIface] 88)).heap[x4.heap.size]? = some (.cells #[.nilIface, .nilIface, .nilIface] 88 (0, 0)) := heap_alloc_new x4 _
                  refine hK.out _ _ ⟨hHeld.1.trans (hBx5.mono hHeld.1.size), hHeld.2.below hBx5⟩ (fun hHeld => ?_)
                  generalize x4.alloc (.cells #[.nilIface, .nilIface, .nilIface] 88) = x5 at *
                  clear hK K
                  try simp only [Act.put, List.setIfInBounds_toArray, List.set_cons_zero, List.set_cons_succ]
                  refine M_tail [{ dst := some 12, op := Op.assign (Operand.tmp 36), type := 34, pos := "place.go:38", after := #[{ on := 4, ground := Ground.data }, { on := 7, ground := Ground.chain }, { on := 0, ground := Ground.phase }, { on := 1, ground := Ground.phase }, { on := 2, ground := Ground.phase }, { on := 3, ground := Ground.phase }, { on := 4, ground := Ground.phase }, { on := 5, ground := Ground.textOnly Departure.lateStores }, { on := 6, ground := Ground.textOnly Departure.lateStores }, { on := 7, ground := Ground.textOnly Departure.lateStoresUnsure }, { on := 8, ground := Ground.phase }], guard := none }, { dst := none, op := Op.store 88 (Operand.tmp 13) (Operand.tmp 39), type := 0, pos := "place.go:38", after := #[{ on := 8, ground := Ground.data }, { on := 7, ground := Ground.data }, { on := 9, ground := Ground.chain }, { on := 0, ground := Ground.phase }, { on := 1, ground := Ground.phase }, { on := 2, ground := Ground.phase }, { on := 3, ground := Ground.phase }, { on := 4, ground := Ground.phase }, { on := 5, ground := Ground.phase }, { on := 6, ground := Ground.phase }, { on := 7, ground := Ground.phase }, { on := 8, ground := Ground.phase }, { on := 9, ground := Ground.phase }], guard := none }] rfl (by kernel_rfl) (by kernel_rfl) ?_
                  have hX : Box3 x5 (x4.heap.size) .nilIface .nilIface .nilIface := Box3.below (w := x5) hNx5 (Below.refl x5.heap.size x5)
                  have z0 := hX.c0
                  have z1 := hX.c1
                  have z2 := hX.c2
                  have f0 := hX.free 0
                  have f1 := hX.free 1
                  have f2 := hX.free 2
                  have HWy : Hid (WayOK n x5 (.slice pw kw cw)) := WayOK.below (w := x3) hWy (((Below.refl x3.heap.size x3).trans (hBx4.mono (Below.refl x3.heap.size x3).size)).trans (hBx5.mono ((Below.refl x3.heap.size x3).trans (hBx4.mono (Below.refl x3.heap.size x3).size)).size))
                  have HXX : Hid (Box3 x5 (x4.heap.size) .nilIface .nilIface .nilIface) := hX
                  have HHe : Hid (Below wr.heap.size wr x5) := hHeld.1
                  have HLe : Hid (wr.heap.size ≤ x4.heap.size) := (((((Below.refl wr.heap.size wr).drew.trans (hBx1.mono (Below.refl wr.heap.size wr).drew.size)).trans (hBx2.mono ((Below.refl wr.heap.size wr).drew.trans (hBx1.mono (Below.refl wr.heap.size wr).drew.size)).size)).trans (hBx3.mono (((Below.refl wr.heap.size wr).drew.trans (hBx1.mono (Below.refl wr.heap.size wr).drew.size)).trans (hBx2.mono ((Below.refl wr.heap.size wr).drew.trans (hBx1.mono (Below.refl wr.heap.size wr).drew.size)).size)).size)).trans (hBx4.mono ((((Below.refl wr.heap.size wr).drew.trans (hBx1.mono (Below.refl wr.heap.size wr).drew.size)).trans (hBx2.mono ((Below.refl wr.heap.size wr).drew.trans (hBx1.mono (Below.refl wr.heap.size wr).drew.size)).size)).trans (hBx3.mono (((Below.refl wr.heap.size wr).drew.trans (hBx1.mono (Below.refl wr.heap.size wr).drew.size)).trans (hBx2.mono ((Below.refl wr.heap.size wr).drew.trans (hBx1.mono (Below.refl wr.heap.size wr).drew.size)).size)).size)).size)).size
                  clear hX hHeld
                  clear hm1 hm2 hm3
                  rcases i1 with rfl | ⟨T1, y1, rfl⟩ <;> rcases i2 with rfl | ⟨T2, y2, rfl⟩ <;> rcases i3 with rfl | ⟨T3, y3, rfl⟩
                  all_goals
                    go_wp2_with fail
                    go_meet
                    case rel => exact ⟨pw, kw, cw, x4.heap.size, rfl, rfl, HWy.out.put3 HXX.out _ _ _, put3_box HXX.out _ _ _, put3_below HHe.out HLe.out HHe.out.size _ _ _, HLe.out⟩
                exact AllM.nil
              refine AllM.cons (i := 8) (o := { dst := some 13, op := Op.alloc 88, type := 0, pos := "place.go:38", after := #[], guard := none }) rfl (fun K hK => ?_) ?_
              · go_simp
                have hBx6 : Below x3.heap.size x3 (x3.alloc (.cells #[.nilIface, .nilIface, .nilIface] 88)) := (Below.refl _ x3).alloc (Nat.le_refl _) (.cells #[.nilIface, .nilIface, .nilIface] 88)
                have hNx6 : (x3.alloc (.cells #[.nilIface, .nilIface, .nilIface] 88)).heap[x3.heap.size]? = some (.cells #[.nilIface, .nilIface, .nilIface] 88 (0, 0)) := heap_alloc_new x3 _
                refine hK.out _ _ ⟨hHeld.1.trans (hBx6.mono hHeld.1.size), hHeld.2.below hBx6⟩ (fun hHeld => ?_)
                generalize x3.alloc (.cells #[.nilIface, .nilIface, .nilIface] 88) = x6 at *
                clear hK K
                try simp only [Act.put, List.setIfInBounds_toArray, List.set_cons_zero, List.set_cons_succ]
                refine M_ready [7] (by kernel_rfl) (by decide) ?_
                refine AllM.cons (i := 7) (o := { dst := some 39, op := Op.call { callee := Callee.value (Operand.func 71), args := #[Operand.tmp 37, Operand.tmp 38], argTypes := #[88, 9] }, type := 88, pos := "place.go:38", after := #[{ on := 5, ground := Ground.data }, { on := 6, ground := Ground.data }, { on := 4, ground := Ground.chain }], guard := none }) rfl (fun K hK => ?_) ?_
                · rw [if_pos (by rfl)]
                  go_wp2_with fail
                  refine Calls.mono (HUn.out x6 hHeld.1) ?_
                  rintro e x7 ⟨rfl, hBx7⟩
                  dsimp only
                  refine hK.out _ _ ⟨hHeld.1.trans (hBx7.mono hHeld.1.size), hHeld.2.below hBx7⟩ (fun hHeld => ?_)
                  clear hK K
                  try simp only [Act.put, List.setIfInBounds_toArray, List.set_cons_zero, List.set_cons_succ]
                  refine M_tail [{ dst := some 12, op := Op.assign (Operand.tmp 36), type := 34, pos := "place.go:38", after := #[{ on := 4, ground := Ground.data }, { on := 7, ground := Ground.chain }, { on := 0, ground := Ground.phase }, { on := 1, ground := Ground.phase }, { on := 2, ground := Ground.phase }, { on := 3, ground := Ground.phase }, { on := 4, ground := Ground.phase }, { on := 5, ground := Ground.textOnly Departure.lateStores }, { on := 6, ground := Ground.textOnly Departure.lateStores }, { on := 7, ground := Ground.textOnly Departure.lateStoresUnsure }, { on := 8, ground := Ground.phase }], guard := none }, { dst := none, op := Op.store 88 (Operand.tmp 13) (Operand.tmp 39), type := 0, pos := "place.go:38", after := #[{ on := 8, ground := Ground.data }, { on := 7, ground := Ground.data }, { on := 9, ground := Ground.chain }, { on := 0, ground := Ground.phase }, { on := 1, ground := Ground.phase }, { on := 2, ground := Ground.phase }, { on := 3, ground := Ground.phase }, { on := 4, ground := Ground.phase }, { on := 5, ground := Ground.phase }, { on := 6, ground := Ground.phase }, { on := 7, ground := Ground.phase }, { on := 8, ground := Ground.phase }, { on := 9, ground := Ground.phase }], guard := none }] rfl (by kernel_rfl) (by kernel_rfl) ?_
                  have hX : Box3 x7 (x3.heap.size) .nilIface .nilIface .nilIface := Box3.below (w := x6) hNx6 ((Below.refl x6.heap.size x6).trans (hBx7.mono (Below.refl x6.heap.size x6).size))
                  have z0 := hX.c0
                  have z1 := hX.c1
                  have z2 := hX.c2
                  have f0 := hX.free 0
                  have f1 := hX.free 1
                  have f2 := hX.free 2
                  have HWy : Hid (WayOK n x7 (.slice pw kw cw)) := WayOK.below (w := x3) hWy (((Below.refl x3.heap.size x3).trans (hBx6.mono (Below.refl x3.heap.size x3).size)).trans (hBx7.mono ((Below.refl x3.heap.size x3).trans (hBx6.mono (Below.refl x3.heap.size x3).size)).size))
                  have HXX : Hid (Box3 x7 (x3.heap.size) .nilIface .nilIface .nilIface) := hX
                  have HHe : Hid (Below wr.heap.size wr x7) := hHeld.1
                  have HLe : Hid (wr.heap.size ≤ x3.heap.size) := ((((Below.refl wr.heap.size wr).drew.trans (hBx1.mono (Below.refl wr.heap.size wr).drew.size)).trans (hBx2.mono ((Below.refl wr.heap.size wr).drew.trans (hBx1.mono (Below.refl wr.heap.size wr).drew.size)).size)).trans (hBx3.mono (((Below.refl wr.heap.size wr).drew.trans (hBx1.mono (Below.refl wr.heap.size wr).drew.size)).trans (hBx2.mono ((Below.refl wr.heap.size wr).drew.trans (hBx1.mono (Below.refl wr.heap.size wr).drew.size)).size)).size)).size
                  clear hX hHeld
                  clear hm1 hm2 hm3
                  rcases i1 with rfl | ⟨T1, y1, rfl⟩ <;> rcases i2 with rfl | ⟨T2, y2, rfl⟩ <;> rcases i3 with rfl | ⟨T3, y3, rfl⟩
                  all_goals
                    go_wp2_with fail
                    go_meet
                    case rel => exact ⟨pw, kw, cw, x3.heap.size, rfl, rfl, HWy.out.put3 HXX.out _ _ _, put3_box HXX.out _ _ _, put3_below HHe.out HLe.out HHe.out.size _ _ _, HLe.out⟩
                exact AllM.nil
              exact AllM.nil
            refine AllM.cons (i := 8) (o := { dst := some 13, op := Op.alloc 88, type := 0, pos := "place.go:38", after := #[], guard := none }) rfl (fun K hK => ?_) ?_
            · go_simp
              have hBx8 : Below x2.heap.size x2 (x2.alloc (.cells #[.nilIface, .nilIface, .nilIface] 88)) := (Below.refl _ x2).alloc (Nat.le_refl _) (.cells #[.nilIface, .nilIface, .nilIface] 88)
              have hNx8 : (x2.alloc (.cells #[.nilIface, .nilIface, .nilIface] 88)).heap[x2.heap.size]? = some (.cells #[.nilIface, .nilIface, .nilIface] 88 (0, 0)) := heap_alloc_new x2 _
              refine hK.out _ _ ⟨hHeld.1.trans (hBx8.mono hHeld.1.size), hHeld.2.below hBx8⟩ (fun hHeld => ?_)
              generalize x2.alloc (.cells #[.nilIface, .nilIface, .nilIface] 88) = x8 at *
              clear hK K
              try simp only [Act.put, List.setIfInBounds_toArray, List.set_cons_zero, List.set_cons_succ]
              refine M_ready [4] (by kernel_rfl) (by decide) ?_
              refine AllM.cons (i := 4) (o := { dst := some 36, op := Op.call { callee := Callee.value (Operand.func 70), args := #[Operand.tmp 35], argTypes := #[158] }, type := 34, pos := "place.go:38", after := #[{ on := 3, ground := Ground.data }], guard := none }) rfl (fun K hK => ?_) ?_
              · have hG3 : x8.heap[x1.heap.size]? = _ := ((((Below.refl x2.heap.size x2).trans (hBx8.mono (Below.refl x2.heap.size x2).size))).block _ (lt_of_block hNx2)).trans hNx2
                have hG2 : x8.heap[wr.heap.size]? = _ := (((((Below.refl x1.heap.size x1).trans (hBx2.mono (Below.refl x1.heap.size x1).size)).trans (hBx8.mono ((Below.refl x1.heap.size x1).trans (hBx2.mono (Below.refl x1.heap.size x1).size)).size))).block _ (lt_of_block hNx1)).trans hNx1
                have HCl : Hid _ := HCat.out x8 (x1.heap.size) (wr.heap.size) hHeld.1 hG3 hG2
                rw [if_pos (by rfl)]
                go_wp2_with fail
                refine Calls.mono HCl.out ?_
                rintro e x9 ⟨pw, kw, cw, rfl, hWy, hBx9⟩
                dsimp only
                first | refine hK.out _ _ ⟨hHeld.1.trans (hBx9.mono hHeld.1.size), hHeld.2.below hBx9⟩ (fun hHeld => ?_) | (trace_state; fail)
                clear HCl hG3 hG2
                clear hK K
                try simp only [Act.put, List.setIfInBounds_toArray, List.set_cons_zero, List.set_cons_succ]
                refine M_ready [7] (by kernel_rfl) (by decide) ?_
                refine AllM.cons (i := 7) (o := { dst := some 39, op := Op.call { callee := Callee.value (Operand.func 71), args := #[Operand.tmp 37, Operand.tmp 38], argTypes := #[88, 9] }, type := 88, pos := "place.go:38", after := #[{ on := 5, ground := Ground.data }, { on := 6, ground := Ground.data }, { on := 4, ground := Ground.chain }], guard := none }) rfl (fun K hK => ?_) ?_
                · rw [if_pos (by rfl)]
                  go_wp2_with fail
                  refine Calls.mono (HUn.out x9 hHeld.1) ?_
                  rintro e x10 ⟨rfl, hBx10⟩
                  dsimp only
                  refine hK.out _ _ ⟨hHeld.1.trans (hBx10.mono hHeld.1.size), hHeld.2.below hBx10⟩ (fun hHeld => ?_)
                  clear hK K
                  try simp only [Act.put, List.setIfInBounds_toArray, List.set_cons_zero, List.set_cons_succ]
                  refine M_tail [{ dst := some 12, op := Op.assign (Operand.tmp 36), type := 34, pos := "place.go:38", after := #[{ on := 4, ground := Ground.data }, { on := 7, ground := Ground.chain }, { on := 0, ground := Ground.phase }, { on := 1, ground := Ground.phase }, { on := 2, ground := Ground.phase }, { on := 3, ground := Ground.phase }, { on := 4, ground := Ground.phase }, { on := 5, ground := Ground.textOnly Departure.lateStores }, { on := 6, ground := Ground.textOnly Departure.lateStores }, { on := 7, ground := Ground.textOnly Departure.lateStoresUnsure }, { on := 8, ground := Ground.phase }], guard := none }, { dst := none, op := Op.store 88 (Operand.tmp 13) (Operand.tmp 39), type := 0, pos := "place.go:38", after := #[{ on := 8, ground := Ground.data }, { on := 7, ground := Ground.data }, { on := 9, ground := Ground.chain }, { on := 0, ground := Ground.phase }, { on := 1, ground := Ground.phase }, { on := 2, ground := Ground.phase }, { on := 3, ground := Ground.phase }, { on := 4, ground := Ground.phase }, { on := 5, ground := Ground.phase }, { on := 6, ground := Ground.phase }, { on := 7, ground := Ground.phase }, { on := 8, ground := Ground.phase }, { on := 9, ground := Ground.phase }], guard := none }] rfl (by kernel_rfl) (by kernel_rfl) ?_
                  have hX : Box3 x10 (x2.heap.size) .nilIface .nilIface .nilIface := Box3.below (w := x8) hNx8 (((Below.refl x8.heap.size x8).trans (hBx9.mono (Below.refl x8.heap.size x8).size)).trans (hBx10.mono ((Below.refl x8.heap.size x8).trans (hBx9.mono (Below.refl x8.heap.size x8).size)).size))
                  have z0 := hX.c0
                  have z1 := hX.c1
                  have z2 := hX.c2
                  have f0 := hX.free 0
                  have f1 := hX.free 1
                  have f2 := hX.free 2
                  have HWy : Hid (WayOK n x10 (.slice pw kw cw)) := WayOK.below (w := x9) hWy ((Below.refl x9.heap.size x9).trans (hBx10.mono (Below.refl x9.heap.size x9).size))
                  have HXX : Hid (Box3 x10 (x2.heap.size) .nilIface .nilIface .nilIface) := hX
                  have HHe : Hid (Below wr.heap.size wr x10) := hHeld.1
                  have HLe : Hid (wr.heap.size ≤ x2.heap.size) := (((Below.refl wr.heap.size wr).drew.trans (hBx1.mono (Below.refl wr.heap.size wr).drew.size)).trans (hBx2.mono ((Below.refl wr.heap.size wr).drew.trans (hBx1.mono (Below.refl wr.heap.size wr).drew.size)).size)).size
                  clear hX hHeld
                  clear hm1 hm2 hm3
                  rcases i1 with rfl | ⟨T1, y1, rfl⟩ <;> rcases i2 with rfl | ⟨T2, y2, rfl⟩ <;> rcases i3 with rfl | ⟨T3, y3, rfl⟩
                  all_goals
                    go_wp2_with fail
                    go_meet
                    case rel => exact ⟨pw, kw, cw, x2.heap.size, rfl, rfl, HWy.out.put3 HXX.out _ _ _, put3_box HXX.out _ _ _, put3_below HHe.out HLe.out HHe.out.size _ _ _, HLe.out⟩
                exact AllM.nil
              exact AllM.nil
            exact AllM.nil
          refine AllM.cons (i := 8) (o := { dst := some 13, op := Op.alloc 88, type := 0, pos := "place.go:38", after := #[], guard := none }) rfl (fun K hK => ?_) ?_
          · go_simp
            have hBx11 : Below x1.heap.size x1 (x1.alloc (.cells #[.nilIface, .nilIface, .nilIface] 88)) := (Below.refl _ x1).alloc (Nat.le_refl _) (.cells #[.nilIface, .nilIface, .nilIface] 88)
            have hNx11 : (x1.alloc (.cells #[.nilIface, .nilIface, .nilIface] 88)).heap[x1.heap.size]? = some (.cells #[.nilIface, .nilIface, .nilIface] 88 (0, 0)) := heap_alloc_new x1 _
            refine hK.out _ _ ⟨hHeld.1.trans (hBx11.mono hHeld.1.size), hHeld.2.below hBx11⟩ (fun hHeld => ?_)
            generalize x1.alloc (.cells #[.nilIface, .nilIface, .nilIface] 88) = x11 at *
            clear hK K
            try simp only [Act.put, List.setIfInBounds_toArray, List.set_cons_zero, List.set_cons_succ]
            refine M_ready [3] (by kernel_rfl) (by decide) ?_
            refine AllM.cons (i := 3) (o := { dst := some 35, op := Op.buildSlice 158 2 #[(0, Operand.tmp 32), (1, Operand.tmp 34)], type := 158, pos := "place.go:38", after := #[{ on := 0, ground := Ground.data }, { on := 2, ground := Ground.data }], guard := none }) rfl (fun K hK => ?_) ?_
            · go_simp
              have hBx12 : Below x11.heap.size x11 (x11.alloc (.cells #[.slice qw mw cw0, .slice (some ⟨wr.heap.size, 0, none⟩) 1 1] 34)) := (Below.refl _ x11).alloc (Nat.le_refl _) (.cells #[.slice qw mw cw0, .slice (some ⟨wr.heap.size, 0, none⟩) 1 1] 34)
              have hNx12 : (x11.alloc (.cells #[.slice qw mw cw0, .slice (some ⟨wr.heap.size, 0, none⟩) 1 1] 34)).heap[x11.heap.size]? = some (.cells #[.slice qw mw cw0, .slice (some ⟨wr.heap.size, 0, none⟩) 1 1] 34 (0, 0)) := heap_alloc_new x11 _
              refine hK.out _ _ ⟨hHeld.1.trans (hBx12.mono hHeld.1.size), hHeld.2.below hBx12⟩ (fun hHeld => ?_)
              generalize x11.alloc (.cells #[.slice qw mw cw0, .slice (some ⟨wr.heap.size, 0, none⟩) 1 1] 34) = x12 at *
              clear hK K
              try simp only [Act.put, List.setIfInBounds_toArray, List.set_cons_zero, List.set_cons_succ]
              refine M_ready [4] (by kernel_rfl) (by decide) ?_
              refine AllM.cons (i := 4) (o := { dst := some 36, op := Op.call { callee := Callee.value (Operand.func 70), args := #[Operand.tmp 35], argTypes := #[158] }, type := 34, pos := "place.go:38", after := #[{ on := 3, ground := Ground.data }], guard := none }) rfl (fun K hK => ?_) ?_
              · have hG3 : x12.heap[x11.heap.size]? = _ := (((Below.refl x12.heap.size x12)).block _ (lt_of_block hNx12)).trans hNx12
                have hG2 : x12.heap[wr.heap.size]? = _ := (((((Below.refl x1.heap.size x1).trans (hBx11.mono (Below.refl x1.heap.size x1).size)).trans (hBx12.mono ((Below.refl x1.heap.size x1).trans (hBx11.mono (Below.refl x1.heap.size x1).size)).size))).block _ (lt_of_block hNx1)).trans hNx1
                have HCl : Hid _ := HCat.out x12 (x11.heap.size) (wr.heap.size) hHeld.1 hG3 hG2
                rw [if_pos (by rfl)]
                go_wp2_with fail
                refine Calls.mono HCl.out ?_
                rintro e x13 ⟨pw, kw, cw, rfl, hWy, hBx13⟩
                dsimp only
                first | refine hK.out _ _ ⟨hHeld.1.trans (hBx13.mono hHeld.1.size), hHeld.2.below hBx13⟩ (fun hHeld => ?_) | (trace_state; fail)
                clear HCl hG3 hG2
                clear hK K
                try simp only [Act.put, List.setIfInBounds_toArray, List.set_cons_zero, List.set_cons_succ]
                refine M_ready [7] (by kernel_rfl) (by decide) ?_
                refine AllM.cons (i := 7) (o := { dst := some 39, op := Op.call { callee := Callee.value (Operand.func 71), args := #[Operand.tmp 37, Operand.tmp 38], argTypes := #[88, 9] }, type := 88, pos := "place.go:38", after := #[{ on := 5, ground := Ground.data }, { on := 6, ground := Ground.data }, { on := 4, ground := Ground.chain }], guard := none }) rfl (fun K hK => ?_) ?_
                · rw [if_pos (by rfl)]
                  go_wp2_with fail
                  refine Calls.mono (HUn.out x13 hHeld.1) ?_
                  rintro e x14 ⟨rfl, hBx14⟩
                  dsimp only
                  refine hK.out _ _ ⟨hHeld.1.trans (hBx14.mono hHeld.1.size), hHeld.2.below hBx14⟩ (fun hHeld => ?_)
                  clear hK K
                  try simp only [Act.put, List.setIfInBounds_toArray, List.set_cons_zero, List.set_cons_succ]
                  refine M_tail [{ dst := some 12, op := Op.assign (Operand.tmp 36), type := 34, pos := "place.go:38", after := #[{ on := 4, ground := Ground.data }, { on := 7, ground := Ground.chain }, { on := 0, ground := Ground.phase }, { on := 1, ground := Ground.phase }, { on := 2, ground := Ground.phase }, { on := 3, ground := Ground.phase }, { on := 4, ground := Ground.phase }, { on := 5, ground := Ground.textOnly Departure.lateStores }, { on := 6, ground := Ground.textOnly Departure.lateStores }, { on := 7, ground := Ground.textOnly Departure.lateStoresUnsure }, { on := 8, ground := Ground.phase }], guard := none }, { dst := none, op := Op.store 88 (Operand.tmp 13) (Operand.tmp 39), type := 0, pos := "place.go:38", after := #[{ on := 8, ground := Ground.data }, { on := 7, ground := Ground.data }, { on := 9, ground := Ground.chain }, { on := 0, ground := Ground.phase }, { on := 1, ground := Ground.phase }, { on := 2, ground := Ground.phase }, { on := 3, ground := Ground.phase }, { on := 4, ground := Ground.phase }, { on := 5, ground := Ground.phase }, { on := 6, ground := Ground.phase }, { on := 7, ground := Ground.phase }, { on := 8, ground := Ground.phase }, { on := 9, ground := Ground.phase }], guard := none }] rfl (by kernel_rfl) (by kernel_rfl) ?_
                  have hX : Box3 x14 (x1.heap.size) .nilIface .nilIface .nilIface := Box3.below (w := x11) hNx11 ((((Below.refl x11.heap.size x11).trans (hBx12.mono (Below.refl x11.heap.size x11).size)).trans (hBx13.mono ((Below.refl x11.heap.size x11).trans (hBx12.mono (Below.refl x11.heap.size x11).size)).size)).trans (hBx14.mono (((Below.refl x11.heap.size x11).trans (hBx12.mono (Below.refl x11.heap.size x11).size)).trans (hBx13.mono ((Below.refl x11.heap.size x11).trans (hBx12.mono (Below.refl x11.heap.size x11).size)).size)).size))
                  have z0 := hX.c0
                  have z1 := hX.c1
                  have z2 := hX.c2
                  have f0 := hX.free 0
                  have f1 := hX.free 1
                  have f2 := hX.free 2
                  have HWy : Hid (WayOK n x14 (.slice pw kw cw)) := WayOK.below (w := x13) hWy ((Below.refl x13.heap.size x13).trans (hBx14.mono (Below.refl x13.heap.size x13).size))
                  have HXX : Hid (Box3 x14 (x1.heap.size) .nilIface .nilIface .nilIface) := hX
                  have HHe : Hid (Below wr.heap.size wr x14) := hHeld.1
                  have HLe : Hid (wr.heap.size ≤ x1.heap.size) := ((Below.refl wr.heap.size wr).drew.trans (hBx1.mono (Below.refl wr.heap.size wr).drew.size)).size
                  clear hX hHeld
                  clear hm1 hm2 hm3
                  rcases i1 with rfl | ⟨T1, y1, rfl⟩ <;> rcases i2 with rfl | ⟨T2, y2, rfl⟩ <;> rcases i3 with rfl | ⟨T3, y3, rfl⟩
                  all_goals
                    go_wp2_with fail
                    go_meet
                    case rel => exact ⟨pw, kw, cw, x1.heap.size, rfl, rfl, HWy.out.put3 HXX.out _ _ _, put3_box HXX.out _ _ _, put3_below HHe.out HLe.out HHe.out.size _ _ _, HLe.out⟩
                exact AllM.nil
              exact AllM.nil
            exact AllM.nil
          exact AllM.nil
        refine AllM.cons (i := 8) (o := { dst := some 13, op := Op.alloc 88, type := 0, pos := "place.go:38", after := #[], guard := none }) rfl (fun K hK => ?_) ?_
        · go_simp
          have hBx15 : Below wr.heap.size wr.drew ((wr.alloc (.cells #[.nilIface, .nilIface, .nilIface] 88)).drew) := (Below.refl _ wr.drew).alloc (Nat.le_refl _) (.cells #[.nilIface, .nilIface, .nilIface] 88)
          have hNx15 : ((wr.alloc (.cells #[.nilIface, .nilIface, .nilIface] 88)).drew).heap[wr.heap.size]? = some (.cells #[.nilIface, .nilIface, .nilIface] 88 (0, 0)) := heap_alloc_new wr.drew _
          refine hK.out _ _ ⟨hHeld.1.trans (hBx15.mono hHeld.1.size), hHeld.2.below hBx15⟩ (fun hHeld => ?_)
          generalize (wr.alloc (.cells #[.nilIface, .nilIface, .nilIface] 88)).drew = x15 at *
          clear hK K
          try simp only [Act.put, List.setIfInBounds_toArray, List.set_cons_zero, List.set_cons_succ]
          refine M_ready [2] (by kernel_rfl) (by decide) ?_
          refine AllM.cons (i := 2) (o := { dst := some 34, op := Op.buildSlice 34 1 #[(0, Operand.tmp 33)], type := 34, pos := "place.go:38", after := #[{ on := 1, ground := Ground.data }], guard := none }) rfl (fun K hK => ?_) ?_
          · go_simp
            have hBx16 : Below x15.heap.size x15 (x15.alloc (.cells #[.string nb] 9)) := (Below.refl _ x15).alloc (Nat.le_refl _) (.cells #[.string nb] 9)
            have hNx16 : (x15.alloc (.cells #[.string nb] 9)).heap[x15.heap.size]? = some (.cells #[.string nb] 9 (0, 0)) := heap_alloc_new x15 _
            refine hK.out _ _ ⟨hHeld.1.trans (hBx16.mono hHeld.1.size), hHeld.2.below hBx16⟩ (fun hHeld => ?_)
            generalize x15.alloc (.cells #[.string nb] 9) = x16 at *
            clear hK K
            try simp only [Act.put, List.setIfInBounds_toArray, List.set_cons_zero, List.set_cons_succ]
            refine M_ready [3] (by kernel_rfl) (by decide) ?_
            refine AllM.cons (i := 3) (o := { dst := some 35, op := Op.buildSlice 158 2 #[(0, Operand.tmp 32), (1, Operand.tmp 34)], type := 158, pos := "place.go:38", after := #[{ on := 0, ground := Ground.data }, { on := 2, ground := Ground.data }], guard := none }) rfl (fun K hK => ?_) ?_
            · go_simp
              have hBx17 : Below x16.heap.size x16 (x16.alloc (.cells #[.slice qw mw cw0, .slice (some ⟨x15.heap.size, 0, none⟩) 1 1] 34)) := (Below.refl _ x16).alloc (Nat.le_refl _) (.cells #[.slice qw mw cw0, .slice (some ⟨x15.heap.size, 0, none⟩) 1 1] 34)
              have hNx17 : (x16.alloc (.cells #[.slice qw mw cw0, .slice (some ⟨x15.heap.size, 0, none⟩) 1 1] 34)).heap[x16.heap.size]? = some (.cells #[.slice qw mw cw0, .slice (some ⟨x15.heap.size, 0, none⟩) 1 1] 34 (0, 0)) := heap_alloc_new x16 _
              refine hK.out _ _ ⟨hHeld.1.trans (hBx17.mono hHeld.1.size), hHeld.2.below hBx17⟩ (fun hHeld => ?_)
              generalize x16.alloc (.cells #[.slice qw mw cw0, .slice (some ⟨x15.heap.size, 0, none⟩) 1 1] 34) = x17 at *
              clear hK K
              try simp only [Act.put, List.setIfInBounds_toArray, List.set_cons_zero, List.set_cons_succ]
              refine M_ready [4] (by kernel_rfl) (by decide) ?_
              refine AllM.cons (i := 4) (o := { dst := some 36, op := Op.call { callee := Callee.value (Operand.func 70), args := #[Operand.tmp 35], argTypes := #[158] }, type := 34, pos := "place.go:38", after := #[{ on := 3, ground := Ground.data }], guard := none }) rfl (fun K hK => ?_) ?_
              · have hG3 : x17.heap[x16.heap.size]? = _ := (((Below.refl x17.heap.size x17)).block _ (lt_of_block hNx17)).trans hNx17
                have hG2 : x17.heap[x15.heap.size]? = _ := ((((Below.refl x16.heap.size x16).trans (hBx17.mono (Below.refl x16.heap.size x16).size))).block _ (lt_of_block hNx16)).trans hNx16
                have HCl : Hid _ := HCat.out x17 (x16.heap.size) (x15.heap.size) hHeld.1 hG3 hG2
                rw [if_pos (by rfl)]
                go_wp2_with fail
                refine Calls.mono HCl.out ?_
                rintro e x18 ⟨pw, kw, cw, rfl, hWy, hBx18⟩
                dsimp only
                first | refine hK.out _ _ ⟨hHeld.1.trans (hBx18.mono hHeld.1.size), hHeld.2.below hBx18⟩ (fun hHeld => ?_) | (trace_state; fail)
                clear HCl hG3 hG2
                clear hK K
                try simp only [Act.put, List.setIfInBounds_toArray, List.set_cons_zero, List.set_cons_succ]
                refine M_ready [7] (by kernel_rfl) (by decide) ?_
                refine AllM.cons (i := 7) (o := { dst := some 39, op := Op.call { callee := Callee.value (Operand.func 71), args := #[Operand.tmp 37, Operand.tmp 38], argTypes := #[88, 9] }, type := 88, pos := "place.go:38", after := #[{ on := 5, ground := Ground.data }, { on := 6, ground := Ground.data }, { on := 4, ground := Ground.chain }], guard := none }) rfl (fun K hK => ?_) ?_
                · rw [if_pos (by rfl)]
                  go_wp2_with fail
                  refine Calls.mono (HUn.out x18 hHeld.1) ?_
                  rintro e x19 ⟨rfl, hBx19⟩
                  dsimp only
                  refine hK.out _ _ ⟨hHeld.1.trans (hBx19.mono hHeld.1.size), hHeld.2.below hBx19⟩ (fun hHeld => ?_)
                  clear hK K
                  try simp only [Act.put, List.setIfInBounds_toArray, List.set_cons_zero, List.set_cons_succ]
                  refine M_tail [{ dst := some 12, op := Op.assign (Operand.tmp 36), type := 34, pos := "place.go:38", after := #[{ on := 4, ground := Ground.data }, { on := 7, ground := Ground.chain }, { on := 0, ground := Ground.phase }, { on := 1, ground := Ground.phase }, { on := 2, ground := Ground.phase }, { on := 3, ground := Ground.phase }, { on := 4, ground := Ground.phase }, { on := 5, ground := Ground.textOnly Departure.lateStores }, { on := 6, ground := Ground.textOnly Departure.lateStores }, { on := 7, ground := Ground.textOnly Departure.lateStoresUnsure }, { on := 8, ground := Ground.phase }], guard := none }, { dst := none, op := Op.store 88 (Operand.tmp 13) (Operand.tmp 39), type := 0, pos := "place.go:38", after := #[{ on := 8, ground := Ground.data }, { on := 7, ground := Ground.data }, { on := 9, ground := Ground.chain }, { on := 0, ground := Ground.phase }, { on := 1, ground := Ground.phase }, { on := 2, ground := Ground.phase }, { on := 3, ground := Ground.phase }, { on := 4, ground := Ground.phase }, { on := 5, ground := Ground.phase }, { on := 6, ground := Ground.phase }, { on := 7, ground := Ground.phase }, { on := 8, ground := Ground.phase }, { on := 9, ground := Ground.phase }], guard := none }] rfl (by kernel_rfl) (by kernel_rfl) ?_
                  have hX : Box3 x19 (wr.heap.size) .nilIface .nilIface .nilIface := Box3.below (w := x15) hNx15 (((((Below.refl x15.heap.size x15).trans (hBx16.mono (Below.refl x15.heap.size x15).size)).trans (hBx17.mono ((Below.refl x15.heap.size x15).trans (hBx16.mono (Below.refl x15.heap.size x15).size)).size)).trans (hBx18.mono (((Below.refl x15.heap.size x15).trans (hBx16.mono (Below.refl x15.heap.size x15).size)).trans (hBx17.mono ((Below.refl x15.heap.size x15).trans (hBx16.mono (Below.refl x15.heap.size x15).size)).size)).size)).trans (hBx19.mono ((((Below.refl x15.heap.size x15).trans (hBx16.mono (Below.refl x15.heap.size x15).size)).trans (hBx17.mono ((Below.refl x15.heap.size x15).trans (hBx16.mono (Below.refl x15.heap.size x15).size)).size)).trans (hBx18.mono (((Below.refl x15.heap.size x15).trans (hBx16.mono (Below.refl x15.heap.size x15).size)).trans (hBx17.mono ((Below.refl x15.heap.size x15).trans (hBx16.mono (Below.refl x15.heap.size x15).size)).size)).size)).size))
                  have z0 := hX.c0
                  have z1 := hX.c1
                  have z2 := hX.c2
                  have f0 := hX.free 0
                  have f1 := hX.free 1
                  have f2 := hX.free 2
                  have HWy : Hid (WayOK n x19 (.slice pw kw cw)) := WayOK.below (w := x18) hWy ((Below.refl x18.heap.size x18).trans (hBx19.mono (Below.refl x18.heap.size x18).size))
                  have HXX : Hid (Box3 x19 (wr.heap.size) .nilIface .nilIface .nilIface) := hX
                  have HHe : Hid (Below wr.heap.size wr x19) := hHeld.1
                  have HLe : Hid (wr.heap.size ≤ wr.heap.size) := (Below.refl wr.heap.size wr).drew.size
                  clear hX hHeld
                  clear hm1 hm2 hm3
                  rcases i1 with rfl | ⟨T1, y1, rfl⟩ <;> rcases i2 with rfl | ⟨T2, y2, rfl⟩ <;> rcases i3 with rfl | ⟨T3, y3, rfl⟩
                  all_goals
                    go_wp2_with fail
                    go_meet
                    case rel => exact ⟨pw, kw, cw, wr.heap.size, rfl, rfl, HWy.out.put3 HXX.out _ _ _, put3_box HXX.out _ _ _, put3_below HHe.out HLe.out HHe.out.size _ _ _, HLe.out⟩
                exact AllM.nil
              exact AllM.nil
            exact AllM.nil
          exact AllM.nil
        exact AllM.nil
      obtain ⟨pw, kw, cw, gb, h12, h13, hWy, hBx, hBc, hgb⟩ := hcut
      subst h12 h13
      have HWy : Hid (WayOK n wc (.slice pw kw cw)) := hWy
      have HBx : Hid (Box3 wc gb u1 u2 u3) := hBx
      have HBc : Hid (Below wr.heap.size wr wc) := hBc
      have HBw : Hid (Below w.heap.size w wc) := HI.out.bel.trans (hBc.mono HI.out.bel.size)
      have q0 := hBx.c0
      have q1 := hBx.c1
      have q2 := hBx.c2
      have HTo : Hid (∀ (o : Option (J n)) (u : Value), OptV (fun c => av c ∨ w.heap.size ≤ c) w n o u → OptV (fun c => av c ∨ c = g) wc n o u) := fun o u h => (h.move HBw.out.size (fun c hc _ => HBw.out.block c hc) (fun c hc hn e => by
        rcases e with e | e
        · exact hn (Or.inl e)
        · have := HI.out.new; omega))
      have HAv2 : Hid (∀ c, (av c ∨ c = g) → c < wc.heap.size) := fun c e => by
        have h1 := HI.out.row.lt
        have h2 := HBc.out.size
        have h3 := HI.out.bel.size
        rcases e with e | e
        · have := HAv.out c e; omega
        · omega
      clear hWy hBx hBc HUn HCat
      rcases HO3.out with ⟨e3, rfl⟩ | ⟨y, T, x, e3, rfl, hst3⟩
      · rcases HO1.out with ⟨e1, rfl⟩ | ⟨z, T1, x1, e1, rfl, hst1⟩
        · -- it lives on
          obtain ⟨m, T2, x2, e2, hu2, hst2⟩ : ∃ m T2 x2, look (fieldsP b) L[k] = some m ∧ u2 = .iface T2 x2 ∧ St (fun c => av c ∨ c = g) wc n m (.iface T2 x2) := by
            rcases HTo.out _ _ HO2.out with ⟨e2, _⟩ | ⟨m, T2, x2, e2, h2, hs⟩
            · rcases HNot.out k hlt with h | h
              · exact absurd e2 h
              · exact absurd e3 h
            · exact ⟨m, T2, x2, e2, h2, hs⟩
          subst hu2
          have HGk : Hid (G L[k] = some m) := by show _ = _; rw [HG.out, e3, e1, e2]; rfl
          have HSt2 : Hid (St (fun c => av c ∨ c = g) wc n m (.iface T2 x2)) := hst2
          clear hst2 e1 e2 e3 i1 i2 i3
          have HRw4 : Hid (Row wc 83 2 g acc.length cap (flat acc us)) := HI.out.row.kept (below_grown HBc.out) (fun e => by cases e)
          have hcm := HI.out.row.caps.2
          by_cases hroom : acc.length + 1 ≤ cap
          · skip
            go_wp2_with (at_builtin; refine wpList_append_fits _ rfl _ _ 80 rfl g 83 i0 2 Tryz.underlying80 hi hz1 g acc.length cap (flat acc us) rfl (World.ownsRow.alloc HRw4.out.owns _) ⟨wc.heap.size, 0, none⟩ 1 1 [.string nb, .iface T2 x2] rfl rfl (new_two _ _ _ _) (two_of rfl rfl) hroom ?_)
            intro w5 hown hgrow
            have hrow : Row w5 83 2 g (acc.length + 1) cap (flat acc us ++ [.string nb, .iface T2 x2]) := Row.of_slice hown
            rw [HNB.out] at hrow
            have HP : Hid (TInv av n w w5 w.heap.size va vb (.iface 80 (.slice px fs.length cx)) _ L G (k + 1) (acc ++ [(L[k], m)]) g cap (us ++ [.iface T2 x2])) := HI.out.push HBc.out HAv.out hlt HGk.out HSt2.out hgrow hrow (Or.inl ⟨rfl, rfl⟩)
            clear hown hgrow hrow
            go_wp2_with fail
            go_roundw
            case rel =>
              have hrelN : TLoop av n w w.heap.size va vb (.iface 80 (.slice px fs.length cx)) _ L G (.slice (some ⟨g, 0, none⟩) (acc.length + 1) cap) (.int .i64 ((k : Int) + 1)) w5 := ⟨k + 1, _, g, cap, _, by omega, by go_num, by simp, HP.out⟩
              first | exact hrelN | ((repeat apply Exists.intro); refine ⟨hrelN, ?eqf1⟩; case eqf1 => rfl)
            case measure => simp [intOf]; omega
          · skip
            go_wp2_with (at_builtin; refine wpList_append_grows _ rfl _ _ 80 rfl 83 i0 (Value.agg #[.string ⟨#[]⟩, .nilIface]) 2 32 Tryz.underlying80 hi hz0 hz1 hz2 rfl (by decide) (some ⟨g, 0, none⟩) acc.length cap (flat acc us) rfl (fun e => by cases e) HRw4.out.1 (row_cells HRw4.out _) ⟨wc.heap.size, 0, none⟩ 1 1 [.string nb, .iface T2 x2] rfl rfl (new_two _ _ _ _) (two_of rfl rfl) (by omega) (by unfold maxLen; omega) (by omega) ?_)
            intro v' w5 hown hgrow
            obtain ⟨g', cap', rfl, hg', hrow⟩ := Row.of_owns hown (by omega)
            have hg'' : wc.heap.size < g' := by (try simp at hg'); omega
            rw [HNB.out] at hrow
            have HP : Hid (TInv av n w w5 w.heap.size va vb (.iface 80 (.slice px fs.length cx)) _ L G (k + 1) (acc ++ [(L[k], m)]) g' cap' (us ++ [.iface T2 x2])) := HI.out.push HBc.out HAv.out hlt HGk.out HSt2.out hgrow hrow (Or.inr ⟨rfl, hg''⟩)
            clear hown hgrow hrow
            go_wp2_with fail
            go_roundw
            case rel =>
              have hrelN : TLoop av n w w.heap.size va vb (.iface 80 (.slice px fs.length cx)) _ L G (.slice (some ⟨g', 0, none⟩) (acc.length + 1) cap') (.int .i64 ((k : Int) + 1)) w5 := ⟨k + 1, _, g', cap', _, by omega, by go_num, by simp, HP.out⟩
              first | exact hrelN | ((repeat apply Exists.intro); refine ⟨hrelN, ?eqf2⟩; case eqf2 => rfl)
            case measure => simp [intOf]; omega
        · -- it goes
          have HGk : Hid (G L[k] = none) := by show _ = _; rw [HG.out, e3, e1]; rfl
          have hgn : gv = goNot := by
            rcases HGv.out with h | h
            · exact h
            · have := (h L[k]).2 e3
              rw [this] at e1
              cases e1
          have HPs : Hid (TInv av n w wc w.heap.size va vb (.iface 80 (.slice px fs.length cx)) _ L G (k + 1) acc g cap us) := HI.out.pass HBc.out hlt HGk.out
          subst hgn
          unfold goNot
          clear hst1 e1 e3 i1 i2 i3 HGv
          go_wp2_with (go_at_call 28; refine Calls.mono (goNot_any _ _) ?_; rintro e _ ⟨rfl, rfl⟩)
          go_roundw
          case rel =>
            have hrelN : TLoop av n w w.heap.size va vb (.iface 80 (.slice px fs.length cx)) _ L G (.slice (some ⟨g, 0, none⟩) acc.length cap) (.int .i64 ((k : Int) + 1)) wc := ⟨k + 1, acc, g, cap, us, by omega, by go_num, rfl, HPs.out⟩
            first | exact hrelN | ((repeat apply Exists.intro); refine ⟨hrelN, ?eqf3⟩; case eqf3 => rfl)
          case measure => simp [intOf]; omega
      · -- it is wanted
        have HGk : Hid (G L[k] = some (threeP n (look (fieldsP a) L[k]) (look (fieldsP b) L[k]) y)) := by show _ = _; rw [HG.out, e3]; rfl
        have HRec : Hid (Calls Tryz.prog 45 #[.agg #[u1, u2, .iface T x], .slice pw kw cw, gv] wc fun e w' => ∃ T' y', e = .returned (.iface T' y') ∧ St (fun c => av c ∨ c = g) w' n (threeP n (look (fieldsP a) L[k]) (look (fieldsP b) L[k]) y) (.iface T' y') ∧ Below wc.heap.size wc w') := by
          refine HIh.out (fun c => av c ∨ c = g) wc (look (fieldsP a) L[k]) (look (fieldsP b) L[k]) y u1 u2 T x (.slice pw kw cw) gv HAv2.out (HTo.out _ _ HO1.out) (HTo.out _ _ HO2.out) ?_ (HOa.out _) (HOb.out _) (HOc.out _ _ e3) HWy.out ?_
          · rcases HTo.out _ _ HO3.out with ⟨h, _⟩ | ⟨y', T', x', h, e, hs⟩
            · rw [e3] at h; cases h
            · rw [e3] at h
              cases h
              cases e
              exact hs
          · rcases HGv.out with h | h
            · exact Or.inl h
            · exact Or.inr ((h L[k]).1 y e3)
        clear hst3 e3 i3
        have HRw0 : Hid (∀ wd, Below wc.heap.size wc wd → Row wd 83 2 g acc.length cap (flat acc us)) := fun wd bd => HI.out.row.kept (below_grown (HBc.out.trans (bd.mono HBc.out.size))) (fun e => by cases e)
        have hcm := HI.out.row.caps.2
        have HMj : Hid (∃ mj, mj = threeP n (look (fieldsP a) L[k]) (look (fieldsP b) L[k]) y) := ⟨_, rfl⟩
        obtain ⟨mj, hmj⟩ := HMj.out
        rw [← hmj] at HGk HRec
        clear hmj HMj
        by_cases hroom : acc.length + 1 ≤ cap
        · skip
          go_wp2_with (first | (go_at_call 45; refine Calls.mono HRec.out ?_; rintro e wd ⟨T', y', rfl, hsd, bd⟩; have HRw4 : Hid (Row wd 83 2 g acc.length cap (flat acc us)) := HRw0.out wd bd) | (at_builtin; refine wpList_append_fits _ rfl _ _ 80 rfl g 83 i0 2 Tryz.underlying80 hi hz1 g acc.length cap (flat acc us) rfl (World.ownsRow.alloc HRw4.out.owns _) ⟨wd.heap.size, 0, none⟩ 1 1 [.string nb, .iface T' y'] rfl rfl (new_two _ _ _ _) (two_of rfl rfl) hroom ?_))
          intro w5 hown hgrow
          have HSd : Hid (St (fun c => av c ∨ c = g) wd n mj (.iface T' y')) := hsd
          have HBd : Hid (Below wr.heap.size wr wd) := HBc.out.trans (bd.mono HBc.out.size)
          clear hsd bd
          have hrow : Row w5 83 2 g (acc.length + 1) cap (flat acc us ++ [.string nb, .iface T' y']) := Row.of_slice hown
          rw [HNB.out] at hrow
          have HP : Hid (TInv av n w w5 w.heap.size va vb (.iface 80 (.slice px fs.length cx)) _ L G (k + 1) (acc ++ [(L[k], mj)]) g cap (us ++ [.iface T' y'])) := HI.out.push HBd.out HAv.out hlt HGk.out HSd.out hgrow hrow (Or.inl ⟨rfl, rfl⟩)
          clear hown hgrow hrow
          go_wp2_with fail
          go_roundw
          case rel =>
            have hrelN : TLoop av n w w.heap.size va vb (.iface 80 (.slice px fs.length cx)) _ L G (.slice (some ⟨g, 0, none⟩) (acc.length + 1) cap) (.int .i64 ((k : Int) + 1)) w5 := ⟨k + 1, _, g, cap, _, by omega, by go_num, by simp, HP.out⟩
            first | exact hrelN | ((repeat apply Exists.intro); refine ⟨hrelN, ?eqf4⟩; case eqf4 => rfl)
          case measure => simp [intOf]; omega
        · skip
          go_wp2_with (first | (go_at_call 45; refine Calls.mono HRec.out ?_; rintro e wd ⟨T', y', rfl, hsd, bd⟩; have HRw4 : Hid (Row wd 83 2 g acc.length cap (flat acc us)) := HRw0.out wd bd) | (at_builtin; refine wpList_append_grows _ rfl _ _ 80 rfl 83 i0 (Value.agg #[.string ⟨#[]⟩, .nilIface]) 2 32 Tryz.underlying80 hi hz0 hz1 hz2 rfl (by decide) (some ⟨g, 0, none⟩) acc.length cap (flat acc us) rfl (fun e => by cases e) HRw4.out.1 (row_cells HRw4.out _) ⟨wd.heap.size, 0, none⟩ 1 1 [.string nb, .iface T' y'] rfl rfl (new_two _ _ _ _) (two_of rfl rfl) (by omega) (by unfold maxLen; omega) (by omega) ?_))
          intro v' w5 hown hgrow
          have HSd : Hid (St (fun c => av c ∨ c = g) wd n mj (.iface T' y')) := hsd
          have HBd : Hid (Below wr.heap.size wr wd) := HBc.out.trans (bd.mono HBc.out.size)
          clear hsd bd
          obtain ⟨g', cap', rfl, hg', hrow⟩ := Row.of_owns hown (by omega)
          have hg'' : wd.heap.size < g' := by (try simp at hg'); omega
          rw [HNB.out] at hrow
          have HP : Hid (TInv av n w w5 w.heap.size va vb (.iface 80 (.slice px fs.length cx)) _ L G (k + 1) (acc ++ [(L[k], mj)]) g' cap' (us ++ [.iface T' y'])) := HI.out.push HBd.out HAv.out hlt HGk.out HSd.out hgrow hrow (Or.inr ⟨rfl, hg''⟩)
          clear hown hgrow hrow
          go_wp2_with fail
          go_roundw
          case rel =>
            have hrelN : TLoop av n w w.heap.size va vb (.iface 80 (.slice px fs.length cx)) _ L G (.slice (some ⟨g', 0, none⟩) (acc.length + 1) cap') (.int .i64 ((k : Int) + 1)) w5 := ⟨k + 1, _, g', cap', _, by omega, by go_num, by simp, HP.out⟩
            first | exact hrelN | ((repeat apply Exists.intro); refine ⟨hrelN, ?eqf5⟩; case eqf5 => rfl)
          case measure => simp [intOf]; omega
    · have HD : Hid _ := HI.out.done (by omega) HAv.out
      have HBl : Hid (Below w.heap.size w wr) := HI.out.bel
      go_wp2_with fail
      go_ret
      exact ⟨_, _, rfl, by rw [HRes.out, ← HD.out.1]; exact HD.out.2, HBl.out⟩
end Go.Proofs.YtaogilpkeeigoabGreatDoor
