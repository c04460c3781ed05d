/- Contracts over this translation of what reads a list. -/
import Derived.Test.YtaogilpkeeigoaaGreatDoorListPlain
import Derived.Test.YtaogilpkeeigoaaGreatDoorRdRow
namespace Go.Proofs.YtaogilpkeeigoaaGreatDoor
open Go.RowKit
set_option linter.unusedVariables false
set_option linter.unusedSimpArgs false
theorem info_val : (Tryz.prog.info? 52).map (fun i => (i.zero, i.size, i.bytes)) = some (some .nilIface, 1, 16) := by kernel_rfl
theorem new_one (w : World) (x : Value) (e : TypeId) : ∀ (j : Nat) (u : Value), [x][j]? = some u → (w.alloc (.cells #[x] e)).cell? ((⟨w.heap.size, 0, none⟩ : Addr).add j) = some u := by
  intro j u hj
  match j, hj with
  | 0, hj => simp at hj; subst hj; simp [Addr.add]
theorem one_of {x : Value} (h : x.oneCell' = true) : ∀ u ∈ [x], u.oneCell' = true := by
  intro u hu
  simp at hu
  subst hu
  exact h
theorem row_cells {w : World} {e size g n cap : Nat} {xs : List Value} (h : Row w e size g n cap xs) (o : Obj) : ∀ b, some (⟨g, 0, none⟩ : Addr) = some b → ∀ (j : Nat) (u : Value), xs[j]? = some u → (w.alloc o).cell? (b.add j) = some u := by
  intro b hb j u hu
  cases hb
  have h1 := h.cell j u hu
  rw [Addr.add_lit, Nat.zero_add]
  have h2 := World.cell?_of_block (w := w) (w' := w.alloc o) (a := ⟨g, j, none⟩) (Below.heap_alloc w o g h.lt)
  rw [h2]
  exact h1
set_option maxRecDepth 100000 in
set_option maxHeartbeats 4000000 in
theorem list_one (n b : Nat) (t : ByteArray) (d : Int) (c0 c1 c2 : Nat) (w0 : World) (hV : ValueOK n) (hd : d + n = 10) (hd0 : 0 ≤ d) (ht : t.size ≤ 2000) (hb : b < w0.heap.size)
    (k0 : w0.heap.size ≤ c0) (k1 : w0.heap.size ≤ c1) (k2 : w0.heap.size ≤ c2) (l0 : c0 < c2) (l1 : c1 < c2) :
    OneOK 80 #[.pointer (some ⟨c0, 0, none⟩), .pointer (some ⟨c1, 0, none⟩), .pointer (some ⟨c2, 0, none⟩)] b t w0 (oneItem (value n)) (LInv b d c0 c1 c2 w0.heap.size (c2 + 1) n) (LErr c2) := by
  intro s p k w hI hg hR hp hk
  obtain ⟨hsk, g, cap, vs, hx, hr, hgN, e0, e1, e2, hel⟩ := hI
  obtain ⟨i0, hi, hz0, hz1, hz2⟩ := info_parts info_val
  have a0 := cell_of_one hx.h0
  have a1 := cell_of_one hx.h1
  have hcw := lt_of_block hx.h2
  have hcap := hr.caps
  have HX : Hid (LBox b d c0 c1 c2 w (.slice (some ⟨g, 0, none⟩) s.length cap)) := hx
  have HRw : Hid (Row w 52 1 g s.length cap vs) := hr
  have HEl : Hid (∀ (i : Nat) (x : J n) (u : Value), s[i]? = some x → vs[i]? = some u → St (fun c => c < c2 + 1 ∨ c = g) w n x u) := hel
  have HR : Hid (Rd b t p k w) := hR
  have HG : Hid (G b w0 w) := hg
  have HV : Hid (ValueOK n) := hV
  have hgw := hr.lt
  clear hx hr hel hR hg hV
  go_enter Tryz.func80, Tryz.ntmps80
  go_wp2_with fail
  refine (HV.out b t p k d w HR.out hp ht hk hd hd0).mono ?_
  rintro e w1 ⟨g1, h1⟩
  have hx1 := HX.out.kept g1 (fun e => by cases e; omega) (fun e => by cases e; omega) (fun e => by cases e; omega)
  have hr1 : Row w1 52 1 g s.length cap vs := HRw.out.kept g1 (fun e => by cases e; omega)
  have b2 := cell_of_one hx1.h2
  have b3 := free_of_one hx1.h2
  have HX1 : Hid (LBox b d c0 c1 c2 w1 (.slice (some ⟨g, 0, none⟩) s.length cap)) := hx1
  have HRw1 : Hid (Row w1 52 1 g s.length cap vs) := hr1
  have HG1 : Hid (G b w w1) := g1
  have HG01 : Hid (G b w0 w1) := HG.out.trans g1
  have hc2w := lt_of_block hx1.h2
  clear hx1 hr1 g1 a0 a1
  rcases h1 with ⟨er, v, hv, her, her2, rfl, hone⟩ | ⟨j, k', q, v, hv, hpq, hq, hkk, hk2, rfl, hone, hR', hst⟩
  · have HVal : Hid (value n k (rest t p) = .error er) := hv
    clear hv
    rcases hone with rfl | ⟨T, x, rfl⟩
    · by_cases hroom : s.length + 1 ≤ cap
      · skip
        go_wp2_with (at_builtin; refine wpList_append_fits _ rfl _ _ 82 rfl g 52 i0 1 Tryz.underlying82 hi hz1 g s.length cap vs rfl (World.ownsRow.alloc HRw1.out.owns _) ⟨w1.heap.size, 0, none⟩ 1 1 [.nilIface] rfl rfl (new_one _ _ _) (one_of rfl) hroom ?_)
        intro w2 hown hgrow
        have hrow : Row w2 52 1 g (s.length + 1) cap (vs ++ [.nilIface]) := Row.of_slice hown
        have hx2 := (HX1.out.kept (World.grownBy_alloc w1 _ none) (fun e => by cases e) (fun e => by cases e) (fun e => by cases e)).kept hgrow (fun e => by cases e; exact e0 rfl) (fun e => by cases e; exact e1 rfl) (fun e => by cases e; exact e2 rfl)
        have f2 := cell_of_one hx2.h2
        have f3 := free_of_one hx2.h2
        have HG2 : Hid (G b w0 w2) := (HG01.out.alloc _).grown hgrow (fun k e => by cases e; omega)
        have HX2 : Hid (LBox b d c0 c1 c2 w2 (.slice (some ⟨g, 0, none⟩) s.length cap)) := hx2
        clear hown hgrow hrow hx2 b2 b3
        go_wp2_with fail
        go_ret
        exact ⟨HG2.out.setNew k2 _, Or.inl ⟨er, by rw [oneItem, HVal.out], her, her2, rfl, ⟨_, _, _, one_setCell HX2.out.h2⟩⟩⟩
      · skip
        go_wp2_with (at_builtin; refine wpList_append_grows _ rfl _ _ 82 rfl 52 i0 .nilIface 1 16 Tryz.underlying82 hi hz0 hz1 hz2 rfl (by decide) (some ⟨g, 0, none⟩) s.length cap vs rfl (fun e => by cases e) HRw1.out.1 (row_cells HRw1.out _) ⟨w1.heap.size, 0, none⟩ 1 1 [.nilIface] rfl rfl (new_one _ _ _) (one_of rfl) (by omega) (by unfold maxLen; omega) (by omega) ?_)
        intro v' w2 hown hgrow
        obtain ⟨g', cap', rfl, hg', hrow⟩ := Row.of_owns hown (by omega)
        have hg'' : w1.heap.size < g' := by (try simp at hg'); omega
        have hx2 := (HX1.out.kept (World.grownBy_alloc w1 _ none) (fun e => by cases e) (fun e => by cases e) (fun e => by cases e)).kept hgrow (fun e => by cases e) (fun e => by cases e) (fun e => by cases e)
        have f2 := cell_of_one hx2.h2
        have f3 := free_of_one hx2.h2
        have HG2 : Hid (G b w0 w2) := (HG01.out.alloc _).grown hgrow (fun k e => by cases e)
        have HX2 : Hid (LBox b d c0 c1 c2 w2 (.slice (some ⟨g, 0, none⟩) s.length cap)) := hx2
        clear hown hgrow hrow hx2 b2 b3
        go_wp2_with fail
        go_ret
        exact ⟨HG2.out.setNew k2 _, Or.inl ⟨er, by rw [oneItem, HVal.out], her, her2, rfl, ⟨_, _, _, one_setCell HX2.out.h2⟩⟩⟩
    · by_cases hroom : s.length + 1 ≤ cap
      · skip
        go_wp2_with (at_builtin; refine wpList_append_fits _ rfl _ _ 82 rfl g 52 i0 1 Tryz.underlying82 hi hz1 g s.length cap vs rfl (World.ownsRow.alloc HRw1.out.owns _) ⟨w1.heap.size, 0, none⟩ 1 1 [.iface T x] rfl rfl (new_one _ _ _) (one_of rfl) hroom ?_)
        intro w2 hown hgrow
        have hrow : Row w2 52 1 g (s.length + 1) cap (vs ++ [.iface T x]) := Row.of_slice hown
        have hx2 := (HX1.out.kept (World.grownBy_alloc w1 _ none) (fun e => by cases e) (fun e => by cases e) (fun e => by cases e)).kept hgrow (fun e => by cases e; exact e0 rfl) (fun e => by cases e; exact e1 rfl) (fun e => by cases e; exact e2 rfl)
        have f2 := cell_of_one hx2.h2
        have f3 := free_of_one hx2.h2
        have HG2 : Hid (G b w0 w2) := (HG01.out.alloc _).grown hgrow (fun k e => by cases e; omega)
        have HX2 : Hid (LBox b d c0 c1 c2 w2 (.slice (some ⟨g, 0, none⟩) s.length cap)) := hx2
        clear hown hgrow hrow hx2 b2 b3
        go_wp2_with fail
        go_ret
        exact ⟨HG2.out.setNew k2 _, Or.inl ⟨er, by rw [oneItem, HVal.out], her, her2, rfl, ⟨_, _, _, one_setCell HX2.out.h2⟩⟩⟩
      · skip
        go_wp2_with (at_builtin; refine wpList_append_grows _ rfl _ _ 82 rfl 52 i0 .nilIface 1 16 Tryz.underlying82 hi hz0 hz1 hz2 rfl (by decide) (some ⟨g, 0, none⟩) s.length cap vs rfl (fun e => by cases e) HRw1.out.1 (row_cells HRw1.out _) ⟨w1.heap.size, 0, none⟩ 1 1 [.iface T x] rfl rfl (new_one _ _ _) (one_of rfl) (by omega) (by unfold maxLen; omega) (by omega) ?_)
        intro v' w2 hown hgrow
        obtain ⟨g', cap', rfl, hg', hrow⟩ := Row.of_owns hown (by omega)
        have hg'' : w1.heap.size < g' := by (try simp at hg'); omega
        have hx2 := (HX1.out.kept (World.grownBy_alloc w1 _ none) (fun e => by cases e) (fun e => by cases e) (fun e => by cases e)).kept hgrow (fun e => by cases e) (fun e => by cases e) (fun e => by cases e)
        have f2 := cell_of_one hx2.h2
        have f3 := free_of_one hx2.h2
        have HG2 : Hid (G b w0 w2) := (HG01.out.alloc _).grown hgrow (fun k e => by cases e)
        have HX2 : Hid (LBox b d c0 c1 c2 w2 (.slice (some ⟨g, 0, none⟩) s.length cap)) := hx2
        clear hown hgrow hrow hx2 b2 b3
        go_wp2_with fail
        go_ret
        exact ⟨HG2.out.setNew k2 _, Or.inl ⟨er, by rw [oneItem, HVal.out], her, her2, rfl, ⟨_, _, _, one_setCell HX2.out.h2⟩⟩⟩
  · obtain ⟨T, x, rfl⟩ := hone
    have HVal : Hid (value n k (rest t p) = .ok (j, k', rest t q)) := hv
    have HR' : Hid (Rd b t q k' w1) := hR'
    have HSt : Hid (St (fun c => c < w.heap.size) w1 n j (.iface T x)) := hst
    clear hv hR' hst
    by_cases hroom : s.length + 1 ≤ cap
    · skip
      go_wp2_with (at_builtin; refine wpList_append_fits _ rfl _ _ 82 rfl g 52 i0 1 Tryz.underlying82 hi hz1 g s.length cap vs rfl (World.ownsRow.alloc HRw1.out.owns _) ⟨w1.heap.size, 0, none⟩ 1 1 [.iface T x] rfl rfl (new_one _ _ _) (one_of rfl) hroom ?_)
      intro w2 hown hgrow
      have hrow : Row w2 52 1 g (s.length + 1) cap (vs ++ [.iface T x]) := Row.of_slice hown
      have hx2 := (HX1.out.kept (World.grownBy_alloc w1 _ none) (fun e => by cases e) (fun e => by cases e) (fun e => by cases e)).kept hgrow (fun e => by cases e; exact e0 rfl) (fun e => by cases e; exact e1 rfl) (fun e => by cases e; exact e2 rfl)
      have f2 := cell_of_one hx2.h2
      have f3 := free_of_one hx2.h2
      have HG2 : Hid (G b w0 w2) := (HG01.out.alloc _).grown hgrow (fun k e => by cases e; omega)
      have HX2 : Hid (LBox b d c0 c1 c2 w2 (.slice (some ⟨g, 0, none⟩) s.length cap)) := hx2
      have HL : Hid (LInv b d c0 c1 c2 w0.heap.size (c2 + 1) n (s ++ [j]) k' (w2.setCell ⟨c2, 0, none⟩ (.slice (some ⟨g, 0, none⟩) (s.length + 1) cap))) :=
        linv_step HX.out HRw.out hgN e0 e1 e2 HEl.out hb k0 k1 k2 (by omega) (by omega) (by omega) (by omega) (by omega) (by omega) (by omega) HG1.out HSt.out hgrow hrow (Or.inl ⟨rfl, rfl⟩) (by omega)
      have HR2 : Hid (Rd b t q k' (w2.setCell ⟨c2, 0, none⟩ (.slice (some ⟨g, 0, none⟩) (s.length + 1) cap))) :=
        (((HR'.out.alloc _).kept hgrow (fun e => by cases e; omega))).kept (grownBy_setCell w2 c2 0 _) (fun e => by cases e; omega)
      clear hown hgrow hrow hx2 b2 b3
      go_wp2_with fail
      go_ret
      exact ⟨HG2.out.setNew k2 _, Or.inr ⟨s ++ [j], k', q, by rw [oneItem, HVal.out], hpq, hq, hk2, rfl, HR2.out, HL.out⟩⟩
    · skip
      go_wp2_with (at_builtin; refine wpList_append_grows _ rfl _ _ 82 rfl 52 i0 .nilIface 1 16 Tryz.underlying82 hi hz0 hz1 hz2 rfl (by decide) (some ⟨g, 0, none⟩) s.length cap vs rfl (fun e => by cases e) HRw1.out.1 (row_cells HRw1.out _) ⟨w1.heap.size, 0, none⟩ 1 1 [.iface T x] rfl rfl (new_one _ _ _) (one_of rfl) (by omega) (by unfold maxLen; omega) (by omega) ?_)
      intro v' w2 hown hgrow
      obtain ⟨g', cap', rfl, hg', hrow⟩ := Row.of_owns hown (by omega)
      have hg'' : w1.heap.size < g' := by (try simp at hg'); omega
      have hx2 := (HX1.out.kept (World.grownBy_alloc w1 _ none) (fun e => by cases e) (fun e => by cases e) (fun e => by cases e)).kept hgrow (fun e => by cases e) (fun e => by cases e) (fun e => by cases e)
      have f2 := cell_of_one hx2.h2
      have f3 := free_of_one hx2.h2
      have HG2 : Hid (G b w0 w2) := (HG01.out.alloc _).grown hgrow (fun k e => by cases e)
      have HX2 : Hid (LBox b d c0 c1 c2 w2 (.slice (some ⟨g, 0, none⟩) s.length cap)) := hx2
      have HL : Hid (LInv b d c0 c1 c2 w0.heap.size (c2 + 1) n (s ++ [j]) k' (w2.setCell ⟨c2, 0, none⟩ (.slice (some ⟨g', 0, none⟩) (s.length + 1) cap'))) :=
        linv_step HX.out HRw.out hgN e0 e1 e2 HEl.out hb k0 k1 k2 (by omega) (by omega) (by omega) (by omega) (by omega) (by omega) (by omega) HG1.out HSt.out hgrow hrow (Or.inr ⟨rfl, hg''⟩) (by omega)
      have HR2 : Hid (Rd b t q k' (w2.setCell ⟨c2, 0, none⟩ (.slice (some ⟨g', 0, none⟩) (s.length + 1) cap'))) :=
        (((HR'.out.alloc _).kept hgrow (fun e => by cases e))).kept (grownBy_setCell w2 c2 0 _) (fun e => by cases e; omega)
      clear hown hgrow hrow hx2 b2 b3
      go_wp2_with fail
      go_ret
      exact ⟨HG2.out.setNew k2 _, Or.inr ⟨s ++ [j], k', q, by rw [oneItem, HVal.out], hpq, hq, hk2, rfl, HR2.out, HL.out⟩⟩
theorem linv_start (b : Nat) (d : Int) (n k : Nat) (w : World) (hb : b < w.heap.size) :
    LInv b d w.heap.size (w.heap.size + 1) (w.heap.size + 1 + 1 + 1) w.heap.size (w.heap.size + 1 + 1 + 1 + 1) n [] k ((((w.alloc (.cells #[.pointer (some ⟨b, 0, none⟩)] 105)).alloc (.cells #[.int .i64 d] 3)).alloc (.cells #[] 52)).alloc (.cells #[.slice (some ⟨w.heap.size + 1 + 1, 0, none⟩) 0 0] 82)) := by
  have hz : ∀ (x : World) (o : Obj), (x.alloc o).heap.size = x.heap.size + 1 := fun x o => by simp
  generalize e1 : w.alloc (.cells #[.pointer (some ⟨b, 0, none⟩)] 105) = w1
  generalize e2 : w1.alloc (.cells #[.int .i64 d] 3) = w2
  generalize e3 : w2.alloc (.cells #[] 52) = w3
  have z1 : w1.heap.size = w.heap.size + 1 := by rw [← e1, hz]
  have z2 : w2.heap.size = w.heap.size + 1 + 1 := by rw [← e2, hz, z1]
  have z3 : w3.heap.size = w.heap.size + 1 + 1 + 1 := by rw [← e3, hz, z2]
  have b0 : w1.heap[w.heap.size]? = some (.cells #[.pointer (some ⟨b, 0, none⟩)] 105 (0, 0)) := by rw [← e1]; exact heap_alloc_new w _
  have b1 : w2.heap[w.heap.size + 1]? = some (.cells #[.int .i64 d] 3 (0, 0)) := by rw [← e2, ← z1]; exact heap_alloc_new w1 _
  have b2 : w3.heap[w.heap.size + 1 + 1]? = some (.cells #[] 52 (0, 0)) := by rw [← e3, ← z2]; exact heap_alloc_new w2 _
  have up2 : ∀ c, c < w1.heap.size → w2.heap[c]? = w1.heap[c]? := fun c hc => by rw [← e2]; exact Below.heap_alloc w1 _ c hc
  have up3 : ∀ c, c < w2.heap.size → w3.heap[c]? = w2.heap[c]? := fun c hc => by rw [← e3]; exact Below.heap_alloc w2 _ c hc
  have up4 : ∀ o c, c < w3.heap.size → (w3.alloc o).heap[c]? = w3.heap[c]? := fun o c hc => Below.heap_alloc w3 _ c hc
  refine ⟨Nat.zero_le _, w.heap.size + 1 + 1, 0, [], ⟨?_, ?_, ?_⟩, ⟨rfl, #[], ?_, Nat.le_refl _, by unfold maxLen; omega, rfl, rfl⟩, by omega, by omega, by omega, by omega, fun i x u hx _ => by simp at hx⟩
  · rw [up4 _ _ (by omega), up3 _ (by omega), up2 _ (by omega)]; exact b0
  · rw [up4 _ _ (by omega), up3 _ (by omega)]; exact b1
  · rw [← z3]; exact heap_alloc_new w3 _
  · rw [up4 _ _ (by omega)]; exact b2
def ListPost (b : Nat) (t : ByteArray) (p k n : Nat) (w : World) (e : Ending) (w' : World) : Prop :=
  G b w w' ∧ ((∃ (er : Nat) (v : Value), row 93 (oneItem (value n)) [] k (rest t p) = .error er ∧ er ≠ 0 ∧ er < 100 ∧ e = .returned (.tuple #[v, .int .i64 er]) ∧ (v = .nilIface ∨ ∃ T x, v = .iface T x)) ∨
    ∃ (s : List (J n)) (k' q : Nat) (v : Value), row 93 (oneItem (value n)) [] k (rest t p) = .ok (s, k', rest t q) ∧ p < q ∧ q ≤ t.size ∧ k' ≤ 200 ∧ e = .returned (.tuple #[v, .int .i64 0]) ∧ (∃ T x, v = .iface T x) ∧ Rd b t q k' w' ∧ St (fun c => c < w.heap.size) w' (n + 1) (Sum.inr (Sum.inl s)) v)
set_option maxRecDepth 100000 in
set_option maxHeartbeats 4000000 in
theorem list_any (n b : Nat) (t : ByteArray) (p k : Nat) (d : Int) (w : World) (hV : ValueOK n) (hd : d + n = 10) (hd0 : 0 ≤ d) (h : Rd b t p k w) (hlt : p < t.size) (ht : t.size ≤ 2000) (hk : k ≤ 200) :
    Calls Tryz.prog 62 #[.pointer (some ⟨b, 0, none⟩), .int .i64 d] w (ListPost b t p k n w) := by
  have hbw := h.lt
  have HR : Hid (Rd b t p k w) := h
  have HV : Hid (ValueOK n) := hV
  clear h hV
  have HL : Hid (LInv b d w.heap.size (w.heap.size + 1) (w.heap.size + 1 + 1 + 1) w.heap.size (w.heap.size + 1 + 1 + 1 + 1) n [] k ((((w.alloc (.cells #[.pointer (some ⟨b, 0, none⟩)] 105)).alloc (.cells #[.int .i64 d] 3)).alloc (.cells #[] 52)).alloc (.cells #[.slice (some ⟨w.heap.size + 1 + 1, 0, none⟩) 0 0] 82))) := linv_start b d n k w hbw
  go_enter Tryz.func62, Tryz.ntmps62
  go_wp2_with fail
  refine (row_list b t p k w.heap.size (w.heap.size + 1) (w.heap.size + 1 + 1 + 1) 93 [] w _ (oneItem (value n)) (LInv b d w.heap.size (w.heap.size + 1) (w.heap.size + 1 + 1 + 1) w.heap.size (w.heap.size + 1 + 1 + 1 + 1) n) (LErr (w.heap.size + 1 + 1 + 1))
    ((((HR.out.alloc _).alloc _).alloc _).alloc _) hlt ht hk HL.out (((((G.refl b w).alloc _).alloc _).alloc _).alloc _) (by decide)
    (list_one n b t d _ _ _ w HV.out hd hd0 ht hbw (by omega) (by omega) (by omega) (by omega) (by omega))
    (fun s k w1 w2 hi hg => hi.kept hg hbw (by omega) (by omega) (by omega) (by omega)) (fun s k w1 hi => hi.err)).mono ?_
  rintro e w1 ⟨g1, h1⟩
  have HG1 : Hid (G b w w1) := g1
  clear g1 HL
  rcases h1 with ⟨er, hr, her, h100, rfl, he⟩ | ⟨s, k', q, hr, hpq, hq, hk2, rfl, hR, hI⟩
  · obtain ⟨a, m, cap, hc⟩ := he
    have c2 := cell_of_one hc
    have HRw : Hid (row 93 (oneItem (value n)) [] k (rest t p) = .error er) := hr
    clear hr hc
    go_wp2_with fail
    go_ret2
    exact ⟨HG1.out, Or.inl ⟨er, _, HRw.out, her, h100, rfl, Or.inr ⟨_, _, rfl⟩⟩⟩
  · obtain ⟨hsk, g, cap, vs, hx, hrw, hgN, e0, e1, e2, hel⟩ := hI
    have c2 := cell_of_one hx.h2
    have HRw : Hid (row 93 (oneItem (value n)) [] k (rest t p) = .ok (s, k', rest t q)) := hr
    have HR1 : Hid (Rd b t q k' w1) := hR
    have HS : Hid (St (fun c => c < w.heap.size) w1 (n + 1) (Sum.inr (Sum.inl s)) (.iface 82 (.slice (some ⟨g, 0, none⟩) s.length cap))) :=
      st_list (vs := vs) (by have := hrw.1; omega) hrw.caps.1 hrw.caps.2 (by omega) hrw.lt (fun i u hu => hrw.cell i u hu) (fun i x u hx hu => (hel i x u hx hu).mono (fun c _ hc => Or.inl (by omega)))
    clear hr hx hrw hel hR
    go_wp2_with fail
    go_ret2
    exact ⟨HG1.out, Or.inr ⟨s, k', q, _, HRw.out, hpq, hq, hk2, rfl, ⟨_, _, rfl⟩, HR1.out, HS.out⟩⟩
end Go.Proofs.YtaogilpkeeigoaaGreatDoor
