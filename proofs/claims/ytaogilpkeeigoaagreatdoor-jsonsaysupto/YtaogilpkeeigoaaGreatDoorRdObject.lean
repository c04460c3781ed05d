/- Contracts over this translation of what reads an object. -/
import Derived.Test.YtaogilpkeeigoaaGreatDoorObjPlain
import Derived.Test.YtaogilpkeeigoaaGreatDoorRdRow
namespace Go.Proofs.YtaogilpkeeigoaaGreatDoor
open Go.RowKit
set_option linter.unusedVariables false
set_option linter.unusedSimpArgs false
set_option maxRecDepth 100000 in
set_option maxHeartbeats 8000000 in
theorem object_one (n b : Nat) (t : ByteArray) (d : Int) (c0 cf cd : Nat) (w0 : World) (hV : ValueOK n) (hd : d + n = 10) (hd0 : 0 ≤ d) (ht : t.size ≤ 2000) (hb : b < w0.heap.size)
    (k0 : w0.heap.size ≤ c0) (k1 : w0.heap.size ≤ cd) (k2 : w0.heap.size ≤ cf) (l0 : c0 < cf) (l1 : cd < cf) :
    OneOK 81 #[.pointer (some ⟨c0, 0, none⟩), .pointer (some ⟨cf, 0, none⟩), .pointer (some ⟨cd, 0, none⟩)] b t w0 (oneField (value n)) (OInv b d c0 cf cd w0.heap.size (cf + 1) n) (OErr cf) := by
  intro s p k w hI hg hR hp hk
  obtain ⟨hsk, hri, g, cap, vs, hx, hr, hvl, hvo, hgN, e0, e1, e2, hel⟩ := hI
  have a0 := cell_of_one hx.h0
  have a2 := cell_of_one hx.h2
  have hcw := lt_of_block hx.h2
  have hcap := hr.caps
  have hgw := hr.lt
  have HX : Hid (OBox b d c0 cf cd w (.slice (some ⟨g, 0, none⟩) s.length cap)) := hx
  have HRw : Hid (Row w 87 2 g s.length cap (flat s vs)) := hr
  have HEl : Hid (∀ (i : Nat) (f : Bs × J n) (u : Value), s[i]? = some f → vs[i]? = some u → St (fun c => c < cf + 1 ∨ c = g) w n f.2 u) := hel
  have HR : Hid (Rd b t p k w) := hR
  have HG : Hid (G b w0 w) := hg
  have HV : Hid (ValueOK n) := hV
  have HRi : Hid (Rising s) := hri
  have HVl : Hid (vs.length = s.length) := hvl
  have HVo : Hid (∀ u ∈ vs, u.oneCell' = true) := hvo
  clear hx hr hel hR hg hV hri hvl hvo
  go_enter Tryz.func81, Tryz.ntmps81
  go_wp2_with fail
  refine (name_any b t p k g cap s vs w HR.out hp ht (row_fields HRw.out HVl.out) hgw (by omega) HRi.out (by omega) hcap.1 hcap.2).mono ?_
  rintro e wn ⟨gn, hn⟩
  have hxn := HX.out.kept gn (fun e => by cases e; omega) (fun e => by cases e; omega) (fun e => by cases e; omega)
  have hrn : Row wn 87 2 g s.length cap (flat s vs) := HRw.out.kept gn (fun e => by cases e; omega)
  have HXn : Hid (OBox b d c0 cf cd wn (.slice (some ⟨g, 0, none⟩) s.length cap)) := hxn
  have HRn : Hid (Row wn 87 2 g s.length cap (flat s vs)) := hrn
  have HEn : Hid (∀ (i : Nat) (f : Bs × J n) (u : Value), s[i]? = some f → vs[i]? = some u → St (fun c => c < cf + 1 ∨ c = g) wn n f.2 u) := fun i f u hf hu => (HEl.out i f u hf hu).grown gn (fun k e => by cases e; exact Or.inl (by omega))
  have HGn : Hid (G b w0 wn) := HG.out.trans gn
  have b0 := cell_of_one hxn.h0
  have b1 := cell_of_one hxn.h1
  have hgn := hrn.lt
  have hcn := lt_of_block hxn.h2
  clear gn hxn hrn a0 a2
  rcases hn with ⟨er, hne, her, her2, rfl⟩ | ⟨nm, q0, hne, hpq0, hq0, hany, rfl, hRn⟩
  · have HNe : Hid (nameE s (rest t p) = .error er) := hne
    have hbe := err_bool her
    clear hne
    go_wp2_with fail
    go_ret
    exact ⟨HGn.out, Or.inl ⟨er, by rw [oneField, HNe.out], her, her2, rfl, ⟨_, _, _, HXn.out.h2⟩⟩⟩
  have HNe : Hid (nameE s (rest t p) = .ok (nm, rest t q0)) := hne
  have HAny : Hid ((s.any fun f => f.1 == nm) = false) := hany
  have HRdn : Hid (Rd b t q0 k wn) := hRn
  have hpl := place_le s nm
  clear hne hany hRn
  go_wp2_with fail
  refine (HV.out b t q0 k d wn HRdn.out hq0 ht hk hd hd0).mono ?_
  rintro e w1 ⟨g1, h1⟩
  have hx1 := HXn.out.kept g1 (fun e => by cases e; omega) (fun e => by cases e; omega) (fun e => by cases e; omega)
  have hr1 : Row w1 87 2 g s.length cap (flat s vs) := HRn.out.kept g1 (fun e => by cases e; omega)
  have b2 := cell_of_one hx1.h2
  have b3 := free_of_one hx1.h2
  have HX1 : Hid (OBox b d c0 cf cd w1 (.slice (some ⟨g, 0, none⟩) s.length cap)) := hx1
  have HR1 : Hid (Row w1 87 2 g s.length cap (flat s vs)) := hr1
  have HG1 : Hid (G b wn w1) := g1
  have HG01 : Hid (G b w0 w1) := HGn.out.trans g1
  have hc2w := lt_of_block hx1.h2
  have hg1w := hr1.lt
  clear hx1 hr1 g1 b0 b1
  rcases h1 with ⟨er, v, hv, her, her2, rfl, hone⟩ | ⟨j, k', q, v, hv, hpq, hq, hkk, hk2, rfl, hone, hR', hst⟩
  · have HVal : Hid (value n k (rest t q0) = .error er) := hv
    clear hv
    rcases hone with rfl | ⟨T, x, rfl⟩
    · skip
      go_wp2_with fail
      refine (insert_any g s.length cap (placeOfName s nm) w1.heap.size (flat s vs) (.string ⟨nm.toArray⟩) (.nilIface) _ (HR1.out.kept (World.grownBy_alloc w1 _ none) (fun e => by cases e)) (by omega) hpl (heap_alloc_new w1 _) (by omega) rfl rfl (flat_one s vs HVo.out)).mono ?_
      rintro e w2 ⟨g', cap', rfl, hrow, hgr⟩
      have hgr2 : ∃ row, (w1.alloc (.cells #[.string ⟨nm.toArray⟩, .nilIface] 87)).grownBy w2 row ∧ ((row = some g ∧ g' = g) ∨ (row = none ∧ w1.heap.size < g')) := by
        rcases hgr with ⟨h1, h2⟩ | ⟨h1, h2⟩
        · exact ⟨_, h2, Or.inl ⟨rfl, h1⟩⟩
        · exact ⟨_, h2, Or.inr ⟨rfl, by simp at h1; omega⟩⟩
      obtain ⟨row, hgrow, hcase⟩ := hgr2
      have hx2 := (HX1.out.kept (World.grownBy_alloc w1 (.cells #[.string ⟨nm.toArray⟩, .nilIface] 87) none) (fun e => by cases e) (fun e => by cases e) (fun e => by cases e)).kept hgrow
        (fun e => by subst e; rcases hcase with ⟨h, _⟩ | ⟨h, _⟩ <;> cases h; exact e0 rfl) (fun e => by subst e; rcases hcase with ⟨h, _⟩ | ⟨h, _⟩ <;> cases h; exact e1 rfl) (fun e => by subst e; rcases hcase with ⟨h, _⟩ | ⟨h, _⟩ <;> cases h; exact e2 rfl)
      have f2 := cell_of_one hx2.h2
      have f3 := free_of_one hx2.h2
      have HX2 : Hid (OBox b d c0 cf cd w2 (.slice (some ⟨g, 0, none⟩) s.length cap)) := hx2
      have HG2 : Hid (G b w0 w2) := (HG01.out.alloc _).grown hgrow (fun k e => by subst e; rcases hcase with ⟨h, _⟩ | ⟨h, _⟩ <;> cases h; omega)
      clear hgrow hcase hgr hrow hx2 b2 b3
      go_wp2_with fail
      go_ret
      exact ⟨HG2.out.setNew k2 _, Or.inl ⟨er, by rw [oneField, HNe.out]; simp only [HVal.out], her, her2, rfl, ⟨_, _, _, one_setCell HX2.out.h2⟩⟩⟩
    · skip
      go_wp2_with fail
      refine (insert_any g s.length cap (placeOfName s nm) w1.heap.size (flat s vs) (.string ⟨nm.toArray⟩) (.iface T x) _ (HR1.out.kept (World.grownBy_alloc w1 _ none) (fun e => by cases e)) (by omega) hpl (heap_alloc_new w1 _) (by omega) rfl rfl (flat_one s vs HVo.out)).mono ?_
      rintro e w2 ⟨g', cap', rfl, hrow, hgr⟩
      have hgr2 : ∃ row, (w1.alloc (.cells #[.string ⟨nm.toArray⟩, .iface T x] 87)).grownBy w2 row ∧ ((row = some g ∧ g' = g) ∨ (row = none ∧ w1.heap.size < g')) := by
        rcases hgr with ⟨h1, h2⟩ | ⟨h1, h2⟩
        · exact ⟨_, h2, Or.inl ⟨rfl, h1⟩⟩
        · exact ⟨_, h2, Or.inr ⟨rfl, by simp at h1; omega⟩⟩
      obtain ⟨row, hgrow, hcase⟩ := hgr2
      have hx2 := (HX1.out.kept (World.grownBy_alloc w1 (.cells #[.string ⟨nm.toArray⟩, .iface T x] 87) none) (fun e => by cases e) (fun e => by cases e) (fun e => by cases e)).kept hgrow
        (fun e => by subst e; rcases hcase with ⟨h, _⟩ | ⟨h, _⟩ <;> cases h; exact e0 rfl) (fun e => by subst e; rcases hcase with ⟨h, _⟩ | ⟨h, _⟩ <;> cases h; exact e1 rfl) (fun e => by subst e; rcases hcase with ⟨h, _⟩ | ⟨h, _⟩ <;> cases h; exact e2 rfl)
      have f2 := cell_of_one hx2.h2
      have f3 := free_of_one hx2.h2
      have HX2 : Hid (OBox b d c0 cf cd w2 (.slice (some ⟨g, 0, none⟩) s.length cap)) := hx2
      have HG2 : Hid (G b w0 w2) := (HG01.out.alloc _).grown hgrow (fun k e => by subst e; rcases hcase with ⟨h, _⟩ | ⟨h, _⟩ <;> cases h; omega)
      clear hgrow hcase hgr hrow hx2 b2 b3
      go_wp2_with fail
      go_ret
      exact ⟨HG2.out.setNew k2 _, Or.inl ⟨er, by rw [oneField, HNe.out]; simp only [HVal.out], her, her2, rfl, ⟨_, _, _, one_setCell HX2.out.h2⟩⟩⟩
  · obtain ⟨T, x, rfl⟩ := hone
    have HVal : Hid (value n k (rest t q0) = .ok (j, k', rest t q)) := hv
    have HR' : Hid (Rd b t q k' w1) := hR'
    have HSt : Hid (St (fun c => c < wn.heap.size) w1 n j (.iface T x)) := hst
    clear hv hR' hst
    go_wp2_with fail
    refine (insert_any g s.length cap (placeOfName s nm) w1.heap.size (flat s vs) (.string ⟨nm.toArray⟩) (.iface T x) _ (HR1.out.kept (World.grownBy_alloc w1 _ none) (fun e => by cases e)) (by omega) hpl (heap_alloc_new w1 _) (by omega) rfl rfl (flat_one s vs HVo.out)).mono ?_
    rintro e w2 ⟨g', cap', rfl, hrow, hgr⟩
    have hgr2 : ∃ row, (w1.alloc (.cells #[.string ⟨nm.toArray⟩, .iface T x] 87)).grownBy w2 row ∧ ((row = some g ∧ g' = g) ∨ (row = none ∧ w1.heap.size < g')) := by
      rcases hgr with ⟨h1, h2⟩ | ⟨h1, h2⟩
      · exact ⟨_, h2, Or.inl ⟨rfl, h1⟩⟩
      · exact ⟨_, h2, Or.inr ⟨rfl, by simp at h1; omega⟩⟩
    obtain ⟨row, hgrow, hcase⟩ := hgr2
    have hx2 := (HX1.out.kept (World.grownBy_alloc w1 (.cells #[.string ⟨nm.toArray⟩, .iface T x] 87) none) (fun e => by cases e) (fun e => by cases e) (fun e => by cases e)).kept hgrow
      (fun e => by subst e; rcases hcase with ⟨h, _⟩ | ⟨h, _⟩ <;> cases h; exact e0 rfl) (fun e => by subst e; rcases hcase with ⟨h, _⟩ | ⟨h, _⟩ <;> cases h; exact e1 rfl) (fun e => by subst e; rcases hcase with ⟨h, _⟩ | ⟨h, _⟩ <;> cases h; exact e2 rfl)
    have f2 := cell_of_one hx2.h2
    have f3 := free_of_one hx2.h2
    have HX2 : Hid (OBox b d c0 cf cd w2 (.slice (some ⟨g, 0, none⟩) s.length cap)) := hx2
    have HG2 : Hid (G b w0 w2) := (HG01.out.alloc _).grown hgrow (fun k e => by subst e; rcases hcase with ⟨h, _⟩ | ⟨h, _⟩ <;> cases h; omega)
    have HL : Hid (OInv b d c0 cf cd w0.heap.size (cf + 1) n (insertAt s nm j) k' (w2.setCell ⟨cf, 0, none⟩ (.slice (some ⟨g', 0, none⟩) (s.length + 1) cap'))) :=
      oinv_step HRi.out HAny.out HXn.out HRn.out HVl.out HVo.out rfl hgN e0 e1 e2 HEn.out hb k0 k1 k2 (by omega) (by omega) (by omega) (by omega) (by omega) HG1.out HSt.out hgrow hrow hcase (by omega)
    have HR2 : Hid (Rd b t q k' (w2.setCell ⟨cf, 0, none⟩ (.slice (some ⟨g', 0, none⟩) (s.length + 1) cap'))) :=
      (((HR'.out.alloc _).kept hgrow (fun e => by subst e; rcases hcase with ⟨h, _⟩ | ⟨h, _⟩ <;> cases h; omega))).kept (grownBy_setCell w2 cf 0 _) (fun e => by cases e; omega)
    clear hgrow hcase hgr hrow hx2 b2 b3
    go_wp2_with fail
    go_ret
    exact ⟨HG2.out.setNew k2 _, Or.inr ⟨insertAt s nm j, k', q, by rw [oneField, HNe.out]; simp only [HVal.out], by omega, hq, hk2, rfl, HR2.out, HL.out⟩⟩
theorem oinv_start (b : Nat) (d : Int) (n k : Nat) (w : World) (hb : b < w.heap.size) :
    OInv b d w.heap.size (w.heap.size + 1 + 1 + 1) (w.heap.size + 1) w.heap.size (w.heap.size + 1 + 1 + 1 + 1) n [] k ((((w.alloc (.cells #[.pointer (some ⟨b, 0, none⟩)] 105)).alloc (.cells #[.int .i64 d] 3)).alloc (.cells #[] 87)).alloc (.cells #[.slice (some ⟨w.heap.size + 1 + 1, 0, none⟩) 0 0] 84)) := by
  have hz : ∀ (x : World) (o : Obj), (x.alloc o).heap.size = x.heap.size + 1 := fun x o => by simp
  generalize e1 : w.alloc (.cells #[.pointer (some ⟨b, 0, none⟩)] 105) = w1
  generalize e2 : w1.alloc (.cells #[.int .i64 d] 3) = w2
  generalize e3 : w2.alloc (.cells #[] 87) = w3
  have z1 : w1.heap.size = w.heap.size + 1 := by rw [← e1, hz]
  have z2 : w2.heap.size = w.heap.size + 1 + 1 := by rw [← e2, hz, z1]
  have z3 : w3.heap.size = w.heap.size + 1 + 1 + 1 := by rw [← e3, hz, z2]
  have b0 : w1.heap[w.heap.size]? = some (.cells #[.pointer (some ⟨b, 0, none⟩)] 105 (0, 0)) := by rw [← e1]; exact heap_alloc_new w _
  have b1 : w2.heap[w.heap.size + 1]? = some (.cells #[.int .i64 d] 3 (0, 0)) := by rw [← e2, ← z1]; exact heap_alloc_new w1 _
  have b2 : w3.heap[w.heap.size + 1 + 1]? = some (.cells #[] 87 (0, 0)) := by rw [← e3, ← z2]; exact heap_alloc_new w2 _
  have up2 : ∀ c, c < w1.heap.size → w2.heap[c]? = w1.heap[c]? := fun c hc => by rw [← e2]; exact Below.heap_alloc w1 _ c hc
  have up3 : ∀ c, c < w2.heap.size → w3.heap[c]? = w2.heap[c]? := fun c hc => by rw [← e3]; exact Below.heap_alloc w2 _ c hc
  have up4 : ∀ o c, c < w3.heap.size → (w3.alloc o).heap[c]? = w3.heap[c]? := fun o c hc => Below.heap_alloc w3 _ c hc
  refine ⟨Nat.zero_le _, List.Pairwise.nil, w.heap.size + 1 + 1, 0, [], ⟨?_, ?_, ?_⟩, ⟨rfl, #[], ?_, Nat.le_refl _, by unfold maxLen; omega, rfl, rfl⟩, rfl, fun u hu => by simp at hu, by omega, by omega, by omega, by omega, fun i x u hx _ => by simp at hx⟩
  · rw [up4 _ _ (by omega), up3 _ (by omega), up2 _ (by omega)]; exact b0
  · rw [up4 _ _ (by omega), up3 _ (by omega)]; exact b1
  · rw [← z3]; exact heap_alloc_new w3 _
  · rw [up4 _ _ (by omega)]; exact b2
def ObjPost (b : Nat) (t : ByteArray) (p k n : Nat) (w : World) (e : Ending) (w' : World) : Prop :=
  G b w w' ∧ ((∃ (er : Nat) (v : Value), row 125 (oneField (value n)) [] k (rest t p) = .error er ∧ er ≠ 0 ∧ er < 100 ∧ e = .returned (.tuple #[v, .int .i64 er]) ∧ (v = .nilIface ∨ ∃ T x, v = .iface T x)) ∨
    ∃ (s : List (Bs × J n)) (k' q : Nat) (v : Value), row 125 (oneField (value n)) [] k (rest t p) = .ok (s, k', rest t q) ∧ p < q ∧ q ≤ t.size ∧ k' ≤ 200 ∧ e = .returned (.tuple #[v, .int .i64 0]) ∧ (∃ T x, v = .iface T x) ∧ Rd b t q k' w' ∧ St (fun c => c < w.heap.size) w' (n + 1) (Sum.inr (Sum.inr s)) v)
set_option maxRecDepth 100000 in
set_option maxHeartbeats 4000000 in
theorem object_any (n b : Nat) (t : ByteArray) (p k : Nat) (d : Int) (w : World) (hV : ValueOK n) (hd : d + n = 10) (hd0 : 0 ≤ d) (h : Rd b t p k w) (hlt : p < t.size) (ht : t.size ≤ 2000) (hk : k ≤ 200) :
    Calls Tryz.prog 63 #[.pointer (some ⟨b, 0, none⟩), .int .i64 d] w (ObjPost b t p k n w) := by
  have hbw := h.lt
  have HR : Hid (Rd b t p k w) := h
  have HV : Hid (ValueOK n) := hV
  clear h hV
  have HL : Hid (OInv b d w.heap.size (w.heap.size + 1 + 1 + 1) (w.heap.size + 1) w.heap.size (w.heap.size + 1 + 1 + 1 + 1) n [] k ((((w.alloc (.cells #[.pointer (some ⟨b, 0, none⟩)] 105)).alloc (.cells #[.int .i64 d] 3)).alloc (.cells #[] 87)).alloc (.cells #[.slice (some ⟨w.heap.size + 1 + 1, 0, none⟩) 0 0] 84))) := oinv_start b d n k w hbw
  go_enter Tryz.func63, Tryz.ntmps63
  go_wp2_with fail
  refine (row_object b t p k w.heap.size (w.heap.size + 1 + 1 + 1) (w.heap.size + 1) 125 [] w _ (oneField (value n)) (OInv b d w.heap.size (w.heap.size + 1 + 1 + 1) (w.heap.size + 1) w.heap.size (w.heap.size + 1 + 1 + 1 + 1) n) (OErr (w.heap.size + 1 + 1 + 1))
    ((((HR.out.alloc _).alloc _).alloc _).alloc _) hlt ht hk HL.out (((((G.refl b w).alloc _).alloc _).alloc _).alloc _) (by decide)
    (object_one n b t d _ _ _ w HV.out hd hd0 ht hbw (by omega) (by omega) (by omega) (by omega) (by omega))
    (fun s k w1 w2 hi hg => hi.kept hg hbw (by omega) (by omega) (by omega) (by omega)) (fun s k w1 hi => hi.err)).mono ?_
  rintro e w1 ⟨g1, h1⟩
  have HG1 : Hid (G b w w1) := g1
  clear g1 HL
  rcases h1 with ⟨er, hr, her, h100, rfl, he⟩ | ⟨s, k', q, hr, hpq, hq, hk2, rfl, hR, hI⟩
  · obtain ⟨a, m, cap, hc⟩ := he
    have c2 := cell_of_one hc
    have HRw : Hid (row 125 (oneField (value n)) [] k (rest t p) = .error er) := hr
    clear hr hc
    go_wp2_with fail
    go_ret2
    exact ⟨HG1.out, Or.inl ⟨er, _, HRw.out, her, h100, rfl, Or.inr ⟨_, _, rfl⟩⟩⟩
  · obtain ⟨hsk, hri, g, cap, vs, hx, hrw, hvl, hvo, hgN, e0, e1, e2, hel⟩ := hI
    have c2 := cell_of_one hx.h2
    have HRw : Hid (row 125 (oneField (value n)) [] k (rest t p) = .ok (s, k', rest t q)) := hr
    have HR1 : Hid (Rd b t q k' w1) := hR
    have HS : Hid (St (fun c => c < w.heap.size) w1 (n + 1) (Sum.inr (Sum.inr s)) (.iface 84 (.slice (some ⟨g, 0, none⟩) s.length cap))) :=
      st_object (vs := vs) hvl hrw.caps.1 hrw.caps.2 (by omega) hrw.lt (row_fields hrw hvl).2 (fun i x u hx hu => (hel i x u hx hu).mono (fun c _ hc => Or.inl (by omega)))
    clear hr hx hrw hel hR hri hvo hvl
    go_wp2_with fail
    go_ret2
    exact ⟨HG1.out, Or.inr ⟨s, k', q, _, HRw.out, hpq, hq, hk2, rfl, ⟨_, _, rfl⟩, HR1.out, HS.out⟩⟩
end Go.Proofs.YtaogilpkeeigoaaGreatDoor
