/- Contract over this translation of the reference's reader: objects. -/
import Derived.Test.YtaogilpkeeigoaaGreatDoorRfList
import Derived.Test.YtaogilpkeeigoaaGreatDoorRfSet
import Derived.Test.YtaogilpkeeigoaaGreatDoorRfText
import Derived.Test.YtaogilpkeeigoaaGreatDoorDocGrow
namespace Go.Proofs.YtaogilpkeeigoaaGreatDoor
open Go.RowKit
set_option linter.unusedVariables false
set_option linter.unusedSimpArgs false
/-- what has been gathered of an object, and where it lies -/
structure ObjAt (b : Nat) (w : World) {n : Nat} (s : List (Bs × J n)) (vn vl : Value) (wr : World) : Prop where
  names : RStrs (fun c => c < w.heap.size + 2) wr (s.map fun f => f.1) vn
  vals : RVals (fun c => c < w.heap.size + 2) wr n (s.map fun f => f.2) vl
  z : Box wr w.heap.size ⟨0, false, 0, []⟩ (.slice none 0 0) (.slice none 0 0)
  o : Box wr (w.heap.size + 1) ⟨6, false, 0, []⟩ vn vl
  g : G b w wr
  size : w.heap.size + 2 ≤ wr.heap.size
theorem ObjAt.go {b : Nat} {w : World} {n : Nat} {s : List (Bs × J n)} {vn vl : Value} {wr w' : World} (h : ObjAt b w s vn vl wr) (g : G b wr w') (hb : b < w.heap.size) : ObjAt b w s vn vl w' :=
  ⟨h.names.grown g (fun k e => by cases e; omega), h.vals.grown g (fun k e => by cases e; omega), h.z.grown g (fun e => by cases e; omega), h.o.grown g (fun e => by cases e; omega), h.g.trans g, Nat.le_trans h.size g.size⟩
theorem ObjAt.below {b : Nat} {w : World} {n : Nat} {s : List (Bs × J n)} {vn vl : Value} {wr w' : World} (h : ObjAt b w s vn vl wr) (g : Below wr.heap.size wr w') : ObjAt b w s vn vl w' :=
  ⟨h.names.below g, h.vals.below g, h.z.below g, h.o.below g, h.g.trans ⟨g.os, g.tape, g.output, g.size, fun k hk _ => g.block k hk⟩, Nat.le_trans h.size g.size⟩
theorem ObjAt.alloc {b : Nat} {w : World} {n : Nat} {s : List (Bs × J n)} {vn vl : Value} {wr : World} (h : ObjAt b w s vn vl wr) (o : Obj) : ObjAt b w s vn vl (wr.alloc o) :=
  h.below ((Below.refl _ _).alloc (Nat.le_refl _) _)
theorem ObjAt.put {b : Nat} {w : World} {n : Nat} {s s' : List (Bs × J n)} {vn vl vn' vl' : Value} {wr : World} (h : ObjAt b w s vn vl wr) (hn : RStrs (fun c => c < w.heap.size + 2) wr (s'.map fun f => f.1) vn') (hl : RVals (fun c => c < w.heap.size + 2) wr n (s'.map fun f => f.2) vl') :
    ObjAt b w s' vn' vl' (put6 wr (w.heap.size + 1) (.int .i64 6) (.bool false) (.int .i64 0) (.string ⟨#[]⟩) vn' vl') := by
  have g := put6_grown wr (w.heap.size + 1) (.int .i64 6) (.bool false) (.int .i64 0) (.string ⟨#[]⟩) vn' vl'
  exact ⟨hn.grown g (fun k e => by cases e; omega), hl.grown g (fun k e => by cases e; omega), h.z.grown g (fun e => by have := Option.some.inj e; omega), put6_box h.o ⟨6, false, 0, []⟩ vn' vl', h.g.grown g (fun k e => by cases e; omega), Nat.le_trans h.size g.size⟩
theorem signs_len : ∀ (r : Bs) (l r' : Bs), signs r = some (l, r') → r'.length < r.length
  | [], _, _, h => by simp [signs] at h
  | c :: r, l, r', h => by
    rw [signs_cons] at h
    split at h
    · cases h; simp
    · split at h
      · cases r with
        | nil => simp at h
        | cons d r2 =>
          simp only [] at h
          split at h
          · cases h
          · rw [Option.map_eq_some_iff] at h
            obtain ⟨p, hp, e⟩ := h
            have := signs_len r2 p.1 p.2 hp
            cases e
            simp
            omega
      · split at h
        · rw [Option.map_eq_some_iff] at h
          obtain ⟨p, hp, e⟩ := h
          have := signs_len r p.1 p.2 hp
          cases e
          simp
          omega
        · cases h
def RObjPost (b : Nat) (t : ByteArray) (p k n : Nat) (w : World) (e : Ending) (w' : World) : Prop :=
  G b w w' ∧ ((∃ (er : Nat) (h : Hd), row 125 (oneField (value n)) [] k (rest t p) = .error er ∧ er ≠ 0 ∧ er < 100 ∧ e = .returned (.tuple #[rfV h (.slice none 0 0) (.slice none 0 0), .int .i64 er])) ∨
    ∃ (s : List (Bs × J n)) (k' q : Nat) (v : Value), row 125 (oneField (value n)) [] k (rest t p) = .ok (s, k', rest t q) ∧ p < q ∧ q ≤ t.size ∧ k' ≤ 200 ∧ e = .returned (.tuple #[v, .int .i64 0]) ∧ Rf b t q k' w' ∧ RSt (fun c => c < w.heap.size) w' (n + 1) (Sum.inr (Sum.inr s)) v)
set_option maxRecDepth 100000 in
set_option maxHeartbeats 8000000 in
theorem rfobj_any (n b : Nat) (t : ByteArray) (p k : Nat) (d : Int) (w : World) (hV : RValueOK n) (hdn : d + 1 + n = 10) (hd0 : 0 ≤ d) (h : Rf b t p k w) (hlt : p < t.size) (ht : t.size ≤ 2000) (hk : k ≤ 200) :
    Calls Tryz.prog 37 #[.pointer (some ⟨b, 0, none⟩), .int .i64 d] w (RObjPost b t p k n w) := by
  have hbw := h.lt
  have a1 := h.place
  have a2 := h.free 1
  obtain ⟨ws, hws⟩ : ∃ ws, ws = w.setCell ⟨b, 1, none⟩ (.int .i64 ((p : Int) + 1)) := ⟨_, rfl⟩
  have hRs : Rf b t (p + 1) k ws := by rw [hws]; exact h.move (p + 1)
  have hGs : G b w ws := by rw [hws]; exact (G.refl b w).setCell 1 _
  have hss : ws.heap.size = w.heap.size := by rw [hws]; exact heap_setCell_size _ _ _
  obtain ⟨w1, hw1⟩ : ∃ w1, w1 = (ws.alloc (.cells #[.int .i64 0, .bool false, .int .i64 0, .string ⟨#[]⟩, .slice none 0 0, .slice none 0 0] 25)).alloc (.cells #[.int .i64 6, .bool false, .int .i64 0, .string ⟨#[]⟩, .slice none 0 0, .slice none 0 0] 25) := ⟨_, rfl⟩
  have HR1 : Hid (Rf b t (p + 1) k w1) := by show Rf _ _ _ _ _; rw [hw1]; exact (hRs.alloc _).alloc _
  have HS1 : Hid (ObjAt b w ([] : List (Bs × J n)) (.slice none 0 0) (.slice none 0 0) w1) := by
    refine ⟨Or.inl ⟨rfl, rfl⟩, Or.inl ⟨rfl, rfl⟩, ?_, ?_, ?_, ?_⟩
    · rw [hw1, ← hss]
      exact (box_new ws ⟨0, false, 0, []⟩ _ _).below ((Below.refl _ _).alloc (Nat.le_refl _) _)
    · have := box_new (ws.alloc (.cells #[.int .i64 0, .bool false, .int .i64 0, .string ⟨#[]⟩, .slice none 0 0, .slice none 0 0] 25)) ⟨6, false, 0, []⟩ (.slice none 0 0) (.slice none 0 0)
      rw [hw1, ← hss]
      simpa using this
    · rw [hw1]; exact (hGs.alloc _).alloc _
    · rw [hw1, ← hss]; simp
  rw [hws] at hw1
  have HW1 : Hid (w1 = ((w.setCell ⟨b, 1, none⟩ (.int .i64 ((p : Int) + 1))).alloc (.cells #[.int .i64 0, .bool false, .int .i64 0, .string ⟨#[]⟩, .slice none 0 0, .slice none 0 0] 25)).alloc (.cells #[.int .i64 6, .bool false, .int .i64 0, .string ⟨#[]⟩, .slice none 0 0, .slice none 0 0] 25)) := hw1
  have HV : Hid (RValueOK n) := hV
  have HRow : Hid (row 125 (oneField (value n)) [] k (rest t p) = if hd (skip (rest t (p + 1))) = 125 then .ok ([], k, (skip (rest t (p + 1))).tail) else rowGo 125 (oneField (value n)) ((rest t p).length + 1) [] k (skip (rest t (p + 1)))) := by
    show row 125 (oneField (value n)) [] k (rest t p) = _
    rw [row, rest_tail]
  have HTL : Hid (∀ q, q ≤ t.size → (skip (rest t q)).tail = rest t (skipAt t q + 1)) := fun q hq => by rw [← rest_skip t q hq, rest_tail]
  have HSL : Hid (∀ q c, q ≤ t.size → hd (rest t (skipAt t q)) = c → c ≠ 0 → skipAt t q < t.size) := fun q c hq h hc => lt_of_hd (by rw [h]; exact hc)
  clear hw1 hws hRs hGs hss h hV
  unfold RObjPost
  generalize row 125 (oneField (value n)) [] k (rest t p) = res at *
  go_enter Tryz.func37, Tryz.ntmps37
  go_wp2_with fail
  rw [← HW1.out]
  clear a1 a2
  have hge := skipAt_ge t (p + 1) (by omega)
  have hle := skipAt_le t (p + 1)
  by_cases he : hd (rest t (skipAt t (p + 1))) = 125
  · have hs1 := HSL.out (p + 1) _ (by omega) he (by decide)
    have HE : Hid (hd (rest t (skipAt t (p + 1))) = 125) := he
    clear he
    refine (eat_yes b t (p + 1) k 125 w1 HR1.out (by omega) ht (by decide) HE.out).mono ?_
    rintro e w2 ⟨rfl, g2, r2⟩
    have HS2 : Hid (ObjAt b w ([] : List (Bs × J n)) (.slice none 0 0) (.slice none 0 0) w2) := HS1.out.go g2 hbw
    have HR2 : Hid (Rf b t (skipAt t (p + 1) + 1) k w2) := r2
    have HX : Hid (res = .ok ([], k, rest t (skipAt t (p + 1) + 1))) := by
      show res = _
      rw [HRow.out, if_pos (by rw [← rest_skip t (p + 1) (by omega)]; exact HE.out), HTL.out _ (by omega)]
    have HO : Hid (Box w2 (w.heap.size + 1) ⟨6, false, 0, []⟩ (.slice none 0 0) (.slice none 0 0)) := HS2.out.o
    have HZ : Hid (Box w2 w.heap.size ⟨0, false, 0, []⟩ (.slice none 0 0) (.slice none 0 0)) := HS2.out.z
    have o0 := HO.out.c0
    have o1 := HO.out.c1
    have o2 := HO.out.c2
    have o3 := HO.out.c3
    have o4 := HO.out.c4
    have o5 := HO.out.c5
    have f0 := HZ.out.free 0
    have f1 := HZ.out.free 1
    have f2 := HZ.out.free 2
    have f3 := HZ.out.free 3
    have f4 := HZ.out.free 4
    have f5 := HZ.out.free 5
    have z0 := HZ.out.c0
    have z1 := HZ.out.c1
    have z2 := HZ.out.c2
    have z3 := HZ.out.c3
    have z4 := HZ.out.c4
    have z5 := HZ.out.c5
    clear g2 r2
    go_wp2_with fail
    have e6 : Box (put6 w2 (w.heap.size) (.int .i64 6) (.bool false) (.int .i64 0) (.string ⟨#[]⟩) (.slice none 0 0) (.slice none 0 0)) (w.heap.size) ⟨6, false, 0, []⟩ (.slice none 0 0) (.slice none 0 0) := put6_box HZ.out ⟨6, false, 0, []⟩ (.slice none 0 0) (.slice none 0 0)
    have g6 := put6_grown w2 (w.heap.size) (.int .i64 6) (.bool false) (.int .i64 0) (.string ⟨#[]⟩) (.slice none 0 0) (.slice none 0 0)
    change bodyPost _ _ _ _ _ (put6 w2 (w.heap.size) _ _ _ _ _ _)
    generalize put6 w2 (w.heap.size) (.int .i64 6) (.bool false) (.int .i64 0) (.string ⟨#[]⟩) (.slice none 0 0) (.slice none 0 0) = W at *
    exact bodyPost_ret (v := .tuple #[rfV ⟨6, false, 0, []⟩ (.slice none 0 0) (.slice none 0 0), .int .i64 0]) (by simp [results, Tryz.results37, go_sem, rfV, e6.c0, e6.c1, e6.c2, e6.c3, e6.c4, e6.c5]) rfl ⟨HS2.out.g.grown g6 (fun k e => by cases e; omega), Or.inr ⟨[], k, skipAt t (p + 1) + 1, _, HX.out, by omega, by omega, hk, rfl, HR2.out.kept g6 (fun e => by cases e; omega), rst_mk (j := (Sum.inr (Sum.inr []) : J (n + 1))) (Or.inl ⟨rfl, rfl⟩) (Or.inl ⟨rfl, rfl⟩)⟩⟩
  have HR0 : Hid (res = rowGo 125 (oneField (value n)) ((rest t p).length + 1) [] k (rest t (skipAt t (p + 1)))) := by
    show res = _
    rw [HRow.out, rest_skip t (p + 1) (by omega), if_neg (by rw [← rest_skip t (p + 1) (by omega)]; exact he)]
  have HE : Hid (hd (rest t (skipAt t (p + 1))) ≠ 125) := he
  have hlen : (rest t p).length = t.size - p := rest_len t p
  clear he
  refine (eat_no b t (p + 1) k 125 w1 HR1.out (by omega) ht (by decide) HE.out).mono ?_
  rintro e w2 ⟨rfl, g2, r2⟩
  have HS2 : Hid (ObjAt b w ([] : List (Bs × J n)) (.slice none 0 0) (.slice none 0 0) w2) := HS1.out.go g2 hbw
  have HR2 : Hid (Rf b t (skipAt t (p + 1)) k w2) := r2
  clear g2 r2
  go_wp2_with fail
  go_loopw [36] (fun _ wr => ∃ (s : List (Bs × J n)) (k' q f : Nat) (vn vl : Value), q ≤ t.size ∧ k' ≤ 200 ∧ p < q ∧ t.size - q < f ∧ s.length ≤ k' ∧ res = rowGo 125 (oneField (value n)) f s k' (rest t q) ∧ ObjAt b w s vn vl wr ∧ Rf b t q k' wr) (fun _ wr => t.size - placeOf b wr)
  case atStart => exact ⟨[], k, skipAt t (p + 1), (rest t p).length + 1, _, _, hle, hk, by omega, by omega, Nat.zero_le _, HR0.out, HS2.out, HR2.out⟩
  case round =>
    obtain ⟨s, k', q, f, vn, vl, hq, hk', hpq, hf, hsk, hres, hS, hR⟩ := hrel
    obtain ⟨f, rfl⟩ : ∃ f', f = f' + 1 := ⟨f - 1, by omega⟩
    obtain ⟨pn, cn, hvn, hn1, hn2, _⟩ := hS.names.form
    obtain ⟨pl, cl, hvl, hl1, hl2, _⟩ := hS.vals.form
    rw [List.length_map] at hvn hvl
    subst hvn hvl
    have HRes : Hid (res = rowGo 125 (oneField (value n)) (f + 1) s k' (rest t q)) := hres
    have HS : Hid (ObjAt b w s (.slice pn s.length cn) (.slice pl s.length cl) wr) := hS
    have HR : Hid (Rf b t q k' wr) := hR
    have HPl : Hid (placeOf b wr = q) := hR.placeOf_eq
    clear hres hS hR HS2 HR2 HS1 HR1 HW1 hn1 hn2 hl1 hl2
    have hge1 := skipAt_ge t q hq
    have hle1 := skipAt_le t q
    go_wp2_with fail
    refine (look_any b t q k' wr HR.out hq ht).mono ?_
    rintro e w3 ⟨rfl, g3, r3⟩
    have HS3 : Hid (ObjAt b w s (.slice pn s.length cn) (.slice pl s.length cl) w3) := HS.out.go g3 hbw
    have HR3 : Hid (Rf b t (skipAt t q) k' w3) := r3
    clear g3 r3
    have HSk : Hid (rest t (skipAt t q) = skip (rest t q)) := rest_skip t q hq
    by_cases h34 : hd (rest t (skipAt t q)) = 34
    case neg =>
      have hne : (lookOf (rest t (skipAt t q)) != 34) = true := by
        rw [bne_iff_ne]
        intro e
        exact h34 ((look_is (by decide)).1 e)
      generalize lookOf (rest t (skipAt t q)) = lk at *
      have HX : Hid (res = .error 3) := by
        show res = _
        rw [HRes.out, rowGo, oneField, nameE, quoted, ← HSk.out, if_neg h34]
      clear h34
      have HZ : Hid (Box w3 w.heap.size ⟨0, false, 0, []⟩ (.slice none 0 0) (.slice none 0 0)) := HS3.out.z
      have f0 := HZ.out.free 0
      have f1 := HZ.out.free 1
      have f2 := HZ.out.free 2
      have f3 := HZ.out.free 3
      have f4 := HZ.out.free 4
      have f5 := HZ.out.free 5
      have z0 := HZ.out.c0
      have z1 := HZ.out.c1
      have z2 := HZ.out.c2
      have z3 := HZ.out.c3
      have z4 := HZ.out.c4
      have z5 := HZ.out.c5
      go_wp2_with fail
      have e6 : Box (put6 w3 (w.heap.size) (.int .i64 0) (.bool false) (.int .i64 0) (.string ⟨#[]⟩) (.slice none 0 0) (.slice none 0 0)) (w.heap.size) ⟨0, false, 0, []⟩ (.slice none 0 0) (.slice none 0 0) := put6_box HZ.out ⟨0, false, 0, []⟩ (.slice none 0 0) (.slice none 0 0)
      have g6 := put6_grown w3 (w.heap.size) (.int .i64 0) (.bool false) (.int .i64 0) (.string ⟨#[]⟩) (.slice none 0 0) (.slice none 0 0)
      change bodyPost _ _ _ _ _ (put6 w3 (w.heap.size) _ _ _ _ _ _)
      generalize put6 w3 (w.heap.size) (.int .i64 0) (.bool false) (.int .i64 0) (.string ⟨#[]⟩) (.slice none 0 0) (.slice none 0 0) = W at *
      exact bodyPost_ret (v := .tuple #[rfV ⟨0, false, 0, []⟩ (.slice none 0 0) (.slice none 0 0), .int .i64 3]) (by simp [results, Tryz.results37, go_sem, rfV, e6.c0, e6.c1, e6.c2, e6.c3, e6.c4, e6.c5]) rfl ⟨HS3.out.g.grown g6 (fun k e => by cases e; omega), Or.inl ⟨3, _, HX.out, by decide, by decide, rfl⟩⟩
    have hlt1 : skipAt t q < t.size := HSL.out q _ hq h34 (by decide)
    have heq : (lookOf (rest t (skipAt t q)) != 34) = false := by
      rw [bne_eq_false_iff_eq]
      exact (look_is (by decide)).2 h34
    have HQ : Hid (quoted (skip (rest t q)) = signs (rest t (skipAt t q + 1))) := by
      show quoted _ = _
      rw [quoted, ← HSk.out, if_pos h34, rest_tail]
    generalize lookOf (rest t (skipAt t q)) = lk at *
    clear h34
    go_wp2_with fail
    refine (rftext_any b t (skipAt t q) k' w3 HR3.out hlt1 ht).mono ?_
    rintro e w4 ⟨g4, h4⟩
    have HS4 : Hid (ObjAt b w s (.slice pn s.length cn) (.slice pl s.length cl) w4) := HS3.out.go g4 hbw
    clear g4
    rcases h4 with ⟨hsg, rfl⟩ | ⟨l, q2, hq2, hsg, rfl, hR4⟩
    · have HX : Hid (res = .error 3) := by
        show res = _
        rw [HRes.out, rowGo, oneField, nameE, HQ.out, hsg]
      clear hsg
      have HZ : Hid (Box w4 w.heap.size ⟨0, false, 0, []⟩ (.slice none 0 0) (.slice none 0 0)) := HS4.out.z
      have f0 := HZ.out.free 0
      have f1 := HZ.out.free 1
      have f2 := HZ.out.free 2
      have f3 := HZ.out.free 3
      have f4 := HZ.out.free 4
      have f5 := HZ.out.free 5
      have z0 := HZ.out.c0
      have z1 := HZ.out.c1
      have z2 := HZ.out.c2
      have z3 := HZ.out.c3
      have z4 := HZ.out.c4
      have z5 := HZ.out.c5
      go_wp2_with fail
      have e6 : Box (put6 w4 (w.heap.size) (.int .i64 0) (.bool false) (.int .i64 0) (.string ⟨#[]⟩) (.slice none 0 0) (.slice none 0 0)) (w.heap.size) ⟨0, false, 0, []⟩ (.slice none 0 0) (.slice none 0 0) := put6_box HZ.out ⟨0, false, 0, []⟩ (.slice none 0 0) (.slice none 0 0)
      have g6 := put6_grown w4 (w.heap.size) (.int .i64 0) (.bool false) (.int .i64 0) (.string ⟨#[]⟩) (.slice none 0 0) (.slice none 0 0)
      change bodyPost _ _ _ _ _ (put6 w4 (w.heap.size) _ _ _ _ _ _)
      generalize put6 w4 (w.heap.size) (.int .i64 0) (.bool false) (.int .i64 0) (.string ⟨#[]⟩) (.slice none 0 0) (.slice none 0 0) = W at *
      exact bodyPost_ret (v := .tuple #[rfV ⟨0, false, 0, []⟩ (.slice none 0 0) (.slice none 0 0), .int .i64 3]) (by simp [results, Tryz.results37, go_sem, rfV, e6.c0, e6.c1, e6.c2, e6.c3, e6.c4, e6.c5]) rfl ⟨HS4.out.g.grown g6 (fun k e => by cases e; omega), Or.inl ⟨3, _, HX.out, by decide, by decide, rfl⟩⟩
    have hlq : skipAt t q + 1 < q2 := by
      have := signs_len _ _ _ hsg
      rw [rest_len, rest_len] at this
      omega
    have HSg : Hid (signs (rest t (skipAt t q + 1)) = some (l, rest t q2)) := hsg
    have HR4 : Hid (Rf b t q2 k' w4) := hR4
    clear hsg hR4
    have HO : Hid (Box w4 (w.heap.size + 1) ⟨6, false, 0, []⟩ (.slice pn s.length cn) (.slice pl s.length cl)) := HS4.out.o
    have o0 := HO.out.c0
    have o1 := HO.out.c1
    have o2 := HO.out.c2
    have o3 := HO.out.c3
    have o4 := HO.out.c4
    have o5 := HO.out.c5
    go_wp2_with fail
    have hfind := rffind_any (fun c => c < w.heap.size + 2) s ⟨l.toArray⟩ (.slice pn s.length cn) (.slice pl s.length cl) w4 HS4.out.names HS4.out.vals
    unfold rfV at hfind
    refine Calls.mono hfind ?_
    rintro e w5 ⟨b5, h5⟩
    have HS5 : Hid (ObjAt b w s (.slice pn s.length cn) (.slice pl s.length cl) w5) := HS4.out.below b5
    have HR5 : Hid (Rf b t q2 k' w5) := HR4.out.below b5
    have HAny : Hid ((findF s l).isSome = s.any (fun f => f.1 == l)) := findF_any s l
    clear b5 o0 o1 o2 o3 o4 o5 HO hfind
    rcases h5 with ⟨hno, rfl⟩ | ⟨x, v, hyes, rfl, hst⟩
    case inr =>
      obtain ⟨nm1, l1, rfl⟩ := rst_form hst
      obtain ⟨⟨p1, n1, c1, rfl⟩, p2, n2, c2, rfl⟩ := rst_sl hst
      have HX : Hid (res = .error 5) := by
        show res = _
        rw [HRes.out, rowGo, oneField, nameE, HQ.out, HSg.out]
        simp only []
        rw [if_pos (by rw [← HAny.out]; rw [show findF s l = some x from by simpa using hyes]; rfl)]
      clear hyes hst
      unfold rfV
      have HZ6 : Hid (∀ o, Box (w5.alloc o) w.heap.size ⟨0, false, 0, []⟩ (.slice none 0 0) (.slice none 0 0)) := fun o => HS5.out.z.alloc o
      have f0 := fun o => (HZ6.out o).free 0
      have f1 := fun o => (HZ6.out o).free 1
      have f2 := fun o => (HZ6.out o).free 2
      have f3 := fun o => (HZ6.out o).free 3
      have f4 := fun o => (HZ6.out o).free 4
      have f5 := fun o => (HZ6.out o).free 5
      have z0 := fun o => (HZ6.out o).c0
      have z1 := fun o => (HZ6.out o).c1
      have z2 := fun o => (HZ6.out o).c2
      have z3 := fun o => (HZ6.out o).c3
      have z4 := fun o => (HZ6.out o).c4
      have z5 := fun o => (HZ6.out o).c5
      go_wp2_with fail
      have HZ : Hid (Box (w5.alloc (.cells #[.int .i64 (headJ n x).k, .bool (headJ n x).b, .int .i64 (headJ n x).i, .string ⟨(headJ n x).s.toArray⟩, .slice p1 n1 c1, .slice p2 n2 c2] 25)) w.heap.size ⟨0, false, 0, []⟩ (.slice none 0 0) (.slice none 0 0)) := HZ6.out _
      have HG : Hid (G b w (w5.alloc (.cells #[.int .i64 (headJ n x).k, .bool (headJ n x).b, .int .i64 (headJ n x).i, .string ⟨(headJ n x).s.toArray⟩, .slice p1 n1 c1, .slice p2 n2 c2] 25))) := HS5.out.g.alloc _
      generalize w5.alloc (.cells #[.int .i64 (headJ n x).k, .bool (headJ n x).b, .int .i64 (headJ n x).i, .string ⟨(headJ n x).s.toArray⟩, .slice p1 n1 c1, .slice p2 n2 c2] 25) = w6 at *
      have e6 : Box (put6 w6 (w.heap.size) (.int .i64 0) (.bool false) (.int .i64 0) (.string ⟨#[]⟩) (.slice none 0 0) (.slice none 0 0)) (w.heap.size) ⟨0, false, 0, []⟩ (.slice none 0 0) (.slice none 0 0) := put6_box HZ.out ⟨0, false, 0, []⟩ (.slice none 0 0) (.slice none 0 0)
      have g6 := put6_grown w6 (w.heap.size) (.int .i64 0) (.bool false) (.int .i64 0) (.string ⟨#[]⟩) (.slice none 0 0) (.slice none 0 0)
      change bodyPost _ _ _ _ _ (put6 w6 (w.heap.size) _ _ _ _ _ _)
      generalize put6 w6 (w.heap.size) (.int .i64 0) (.bool false) (.int .i64 0) (.string ⟨#[]⟩) (.slice none 0 0) (.slice none 0 0) = W at *
      exact bodyPost_ret (v := .tuple #[rfV ⟨0, false, 0, []⟩ (.slice none 0 0) (.slice none 0 0), .int .i64 5]) (by simp [results, Tryz.results37, go_sem, rfV, e6.c0, e6.c1, e6.c2, e6.c3, e6.c4, e6.c5]) rfl ⟨HG.out.grown g6 (fun k e => by cases e; omega), Or.inl ⟨5, _, HX.out, by decide, by decide, rfl⟩⟩
    have HNm : Hid (nameE s (rest t q) = if hd (skip (rest t q2)) = 58 then .ok (l, (skip (rest t q2)).tail) else .error eSyntax) := by
      show nameE _ _ = _
      rw [nameE, HQ.out, HSg.out]
      simp only []
      rw [if_neg (by rw [← HAny.out]; rw [show findF s l = none from by simpa using hno]; simp)]
    have HNo : Hid (∀ f ∈ s, f.1 ≠ l) := by
      intro f hf e
      have h9 := HAny.out
      rw [show findF s l = none from by simpa using hno] at h9
      have : s.any (fun f => f.1 == l) = true := List.any_eq_true.2 ⟨f, hf, by simpa using e⟩
      rw [this] at h9
      cases h9
    clear hno
    unfold rfV
    go_wp2_with fail
    have HS6 : Hid (ObjAt b w s (.slice pn s.length cn) (.slice pl s.length cl) (w5.alloc (.cells #[.int .i64 0, .bool false, .int .i64 0, .string ⟨#[]⟩, .slice none 0 0, .slice none 0 0] 25))) := HS5.out.alloc _
    have HR6 : Hid (Rf b t q2 k' (w5.alloc (.cells #[.int .i64 0, .bool false, .int .i64 0, .string ⟨#[]⟩, .slice none 0 0, .slice none 0 0] 25))) := HR5.out.alloc _
    generalize w5.alloc (.cells #[.int .i64 0, .bool false, .int .i64 0, .string ⟨#[]⟩, .slice none 0 0, .slice none 0 0] 25) = w6 at *
    have hge2 := skipAt_ge t q2 hq2
    have hle2 := skipAt_le t q2
    by_cases h58 : hd (rest t (skipAt t q2)) = 58
    case neg =>
      have HX : Hid (res = .error 3) := by
        show res = _
        rw [HRes.out, rowGo, oneField, HNm.out, if_neg (by rw [← rest_skip t q2 hq2]; exact h58)]
      have HE2 : Hid (hd (rest t (skipAt t q2)) ≠ 58) := h58
      clear h58
      refine (eat_no b t q2 k' 58 w6 HR6.out hq2 ht (by decide) HE2.out).mono ?_
      rintro e w7 ⟨rfl, g7, r7⟩
      have HS7 : Hid (ObjAt b w s (.slice pn s.length cn) (.slice pl s.length cl) w7) := HS6.out.go g7 hbw
      clear g7 r7
      have HZ : Hid (Box w7 w.heap.size ⟨0, false, 0, []⟩ (.slice none 0 0) (.slice none 0 0)) := HS7.out.z
      have f0 := HZ.out.free 0
      have f1 := HZ.out.free 1
      have f2 := HZ.out.free 2
      have f3 := HZ.out.free 3
      have f4 := HZ.out.free 4
      have f5 := HZ.out.free 5
      have z0 := HZ.out.c0
      have z1 := HZ.out.c1
      have z2 := HZ.out.c2
      have z3 := HZ.out.c3
      have z4 := HZ.out.c4
      have z5 := HZ.out.c5
      go_wp2_with fail
      have e6 : Box (put6 w7 (w.heap.size) (.int .i64 0) (.bool false) (.int .i64 0) (.string ⟨#[]⟩) (.slice none 0 0) (.slice none 0 0)) (w.heap.size) ⟨0, false, 0, []⟩ (.slice none 0 0) (.slice none 0 0) := put6_box HZ.out ⟨0, false, 0, []⟩ (.slice none 0 0) (.slice none 0 0)
      have g6 := put6_grown w7 (w.heap.size) (.int .i64 0) (.bool false) (.int .i64 0) (.string ⟨#[]⟩) (.slice none 0 0) (.slice none 0 0)
      change bodyPost _ _ _ _ _ (put6 w7 (w.heap.size) _ _ _ _ _ _)
      generalize put6 w7 (w.heap.size) (.int .i64 0) (.bool false) (.int .i64 0) (.string ⟨#[]⟩) (.slice none 0 0) (.slice none 0 0) = W at *
      exact bodyPost_ret (v := .tuple #[rfV ⟨0, false, 0, []⟩ (.slice none 0 0) (.slice none 0 0), .int .i64 3]) (by simp [results, Tryz.results37, go_sem, rfV, e6.c0, e6.c1, e6.c2, e6.c3, e6.c4, e6.c5]) rfl ⟨HS7.out.g.grown g6 (fun k e => by cases e; omega), Or.inl ⟨3, _, HX.out, by decide, by decide, rfl⟩⟩
    have hlt2 := HSL.out q2 _ hq2 h58 (by decide)
    have HNm2 : Hid (nameE s (rest t q) = .ok (l, rest t (skipAt t q2 + 1))) := by
      show nameE _ _ = _
      rw [HNm.out, if_pos (by rw [← rest_skip t q2 hq2]; exact h58), HTL.out q2 hq2]
    have HE2 : Hid (hd (rest t (skipAt t q2)) = 58) := h58
    clear h58
    refine (eat_yes b t q2 k' 58 w6 HR6.out hq2 ht (by decide) HE2.out).mono ?_
    rintro e w7 ⟨rfl, g7, r7⟩
    have HS7 : Hid (ObjAt b w s (.slice pn s.length cn) (.slice pl s.length cl) w7) := HS6.out.go g7 hbw
    have HR7 : Hid (Rf b t (skipAt t q2 + 1) k' w7) := r7
    clear g7 r7
    go_wp2_with fail
    refine (HV.out b t (skipAt t q2 + 1) k' (d + 1) w7 HR7.out (by omega) ht hk' hdn (by omega)).mono ?_
    rintro e w8 ⟨g8, h8⟩
    have HS8 : Hid (ObjAt b w s (.slice pn s.length cn) (.slice pl s.length cl) w8) := HS7.out.go g8 hbw
    have hz7 := HS7.out.size
    clear g8
    rcases h8 with ⟨er, hh, hv, her, her2, rfl⟩ | ⟨j, k2, q3, v, hv, hqq, hq3, hkk, hk2, rfl, hR8, hst⟩
    · have hbe : ((er : Int) != 0) = true := by rw [bne_iff_ne]; omega
      have HX : Hid (res = .error er) := by
        show res = _
        rw [HRes.out, rowGo, oneField, HNm2.out]
        simp only []
        rw [hv]
      unfold rfV
      have HZ6 : Hid (∀ o, Box (w8.alloc o) w.heap.size ⟨0, false, 0, []⟩ (.slice none 0 0) (.slice none 0 0)) := fun o => HS8.out.z.alloc o
      have f0 := fun o => (HZ6.out o).free 0
      have f1 := fun o => (HZ6.out o).free 1
      have f2 := fun o => (HZ6.out o).free 2
      have f3 := fun o => (HZ6.out o).free 3
      have f4 := fun o => (HZ6.out o).free 4
      have f5 := fun o => (HZ6.out o).free 5
      have z0 := fun o => (HZ6.out o).c0
      have z1 := fun o => (HZ6.out o).c1
      have z2 := fun o => (HZ6.out o).c2
      have z3 := fun o => (HZ6.out o).c3
      have z4 := fun o => (HZ6.out o).c4
      have z5 := fun o => (HZ6.out o).c5
      clear hv
      go_wp2_with fail
      have HZ : Hid (Box (w8.alloc (.cells #[.int .i64 hh.k, .bool hh.b, .int .i64 hh.i, .string ⟨hh.s.toArray⟩, .slice none 0 0, .slice none 0 0] 25)) w.heap.size ⟨0, false, 0, []⟩ (.slice none 0 0) (.slice none 0 0)) := HZ6.out _
      have HG : Hid (G b w (w8.alloc (.cells #[.int .i64 hh.k, .bool hh.b, .int .i64 hh.i, .string ⟨hh.s.toArray⟩, .slice none 0 0, .slice none 0 0] 25))) := HS8.out.g.alloc _
      generalize w8.alloc (.cells #[.int .i64 hh.k, .bool hh.b, .int .i64 hh.i, .string ⟨hh.s.toArray⟩, .slice none 0 0, .slice none 0 0] 25) = w9 at *
      have e6 : Box (put6 w9 (w.heap.size) (.int .i64 0) (.bool false) (.int .i64 0) (.string ⟨#[]⟩) (.slice none 0 0) (.slice none 0 0)) (w.heap.size) ⟨0, false, 0, []⟩ (.slice none 0 0) (.slice none 0 0) := put6_box HZ.out ⟨0, false, 0, []⟩ (.slice none 0 0) (.slice none 0 0)
      have g6 := put6_grown w9 (w.heap.size) (.int .i64 0) (.bool false) (.int .i64 0) (.string ⟨#[]⟩) (.slice none 0 0) (.slice none 0 0)
      change bodyPost _ _ _ _ _ (put6 w9 (w.heap.size) _ _ _ _ _ _)
      generalize put6 w9 (w.heap.size) (.int .i64 0) (.bool false) (.int .i64 0) (.string ⟨#[]⟩) (.slice none 0 0) (.slice none 0 0) = W at *
      exact bodyPost_ret (v := .tuple #[rfV ⟨0, false, 0, []⟩ (.slice none 0 0) (.slice none 0 0), .int .i64 er]) (by simp [results, Tryz.results37, go_sem, rfV, e6.c0, e6.c1, e6.c2, e6.c3, e6.c4, e6.c5]) rfl ⟨HG.out.grown g6 (fun k e => by cases e; omega), Or.inl ⟨er, _, HX.out, her, her2, rfl⟩⟩
    obtain ⟨nm1, l1, rfl⟩ := rst_form hst
    obtain ⟨⟨p1, n1, c1, rfl⟩, p2, n2, c2, rfl⟩ := rst_sl hst
    have HOne : Hid (oneField (value n) s k' (rest t q) = .ok (insertAt s l j, k2, rest t q3)) := by
      show oneField _ _ _ _ = _
      rw [oneField, HNm2.out]
      simp only []
      rw [hv]
    have HR9 : Hid (Rf b t q3 k2 (w8.alloc (.cells #[.int .i64 (headJ n j).k, .bool (headJ n j).b, .int .i64 (headJ n j).i, .string ⟨(headJ n j).s.toArray⟩, .slice p1 n1 c1, .slice p2 n2 c2] 25))) := hR8.alloc _
    have HS9 : Hid (ObjAt b w s (.slice pn s.length cn) (.slice pl s.length cl) (w8.alloc (.cells #[.int .i64 (headJ n j).k, .bool (headJ n j).b, .int .i64 (headJ n j).i, .string ⟨(headJ n j).s.toArray⟩, .slice p1 n1 c1, .slice p2 n2 c2] 25))) := HS8.out.alloc _
    have HSt9 : Hid (RSt (fun c => c < w.heap.size + 2) (w8.alloc (.cells #[.int .i64 (headJ n j).k, .bool (headJ n j).b, .int .i64 (headJ n j).i, .string ⟨(headJ n j).s.toArray⟩, .slice p1 n1 c1, .slice p2 n2 c2] 25)) n j (rfV (headJ n j) (.slice p1 n1 c1) (.slice p2 n2 c2))) := (hst.wide (fun c e => Or.inl (by omega))).alloc _
    have HV9 : Hid (Box (w8.alloc (.cells #[.int .i64 (headJ n j).k, .bool (headJ n j).b, .int .i64 (headJ n j).i, .string ⟨(headJ n j).s.toArray⟩, .slice p1 n1 c1, .slice p2 n2 c2] 25)) w8.heap.size (headJ n j) (.slice p1 n1 c1) (.slice p2 n2 c2)) := box_new w8 _ _ _
    clear hv hst hR8
    unfold rfV
    go_upto_region 18 with fail
    obtain ⟨v8, hv8⟩ : ∃ v8, v8 = w8.heap.size := ⟨_, rfl⟩
    rw [← hv8] at HV9 ⊢
    clear hv8
    generalize w8.alloc (.cells #[.int .i64 (headJ n j).k, .bool (headJ n j).b, .int .i64 (headJ n j).i, .string ⟨(headJ n j).s.toArray⟩, .slice p1 n1 c1, .slice p2 n2 c2] 25) = w9 at *
    have HO : Hid (Box w9 (w.heap.size + 1) ⟨6, false, 0, []⟩ (.slice pn s.length cn) (.slice pl s.length cl)) := HS9.out.o
    have o0 := HO.out.c0
    have o1 := HO.out.c1
    have o2 := HO.out.c2
    have o3 := HO.out.c3
    have o4 := HO.out.c4
    have o5 := HO.out.c5
    have j0 := HV9.out.c0
    have j1 := HV9.out.c1
    have j2 := HV9.out.c2
    have j3 := HV9.out.c3
    have j4 := HV9.out.c4
    have j5 := HV9.out.c5
    go_wp2_with fail
    have hset := rfset_any (fun c => c < w.heap.size + 2) s ⟨l.toArray⟩ j (.slice pn s.length cn) (.slice pl s.length cl) (rfV (headJ n j) (.slice p1 n1 c1) (.slice p2 n2 c2)) w9 HS9.out.names HS9.out.vals HSt9.out (fun c hc h9 => by have := HS9.out.size; omega) (by omega)
    unfold rfV at hset
    refine Calls.mono hset ?_
    rintro e w10 ⟨b10, vn', vl', he, hn10, hl10⟩
    unfold rfV at he
    subst he
    have hle3 : (setF s l j) = insertAt s l j := setF_new l j s HNo.out
    rw [show (⟨l.toArray⟩ : ByteArray).data.toList = l from by simp, hle3] at hn10 hl10
    obtain ⟨pn', cn', hvn', _, _, _⟩ := hn10.form
    obtain ⟨pl', cl', hvl', _, _, _⟩ := hl10.form
    rw [List.length_map] at hvn' hvl'
    subst hvn' hvl'
    have HS10 : Hid (ObjAt b w s (.slice pn s.length cn) (.slice pl s.length cl) w10) := HS9.out.below b10
    have HR10 : Hid (Rf b t q3 k2 w10) := HR9.out.below b10
    have HN10 : Hid (RStrs (fun c => c < w.heap.size + 2) w10 ((insertAt s l j).map fun f => f.1) (.slice pn' (insertAt s l j).length cn')) := hn10
    have HL10 : Hid (RVals (fun c => c < w.heap.size + 2) w10 n ((insertAt s l j).map fun f => f.2) (.slice pl' (insertAt s l j).length cl')) := hl10
    have HIl : Hid ((insertAt s l j).length = s.length + 1) := by
      show (insertAt s l j).length = s.length + 1
      have := congrArg List.length (List.takeWhile_append_dropWhile (p := fun f : Bs × J n => less f.1 l) (l := s))
      rw [List.length_append] at this
      unfold insertAt
      rw [List.length_append, List.length_cons]
      omega
    clear b10 hset hle3 hn10 hl10 o0 o1 o2 o3 o4 o5 j0 j1 j2 j3 j4 j5 HO HV9
    generalize insertAt s l j = s' at *
    have HO : Hid (Box w10 (w.heap.size + 1) ⟨6, false, 0, []⟩ (.slice pn s.length cn) (.slice pl s.length cl)) := HS10.out.o
    have o0 := HO.out.c0
    have o1 := HO.out.c1
    have o2 := HO.out.c2
    have o3 := HO.out.c3
    have o4 := HO.out.c4
    have o5 := HO.out.c5
    have f0 := HO.out.free 0
    have f1 := HO.out.free 1
    have f2 := HO.out.free 2
    have f3 := HO.out.free 3
    have f4 := HO.out.free 4
    have f5 := HO.out.free 5
    go_wp2_with fail
    have HS11 : Hid (ObjAt b w s' (.slice pn' s'.length cn') (.slice pl' s'.length cl') (put6 w10 (w.heap.size + 1) (.int .i64 6) (.bool false) (.int .i64 0) (.string ⟨#[]⟩) (.slice pn' s'.length cn') (.slice pl' s'.length cl'))) := HS10.out.put HN10.out HL10.out
    have HR11 : Hid (Rf b t q3 k2 (put6 w10 (w.heap.size + 1) (.int .i64 6) (.bool false) (.int .i64 0) (.string ⟨#[]⟩) (.slice pn' s'.length cn') (.slice pl' s'.length cl'))) := HR10.out.kept (put6_grown _ _ _ _ _ _ _ _) (fun e => by cases e; omega)
    change Calls _ _ _ (put6 w10 (w.heap.size + 1) (.int .i64 6) (.bool false) (.int .i64 0) (.string ⟨#[]⟩) (.slice pn' s'.length cn') (.slice pl' s'.length cl')) _
    generalize put6 w10 (w.heap.size + 1) (.int .i64 6) (.bool false) (.int .i64 0) (.string ⟨#[]⟩) (.slice pn' s'.length cn') (.slice pl' s'.length cl') = w11 at *
    clear o0 o1 o2 o3 o4 o5 f0 f1 f2 f3 f4 f5 HO
    have hge3 := skipAt_ge t q3 hq3
    have hle3 := skipAt_le t q3
    have HRg : Hid (res = if hd (rest t (skipAt t q3)) = 125 then .ok (s', k2, rest t (skipAt t q3 + 1)) else if hd (rest t (skipAt t q3)) = 44 then rowGo 125 (oneField (value n)) f s' k2 (rest t (skipAt t q3 + 1)) else .error eSyntax) := by
      show res = _
      rw [HRes.out, rowGo, HOne.out]
      simp only []
      rw [HTL.out q3 hq3, rest_skip t q3 hq3]
    by_cases he : hd (rest t (skipAt t q3)) = 125
    · have hs1 := HSL.out q3 _ hq3 he (by decide)
      have HX : Hid (res = .ok (s', k2, rest t (skipAt t q3 + 1))) := by
        show res = _
        rw [HRg.out, if_pos he]
      have HE3 : Hid (hd (rest t (skipAt t q3)) = 125) := he
      clear he
      refine (eat_yes b t q3 k2 125 w11 HR11.out hq3 ht (by decide) HE3.out).mono ?_
      rintro e w12 ⟨rfl, g12, r12⟩
      have HS12 : Hid (ObjAt b w s' (.slice pn' s'.length cn') (.slice pl' s'.length cl') w12) := HS11.out.go g12 hbw
      have HR12 : Hid (Rf b t (skipAt t q3 + 1) k2 w12) := r12
      have HO : Hid (Box w12 (w.heap.size + 1) ⟨6, false, 0, []⟩ (.slice pn' s'.length cn') (.slice pl' s'.length cl')) := HS12.out.o
      have HZ : Hid (Box w12 w.heap.size ⟨0, false, 0, []⟩ (.slice none 0 0) (.slice none 0 0)) := HS12.out.z
      have o0 := HO.out.c0
      have o1 := HO.out.c1
      have o2 := HO.out.c2
      have o3 := HO.out.c3
      have o4 := HO.out.c4
      have o5 := HO.out.c5
      have f0 := HZ.out.free 0
      have f1 := HZ.out.free 1
      have f2 := HZ.out.free 2
      have f3 := HZ.out.free 3
      have f4 := HZ.out.free 4
      have f5 := HZ.out.free 5
      have z0 := HZ.out.c0
      have z1 := HZ.out.c1
      have z2 := HZ.out.c2
      have z3 := HZ.out.c3
      have z4 := HZ.out.c4
      have z5 := HZ.out.c5
      clear g12 r12
      go_wp2_with fail
      have e6 : Box (put6 w12 (w.heap.size) (.int .i64 6) (.bool false) (.int .i64 0) (.string ⟨#[]⟩) (.slice pn' s'.length cn') (.slice pl' s'.length cl')) (w.heap.size) ⟨6, false, 0, []⟩ (.slice pn' s'.length cn') (.slice pl' s'.length cl') := put6_box HZ.out ⟨6, false, 0, []⟩ (.slice pn' s'.length cn') (.slice pl' s'.length cl')
      have g6 := put6_grown w12 (w.heap.size) (.int .i64 6) (.bool false) (.int .i64 0) (.string ⟨#[]⟩) (.slice pn' s'.length cn') (.slice pl' s'.length cl')
      change bodyPost _ _ _ _ _ (put6 w12 (w.heap.size) _ _ _ _ _ _)
      generalize put6 w12 (w.heap.size) (.int .i64 6) (.bool false) (.int .i64 0) (.string ⟨#[]⟩) (.slice pn' s'.length cn') (.slice pl' s'.length cl') = W at *
      exact bodyPost_ret (v := .tuple #[rfV ⟨6, false, 0, []⟩ (.slice pn' s'.length cn') (.slice pl' s'.length cl'), .int .i64 0]) (by simp [results, Tryz.results37, go_sem, rfV, e6.c0, e6.c1, e6.c2, e6.c3, e6.c4, e6.c5]) rfl ⟨HS12.out.g.grown g6 (fun k e => by cases e; omega), Or.inr ⟨s', k2, skipAt t q3 + 1, _, HX.out, by omega, by omega, hk2, rfl, HR12.out.kept g6 (fun e => by cases e; omega), rst_mk (j := (Sum.inr (Sum.inr s') : J (n + 1))) ((HS12.out.names.grown g6 (fun k e => by cases e; omega)).move (Nat.le_refl _) (fun _ _ _ => rfl) (fun c hc hn => by omega)) ((HS12.out.vals.grown g6 (fun k e => by cases e; omega)).move (Nat.le_refl _) (fun _ _ _ => rfl) (fun c hc hn => by omega))⟩⟩
    have HE3 : Hid (hd (rest t (skipAt t q3)) ≠ 125) := he
    have HX1 : Hid (res = if hd (rest t (skipAt t q3)) = 44 then rowGo 125 (oneField (value n)) f s' k2 (rest t (skipAt t q3 + 1)) else .error eSyntax) := by
      show res = _
      rw [HRg.out, if_neg he]
    clear he
    refine (eat_no b t q3 k2 125 w11 HR11.out hq3 ht (by decide) HE3.out).mono ?_
    rintro e w12 ⟨rfl, g12, r12⟩
    have HS12 : Hid (ObjAt b w s' (.slice pn' s'.length cn') (.slice pl' s'.length cl') w12) := HS11.out.go g12 hbw
    have HR12 : Hid (Rf b t (skipAt t q3) k2 w12) := r12
    have hsk3 : skipAt t (skipAt t q3) = skipAt t q3 := skipAt_skipAt t q3 hq3
    clear g12 r12
    go_wp2_with fail
    by_cases he : hd (rest t (skipAt t q3)) = 44
    · have hs1 := HSL.out q3 _ hq3 he (by decide)
      have HX : Hid (res = rowGo 125 (oneField (value n)) f s' k2 (rest t (skipAt t q3 + 1))) := by
        show res = _
        rw [HX1.out, if_pos he]
      have HE4 : Hid (hd (rest t (skipAt t (skipAt t q3))) = 44) := by show hd _ = 44; rw [hsk3]; exact he
      clear he
      refine (eat_yes b t (skipAt t q3) k2 44 w12 HR12.out hle3 ht (by decide) HE4.out).mono ?_
      rintro e w13 ⟨rfl, g13, r13⟩
      rw [hsk3] at r13
      have HS13 : Hid (ObjAt b w s' (.slice pn' s'.length cn') (.slice pl' s'.length cl') w13) := HS12.out.go g13 hbw
      have HR13 : Hid (Rf b t (skipAt t q3 + 1) k2 w13) := r13
      clear g13 r13
      go_wp2_with fail
      go_roundw
      case rel => exact ⟨s', k2, skipAt t q3 + 1, f, _, _, by omega, hk2, by omega, by omega, by have := HIl.out; omega, HX.out, HS13.out, HR13.out⟩
      case measure => rw [HR13.out.placeOf_eq, HPl.out]; omega
    · have HX : Hid (res = .error 3) := by
        show res = _
        rw [HX1.out, if_neg he]
      have HE4 : Hid (hd (rest t (skipAt t (skipAt t q3))) ≠ 44) := by show hd _ ≠ 44; rw [hsk3]; exact he
      clear he
      refine (eat_no b t (skipAt t q3) k2 44 w12 HR12.out hle3 ht (by decide) HE4.out).mono ?_
      rintro e w13 ⟨rfl, g13, r13⟩
      have HS13 : Hid (ObjAt b w s' (.slice pn' s'.length cn') (.slice pl' s'.length cl') w13) := HS12.out.go g13 hbw
      clear g13 r13
      have HZ : Hid (Box w13 w.heap.size ⟨0, false, 0, []⟩ (.slice none 0 0) (.slice none 0 0)) := HS13.out.z
      have f0 := HZ.out.free 0
      have f1 := HZ.out.free 1
      have f2 := HZ.out.free 2
      have f3 := HZ.out.free 3
      have f4 := HZ.out.free 4
      have f5 := HZ.out.free 5
      have z0 := HZ.out.c0
      have z1 := HZ.out.c1
      have z2 := HZ.out.c2
      have z3 := HZ.out.c3
      have z4 := HZ.out.c4
      have z5 := HZ.out.c5
      go_wp2_with fail
      have e6 : Box (put6 w13 (w.heap.size) (.int .i64 0) (.bool false) (.int .i64 0) (.string ⟨#[]⟩) (.slice none 0 0) (.slice none 0 0)) (w.heap.size) ⟨0, false, 0, []⟩ (.slice none 0 0) (.slice none 0 0) := put6_box HZ.out ⟨0, false, 0, []⟩ (.slice none 0 0) (.slice none 0 0)
      have g6 := put6_grown w13 (w.heap.size) (.int .i64 0) (.bool false) (.int .i64 0) (.string ⟨#[]⟩) (.slice none 0 0) (.slice none 0 0)
      change bodyPost _ _ _ _ _ (put6 w13 (w.heap.size) _ _ _ _ _ _)
      generalize put6 w13 (w.heap.size) (.int .i64 0) (.bool false) (.int .i64 0) (.string ⟨#[]⟩) (.slice none 0 0) (.slice none 0 0) = W at *
      exact bodyPost_ret (v := .tuple #[rfV ⟨0, false, 0, []⟩ (.slice none 0 0) (.slice none 0 0), .int .i64 3]) (by simp [results, Tryz.results37, go_sem, rfV, e6.c0, e6.c1, e6.c2, e6.c3, e6.c4, e6.c5]) rfl ⟨HS13.out.g.grown g6 (fun k e => by cases e; omega), Or.inl ⟨3, _, HX.out, by decide, by decide, rfl⟩⟩
end Go.Proofs.YtaogilpkeeigoaaGreatDoor
