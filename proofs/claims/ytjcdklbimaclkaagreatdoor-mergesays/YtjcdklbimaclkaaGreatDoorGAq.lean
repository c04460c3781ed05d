import Derived.Test.YtjcdklbimaclkaaGreatDoorGAc
import Derived.Test.YtjcdklbimaclkaaGreatDoorGAp
import Derived.Deep.RegionWith
import Derived.RegionTactic
import Derived.Test.YtjcdklbimaclkaaGreatDoorGAn
import Derived.Test.YtjcdklbimaclkaaGreatDoorGAo
namespace Go.Proofs.YtjcdklbimaclkaaGreatDoor
open Go.RowKit
set_option linter.unusedVariables false
set_option linter.unusedSimpArgs false
def hdEq (h g : Hd) : Bool := decide (h.k = g.k) && (decide (h.b = g.b) && (decide (h.i = g.i) && decide (h.s = g.s)))
def sameR : (n : Nat) -> J n -> J n -> Bool
 | 0, a, b => hdEq (headL a) (headL b)
 | n + 1, a, b => hdEq (headJ (n + 1) a) (headJ (n + 1) b) && (decide (namesJ a = namesJ b) && (decide ((kids a).length = (kids b).length) && ((kids a).zip (kids b)).all fun p => sameR n p.1 p.2))
def RSameOK (n : Nat) : Prop := ∀ (av av' : Nat -> Prop) (j i : J n) (v u : Value) (w : World), RSt av w n j v -> RSt av' w n i u ->
 Calls Tryz.prog 42 #[v, u] w fun e w' => e = .returned (.bool (sameR n j i)) /\ Below w.heap.size w w'
def partsR {n : Nat} (h g : Hd) (A B : List Bs) (xs ys : List (J n)) : Bool :=
 hdEq h g && (decide (A = B) && (decide (xs.length = ys.length) && (xs.zip ys).all fun p => sameR n p.1 p.2))
theorem parts_at {n : Nat} {h g : Hd} {A B : List Bs} {xs ys : List (J n)} {k : Nat} {x y : J n} (hx : xs[k]? = some x) (hy : ys[k]? = some y) (hs : sameR n x y = false) : partsR h g A B xs ys = false := by
 have : ((xs.zip ys).all fun p => sameR n p.1 p.2) = false := by
  rw [List.all_eq_false]
  refine ⟨(x, y), ?_, by simp [hs]⟩
  refine List.mem_of_getElem? (i := k) ?_
  rw [List.getElem?_zip_eq_some]
  exact ⟨hx, hy⟩
 simp [partsR, this]
theorem parts_all {n : Nat} {h g : Hd} {A B : List Bs} {xs ys : List (J n)} (h1 : h.k = g.k) (h2 : h.b = g.b) (h3 : h.i = g.i) (h4 : h.s = g.s) (h5 : A = B) (h6 : xs.length = ys.length) (ha : ∀ (k : Nat) (x y : J n), xs[k]? = some x -> ys[k]? = some y -> sameR n x y = true) : partsR h g A B xs ys = true := by
 have : ((xs.zip ys).all fun p => sameR n p.1 p.2) = true := by
  rw [List.all_eq_true]
  intro p hp
  obtain ⟨k, hk⟩ := List.getElem?_of_mem hp
  obtain ⟨a, b⟩ := List.getElem?_zip_eq_some.1 hk
  exact ha k _ _ a b
 simp only [partsR, hdEq, h1, h2, h3, h4, h5, h6, this, decide_true, Bool.and_true]
theorem ba_injS {a b : Bs} : ((⟨a.toArray⟩ : ByteArray).toList == (⟨b.toArray⟩ : ByteArray).toList) = (a == b) := by
 rw [ByteArray.toList_eq, ByteArray.toList_eq]
set_option maxRecDepth 100000 in
set_option maxHeartbeats 2000000 in
theorem rfsame_h1 (n : Nat) (av av' : Nat -> Prop) (h g : Hd) (A B : List Bs) (xs ys : List (J n)) (va vl ua ul : Value) (w : World) (hA : RStrs av w A va) (hB : RStrs av' w B ua) (hL : RVals av w n xs vl) (hM : RVals av' w n ys ul) (h1 : h.k ≠ g.k) :
  Calls Tryz.prog 42 #[rfV h va vl, rfV g ua ul] w fun e w' => e = .returned (.bool (partsR h g A B xs ys)) /\ Below w.heap.size w w' := by
 have HX : Hid (partsR h g A B xs ys = false) := by show _ = false; simp [partsR, hdEq, h1]
 obtain ⟨pa, ca, rfl, ha1, ha2, ha3⟩ := hA.form
 obtain ⟨pb, cb, rfl, hb1, hb2, hb3⟩ := hB.form
 obtain ⟨pl, cl, rfl, hl1, hl2, hl3⟩ := hL.form
 obtain ⟨pm, cm, rfl, hm1, hm2, hm3⟩ := hM.form
 generalize partsR h g A B xs ys = res at *
 obtain ⟨k1, b1, i1, s1⟩ := h
 obtain ⟨k2, b2, i2, s2⟩ := g
 dsimp only at h1
 have q1 : ((k1 : Int) != (k2 : Int)) = true := by rw [bne_iff_ne]; omega
 clear h1 hA hB hL hM ha3 hb3 hl3 hm3
 unfold rfV
 go_enter Tryz.func42, Tryz.ntmps42
 go_wp2_with fail
 go_ret
 exact ⟨by rw [HX.out]; rfl, ((Below.refl _ _).alloc (Nat.le_refl _) _).alloc (by simp) _⟩
set_option maxRecDepth 100000 in
set_option maxHeartbeats 2000000 in
theorem rfsame_h2 (n : Nat) (av av' : Nat -> Prop) (h g : Hd) (A B : List Bs) (xs ys : List (J n)) (va vl ua ul : Value) (w : World) (hA : RStrs av w A va) (hB : RStrs av' w B ua) (hL : RVals av w n xs vl) (hM : RVals av' w n ys ul) (h1 : h.k = g.k) (h2 : h.b ≠ g.b) :
  Calls Tryz.prog 42 #[rfV h va vl, rfV g ua ul] w fun e w' => e = .returned (.bool (partsR h g A B xs ys)) /\ Below w.heap.size w w' := by
 have HX : Hid (partsR h g A B xs ys = false) := by show _ = false; simp [partsR, hdEq, h2]
 obtain ⟨pa, ca, rfl, ha1, ha2, ha3⟩ := hA.form
 obtain ⟨pb, cb, rfl, hb1, hb2, hb3⟩ := hB.form
 obtain ⟨pl, cl, rfl, hl1, hl2, hl3⟩ := hL.form
 obtain ⟨pm, cm, rfl, hm1, hm2, hm3⟩ := hM.form
 generalize partsR h g A B xs ys = res at *
 obtain ⟨k1, b1, i1, s1⟩ := h
 obtain ⟨k2, b2, i2, s2⟩ := g
 dsimp only at h1 h2
 subst h1
 clear hA hB hL hM ha3 hb3 hl3 hm3
 cases b1 <;> cases b2
 ·exact absurd rfl h2
 ·clear h2
  unfold rfV
  go_enter Tryz.func42, Tryz.ntmps42
  go_wp2_with fail
  go_ret
  exact ⟨by rw [HX.out]; rfl, ((Below.refl _ _).alloc (Nat.le_refl _) _).alloc (by simp) _⟩
 ·clear h2
  unfold rfV
  go_enter Tryz.func42, Tryz.ntmps42
  go_wp2_with fail
  go_ret
  exact ⟨by rw [HX.out]; rfl, ((Below.refl _ _).alloc (Nat.le_refl _) _).alloc (by simp) _⟩
 ·exact absurd rfl h2
set_option maxRecDepth 100000 in
set_option maxHeartbeats 2000000 in
theorem rfsame_h3 (n : Nat) (av av' : Nat -> Prop) (h g : Hd) (A B : List Bs) (xs ys : List (J n)) (va vl ua ul : Value) (w : World) (hA : RStrs av w A va) (hB : RStrs av' w B ua) (hL : RVals av w n xs vl) (hM : RVals av' w n ys ul) (h1 : h.k = g.k) (h2 : h.b = g.b) (h3 : h.i ≠ g.i) :
  Calls Tryz.prog 42 #[rfV h va vl, rfV g ua ul] w fun e w' => e = .returned (.bool (partsR h g A B xs ys)) /\ Below w.heap.size w w' := by
 have HX : Hid (partsR h g A B xs ys = false) := by show _ = false; simp [partsR, hdEq, h3]
 obtain ⟨pa, ca, rfl, ha1, ha2, ha3⟩ := hA.form
 obtain ⟨pb, cb, rfl, hb1, hb2, hb3⟩ := hB.form
 obtain ⟨pl, cl, rfl, hl1, hl2, hl3⟩ := hL.form
 obtain ⟨pm, cm, rfl, hm1, hm2, hm3⟩ := hM.form
 generalize partsR h g A B xs ys = res at *
 obtain ⟨k1, b1, i1, s1⟩ := h
 obtain ⟨k2, b2, i2, s2⟩ := g
 dsimp only at h1 h2 h3
 subst h1 h2
 have q3 : (i1 != i2) = true := by rw [bne_iff_ne]; exact h3
 clear h3 hA hB hL hM ha3 hb3 hl3 hm3
 unfold rfV
 go_enter Tryz.func42, Tryz.ntmps42
 go_wp2_with fail
 go_ret
 exact ⟨by rw [HX.out]; rfl, ((Below.refl _ _).alloc (Nat.le_refl _) _).alloc (by simp) _⟩
set_option maxRecDepth 100000 in
set_option maxHeartbeats 2000000 in
theorem rfsame_h4 (n : Nat) (av av' : Nat -> Prop) (h g : Hd) (A B : List Bs) (xs ys : List (J n)) (va vl ua ul : Value) (w : World) (hA : RStrs av w A va) (hB : RStrs av' w B ua) (hL : RVals av w n xs vl) (hM : RVals av' w n ys ul) (h1 : h.k = g.k) (h2 : h.b = g.b) (h3 : h.i = g.i) (h4 : h.s ≠ g.s) :
  Calls Tryz.prog 42 #[rfV h va vl, rfV g ua ul] w fun e w' => e = .returned (.bool (partsR h g A B xs ys)) /\ Below w.heap.size w w' := by
 have HX : Hid (partsR h g A B xs ys = false) := by show _ = false; simp [partsR, hdEq, h4]
 obtain ⟨pa, ca, rfl, ha1, ha2, ha3⟩ := hA.form
 obtain ⟨pb, cb, rfl, hb1, hb2, hb3⟩ := hB.form
 obtain ⟨pl, cl, rfl, hl1, hl2, hl3⟩ := hL.form
 obtain ⟨pm, cm, rfl, hm1, hm2, hm3⟩ := hM.form
 generalize partsR h g A B xs ys = res at *
 obtain ⟨k1, b1, i1, s1⟩ := h
 obtain ⟨k2, b2, i2, s2⟩ := g
 dsimp only at h1 h2 h3 h4
 subst h1 h2 h3
 have q4 : (((⟨s1.toArray⟩ : ByteArray).toList == (⟨s2.toArray⟩ : ByteArray).toList) = false) := by rw [ba_injS, beq_eq_false_iff_ne]; exact h4
 clear h4 hA hB hL hM ha3 hb3 hl3 hm3
 unfold rfV
 dsimp only
 generalize (⟨s1.toArray⟩ : ByteArray) = t1 at *
 generalize (⟨s2.toArray⟩ : ByteArray) = t2 at *
 go_enter Tryz.func42, Tryz.ntmps42
 go_wp2_with fail
 go_ret
 exact ⟨by rw [HX.out]; rfl, ((Below.refl _ _).alloc (Nat.le_refl _) _).alloc (by simp) _⟩
set_option maxRecDepth 100000 in
set_option maxHeartbeats 2000000 in
theorem rfsame_names (n : Nat) (av av' : Nat -> Prop) (h : Hd) (A B : List Bs) (xs ys : List (J n)) (va vl ua ul : Value) (w : World) (ih : True) (hA : RStrs av w A va) (hB : RStrs av' w B ua) (hL : RVals av w n xs vl) (hM : RVals av' w n ys ul) (h5 : A ≠ B) :
  Calls Tryz.prog 42 #[rfV h va vl, rfV h ua ul] w fun e w' => e = .returned (.bool (partsR h h A B xs ys)) /\ Below w.heap.size w w' := by
 have HX : Hid (partsR h h A B xs ys = false) := by show _ = false; simp [partsR, h5]
 have hE : (A == B) = false := by rw [beq_eq_false_iff_ne]; exact h5
 obtain ⟨pa, ca, rfl, ha1, ha2, ha3⟩ := hA.form
 obtain ⟨pb, cb, rfl, hb1, hb2, hb3⟩ := hB.form
 obtain ⟨pl, cl, rfl, hl1, hl2, hl3⟩ := hL.form
 obtain ⟨pm, cm, rfl, hm1, hm2, hm3⟩ := hM.form
 have HEqC : Hid (∀ w1, Below w.heap.size w w1 -> Calls Tryz.prog 54 #[.slice pa A.length ca, .slice pb B.length cb] w1 fun e w' => e = .returned (.bool (A == B)) /\ Below w1.heap.size w1 w') := fun w1 b => rfeq_any _ _ A B w1 (hA.below b).txts (hB.below b).txts
 obtain ⟨w0, hw0⟩ : ∃ w0, w0 = (w.alloc (.cells #[.int .i64 h.k, .bool h.b, .int .i64 h.i, .string ⟨h.s.toArray⟩, .slice pa A.length ca, .slice pl xs.length cl] 38)).alloc (.cells #[.int .i64 h.k, .bool h.b, .int .i64 h.i, .string ⟨h.s.toArray⟩, .slice pb B.length cb, .slice pm ys.length cm] 38) := ⟨_, rfl⟩
 have HW0 : Hid (w0 = (w.alloc (.cells #[.int .i64 h.k, .bool h.b, .int .i64 h.i, .string ⟨h.s.toArray⟩, .slice pa A.length ca, .slice pl xs.length cl] 38)).alloc (.cells #[.int .i64 h.k, .bool h.b, .int .i64 h.i, .string ⟨h.s.toArray⟩, .slice pb B.length cb, .slice pm ys.length cm] 38)) := hw0
 have HV0 : Hid (Box w0 w.heap.size h (.slice pa A.length ca) (.slice pl xs.length cl)) := by show Box _ _ _ _ _; rw [hw0]; exact (box_new w h _ _).alloc _
 have HU0 : Hid (Box w0 (w.heap.size + 1) h (.slice pb B.length cb) (.slice pm ys.length cm)) := by
  have h9 := box_new (w.alloc (.cells #[.int .i64 h.k, .bool h.b, .int .i64 h.i, .string ⟨h.s.toArray⟩, .slice pa A.length ca, .slice pl xs.length cl] 38)) h (.slice pb B.length cb) (.slice pm ys.length cm)
  show Box _ _ _ _ _
  rw [hw0]
  have e9 : (w.alloc (.cells #[.int .i64 h.k, .bool h.b, .int .i64 h.i, .string ⟨h.s.toArray⟩, .slice pa A.length ca, .slice pl xs.length cl] 38)).heap.size = w.heap.size + 1 := by simp
  rw [e9] at h9
  exact h9
 have HB0 : Hid (Below w.heap.size w w0) := by show Below _ _ _; rw [hw0]; exact ((Below.refl _ _).alloc (Nat.le_refl _) _).alloc (by simp) _
 rw [hE] at HEqC
 generalize partsR h h A B xs ys = res at *
 clear h5 hE hA hB hL hM ha3 hb3 hl3 hm3 HV0 HU0
 unfold rfV
 go_enter Tryz.func42, Tryz.ntmps42
 go_wp2_with fail
 rw [<- HW0.out]
 refine Calls.mono (HEqC.out w0 HB0.out) ?_
 rintro e w1 ⟨rfl, b1⟩
 have HB1 : Hid (Below w.heap.size w w1) := HB0.out.trans (b1.mono HB0.out.size)
 clear b1
 go_wp2_with fail
 go_ret
 exact ⟨by rw [HX.out]; rfl, HB1.out⟩
set_option maxRecDepth 100000 in
set_option maxHeartbeats 2000000 in
theorem rfsame_lens (n : Nat) (av av' : Nat -> Prop) (h : Hd) (A B : List Bs) (xs ys : List (J n)) (va vl ua ul : Value) (w : World) (ih : True) (hA : RStrs av w A va) (hB : RStrs av' w B ua) (hL : RVals av w n xs vl) (hM : RVals av' w n ys ul) (h5 : A = B) (h6 : xs.length ≠ ys.length) :
  Calls Tryz.prog 42 #[rfV h va vl, rfV h ua ul] w fun e w' => e = .returned (.bool (partsR h h A B xs ys)) /\ Below w.heap.size w w' := by
 have HX : Hid (partsR h h A B xs ys = false) := by show _ = false; simp [partsR, h6]
 have hE : (A == B) = true := by rw [h5]; simp
 have q6 : ((xs.length : Int) != (ys.length : Int)) = true := by rw [bne_iff_ne]; omega
 obtain ⟨pa, ca, rfl, ha1, ha2, ha3⟩ := hA.form
 obtain ⟨pb, cb, rfl, hb1, hb2, hb3⟩ := hB.form
 obtain ⟨pl, cl, rfl, hl1, hl2, hl3⟩ := hL.form
 obtain ⟨pm, cm, rfl, hm1, hm2, hm3⟩ := hM.form
 have HEqC : Hid (∀ w1, Below w.heap.size w w1 -> Calls Tryz.prog 54 #[.slice pa A.length ca, .slice pb B.length cb] w1 fun e w' => e = .returned (.bool (A == B)) /\ Below w1.heap.size w1 w') := fun w1 b => rfeq_any _ _ A B w1 (hA.below b).txts (hB.below b).txts
 obtain ⟨w0, hw0⟩ : ∃ w0, w0 = (w.alloc (.cells #[.int .i64 h.k, .bool h.b, .int .i64 h.i, .string ⟨h.s.toArray⟩, .slice pa A.length ca, .slice pl xs.length cl] 38)).alloc (.cells #[.int .i64 h.k, .bool h.b, .int .i64 h.i, .string ⟨h.s.toArray⟩, .slice pb B.length cb, .slice pm ys.length cm] 38) := ⟨_, rfl⟩
 have HW0 : Hid (w0 = (w.alloc (.cells #[.int .i64 h.k, .bool h.b, .int .i64 h.i, .string ⟨h.s.toArray⟩, .slice pa A.length ca, .slice pl xs.length cl] 38)).alloc (.cells #[.int .i64 h.k, .bool h.b, .int .i64 h.i, .string ⟨h.s.toArray⟩, .slice pb B.length cb, .slice pm ys.length cm] 38)) := hw0
 have HV0 : Hid (Box w0 w.heap.size h (.slice pa A.length ca) (.slice pl xs.length cl)) := by show Box _ _ _ _ _; rw [hw0]; exact (box_new w h _ _).alloc _
 have HU0 : Hid (Box w0 (w.heap.size + 1) h (.slice pb B.length cb) (.slice pm ys.length cm)) := by
  have h9 := box_new (w.alloc (.cells #[.int .i64 h.k, .bool h.b, .int .i64 h.i, .string ⟨h.s.toArray⟩, .slice pa A.length ca, .slice pl xs.length cl] 38)) h (.slice pb B.length cb) (.slice pm ys.length cm)
  show Box _ _ _ _ _
  rw [hw0]
  have e9 : (w.alloc (.cells #[.int .i64 h.k, .bool h.b, .int .i64 h.i, .string ⟨h.s.toArray⟩, .slice pa A.length ca, .slice pl xs.length cl] 38)).heap.size = w.heap.size + 1 := by simp
  rw [e9] at h9
  exact h9
 have HB0 : Hid (Below w.heap.size w w0) := by show Below _ _ _; rw [hw0]; exact ((Below.refl _ _).alloc (Nat.le_refl _) _).alloc (by simp) _
 rw [hE] at HEqC
 generalize partsR h h A B xs ys = res at *
 clear h5 h6 hE hA hB hL hM ha3 hb3 hl3 hm3
 unfold rfV
 go_enter Tryz.func42, Tryz.ntmps42
 go_wp2_with fail
 rw [<- HW0.out]
 refine Calls.mono (HEqC.out w0 HB0.out) ?_
 rintro e w1 ⟨rfl, b1⟩
 have HB1 : Hid (Below w.heap.size w w1) := HB0.out.trans (b1.mono HB0.out.size)
 have HV1 := HV0.out.below b1
 have HU1 := HU0.out.below b1
 have v5 := HV1.c5
 have u5 := HU1.c5
 clear b1 HV1 HU1
 go_wp2_with fail
 go_ret
 exact ⟨by rw [HX.out]; rfl, HB1.out⟩
def SLoop {n : Nat} (w : World) (xs ys : List (J n)) (h g : Hd) (va vl ua ul : Value) (i : Value) (wr : World) : Prop :=
 ∃ k : Nat, k <= xs.length /\ i = .int .i64 k /\ (∀ (q : Nat) (x y : J n), q < k -> xs[q]? = some x -> ys[q]? = some y -> sameR n x y = true) /\ Below w.heap.size w wr /\ Box wr w.heap.size h va vl /\ Box wr (w.heap.size + 1) g ua ul
set_option maxRecDepth 100000 in
set_option maxHeartbeats 2000000 in
theorem rfsame_loop (n : Nat) (av av' : Nat -> Prop) (h : Hd) (A B : List Bs) (xs ys : List (J n)) (va vl ua ul : Value) (w : World) (ih : xs ≠ [] -> RSameOK n) (hA : RStrs av w A va) (hB : RStrs av' w B ua) (hL : RVals av w n xs vl) (hM : RVals av' w n ys ul) (h5 : A = B) (h6 : xs.length = ys.length) :
  Calls Tryz.prog 42 #[rfV h va vl, rfV h ua ul] w fun e w' => e = .returned (.bool (partsR h h A B xs ys)) /\ Below w.heap.size w w' := by
 have HXF : Hid (∀ (k : Nat) (x y : J n), xs[k]? = some x -> ys[k]? = some y -> sameR n x y = false -> partsR h h A B xs ys = false) := fun k x y a b c => parts_at a b c
 have HXT : Hid ((∀ (k : Nat) (x y : J n), xs[k]? = some x -> ys[k]? = some y -> sameR n x y = true) -> partsR h h A B xs ys = true) := parts_all rfl rfl rfl rfl h5 h6
 have hE : (A == B) = true := by rw [h5]; simp
 have q6 : ((xs.length : Int) != (ys.length : Int)) = false := by rw [h6]; simp
 obtain ⟨pa, ca, rfl, ha1, ha2, ha3⟩ := hA.form
 obtain ⟨pb, cb, rfl, hb1, hb2, hb3⟩ := hB.form
 obtain ⟨pl, cl, rfl, hl1, hl2, hl3⟩ := hL.form
 obtain ⟨pm, cm, rfl, hm1, hm2, hm3⟩ := hM.form
 have HEqC : Hid (∀ w1, Below w.heap.size w w1 -> Calls Tryz.prog 54 #[.slice pa A.length ca, .slice pb B.length cb] w1 fun e w' => e = .returned (.bool (A == B)) /\ Below w1.heap.size w1 w') := fun w1 b => rfeq_any _ _ A B w1 (hA.below b).txts (hB.below b).txts
 obtain ⟨w0, hw0⟩ : ∃ w0, w0 = (w.alloc (.cells #[.int .i64 h.k, .bool h.b, .int .i64 h.i, .string ⟨h.s.toArray⟩, .slice pa A.length ca, .slice pl xs.length cl] 38)).alloc (.cells #[.int .i64 h.k, .bool h.b, .int .i64 h.i, .string ⟨h.s.toArray⟩, .slice pb B.length cb, .slice pm ys.length cm] 38) := ⟨_, rfl⟩
 have HW0 : Hid (w0 = (w.alloc (.cells #[.int .i64 h.k, .bool h.b, .int .i64 h.i, .string ⟨h.s.toArray⟩, .slice pa A.length ca, .slice pl xs.length cl] 38)).alloc (.cells #[.int .i64 h.k, .bool h.b, .int .i64 h.i, .string ⟨h.s.toArray⟩, .slice pb B.length cb, .slice pm ys.length cm] 38)) := hw0
 have HV0 : Hid (Box w0 w.heap.size h (.slice pa A.length ca) (.slice pl xs.length cl)) := by show Box _ _ _ _ _; rw [hw0]; exact (box_new w h _ _).alloc _
 have HU0 : Hid (Box w0 (w.heap.size + 1) h (.slice pb B.length cb) (.slice pm ys.length cm)) := by
  have h9 := box_new (w.alloc (.cells #[.int .i64 h.k, .bool h.b, .int .i64 h.i, .string ⟨h.s.toArray⟩, .slice pa A.length ca, .slice pl xs.length cl] 38)) h (.slice pb B.length cb) (.slice pm ys.length cm)
  show Box _ _ _ _ _
  rw [hw0]
  have e9 : (w.alloc (.cells #[.int .i64 h.k, .bool h.b, .int .i64 h.i, .string ⟨h.s.toArray⟩, .slice pa A.length ca, .slice pl xs.length cl] 38)).heap.size = w.heap.size + 1 := by simp
  rw [e9] at h9
  exact h9
 have HB0 : Hid (Below w.heap.size w w0) := by show Below _ _ _; rw [hw0]; exact ((Below.refl _ _).alloc (Nat.le_refl _) _).alloc (by simp) _
 rw [hE] at HEqC
 unfold maxLen at hl2 hm2
 have HL3 : Hid (∀ (i : Nat) (x : J n), xs[i]? = some x -> ∃ g nm' l', pl = some ⟨g, 0, none⟩ /\ g < w.heap.size /\ Six w g (i * 6) (headJ n x) nm' l' /\ RSt av w n x (rfV (headJ n x) nm' l')) := hl3
 have HM3 : Hid (∀ (i : Nat) (x : J n), ys[i]? = some x -> ∃ g nm' l', pm = some ⟨g, 0, none⟩ /\ g < w.heap.size /\ Six w g (i * 6) (headJ n x) nm' l' /\ RSt av' w n x (rfV (headJ n x) nm' l')) := hm3
 have HIh : Hid (xs ≠ [] -> RSameOK n) := ih
 have H6 : Hid (xs.length = ys.length) := h6
 generalize partsR h h A B xs ys = res at *
 clear h5 h6 hE hA hB hL hM ha3 hb3 hl3 hm3 ih
 unfold rfV
 go_enter Tryz.func42, Tryz.ntmps42
 go_wp2_with fail
 rw [<- HW0.out]
 refine Calls.mono (HEqC.out w0 HB0.out) ?_
 rintro e w1 ⟨rfl, b1⟩
 have HB1 : Hid (Below w.heap.size w w1) := HB0.out.trans (b1.mono HB0.out.size)
 have HV1 : Hid (Box w1 w.heap.size h (.slice pa A.length ca) (.slice pl xs.length cl)) := HV0.out.below b1
 have HU1 : Hid (Box w1 (w.heap.size + 1) h (.slice pb B.length cb) (.slice pm ys.length cm)) := HU0.out.below b1
 have v5 := HV1.out.c5
 have u5 := HU1.out.c5
 clear b1
 go_wp2_with fail
 go_loopw [52] (fun i wr => SLoop w xs ys h h (.slice pa A.length ca) (.slice pl xs.length cl) (.slice pb B.length cb) (.slice pm ys.length cm) i wr) (fun i _ => xs.length - (intOf i).toNat)
 case atStart => exact ⟨0, Nat.zero_le _, rfl, fun q x y hq => absurd hq (Nat.not_lt_zero _), HB1.out, HV1.out, HU1.out⟩
 case round =>
  obtain ⟨k, hk, rfl, hall, hB, hV, hU⟩ := hrel
  have HAl : Hid (∀ (q : Nat) (x y : J n), q < k -> xs[q]? = some x -> ys[q]? = some y -> sameR n x y = true) := hall
  have HB : Hid (Below w.heap.size w wr) := hB
  have HV : Hid (Box wr w.heap.size h (.slice pa A.length ca) (.slice pl xs.length cl)) := hV
  have HU : Hid (Box wr (w.heap.size + 1) h (.slice pb B.length cb) (.slice pm ys.length cm)) := hU
  have v5 := hV.c5
  have u5 := hU.c5
  clear hall hB hV hU HV0 HU0 HB0 HW0 HB1 HV1 HU1 HEqC
  by_cases hlt : k < xs.length
  ·have hkm : k < ys.length := by have := H6.out; omega
   obtain ⟨x, hxk⟩ : ∃ x, xs[k]? = some x := ⟨xs[k], List.getElem?_eq_getElem hlt⟩
   obtain ⟨y, hyk⟩ : ∃ y, ys[k]? = some y := ⟨ys[k], List.getElem?_eq_getElem hkm⟩
   obtain ⟨g', nm', l', rfl, hg', h6, hst⟩ := HL3.out k x hxk
   obtain ⟨g2, nm2, l2, rfl, hg2, h62, hst2⟩ := HM3.out k y hyk
   obtain ⟨⟨p1, k1, c1, rfl⟩, p2, k2, c2, rfl⟩ := rst_sl hst
   obtain ⟨⟨p3, k3, c3, rfl⟩, p4, k4, c4, rfl⟩ := rst_sl hst2
   obtain ⟨x0, x1, x2, x3, x4, x5⟩ := h6.keep (HB.out.block g' hg')
   obtain ⟨y0, y1, y2, y3, y4, y5⟩ := h62.keep (HB.out.block g2 hg2)
   have HCall : Hid (∀ w1, Below w.heap.size w w1 -> Calls Tryz.prog 42 #[rfV (headJ n x) (.slice p1 k1 c1) (.slice p2 k2 c2), rfV (headJ n y) (.slice p3 k3 c3) (.slice p4 k4 c4)] w1 fun e w' => e = .returned (.bool (sameR n x y)) /\ Below w1.heap.size w1 w') := fun w1 b => HIh.out (by rintro rfl; simp at hlt) av av' x y _ _ w1 (hst.below b) (hst2.below b)
   have HXk : Hid (sameR n x y = false -> res = false) := HXF.out k x y hxk hyk
   have HNx : Hid (sameR n x y = true -> ∀ (q : Nat) (x y : J n), q < k + 1 -> xs[q]? = some x -> ys[q]? = some y -> sameR n x y = true) := fun hs q a b hq ha hb => by
    rcases Nat.lt_succ_iff_lt_or_eq.1 hq with h | h
    ·exact HAl.out q a b h ha hb
    ·subst h
     rw [hxk] at ha
     rw [hyk] at hb
     cases ha; cases hb
     exact hs
   have hkI : (k : Int) < (xs.length : Int) := by omega
   have hkJ : (k : Int) < (ys.length : Int) := by omega
   clear hst h6 hxk hst2 h62 hyk
   unfold rfV at HCall
   go_wp2_with fail
   go_region_with (go_at_call 42; refine Calls.mono (HCall.out _ HB.out.drew) ?_; rintro e w3 ⟨rfl, b3⟩)
   all_goals
    have HB3 : Hid (Below w.heap.size w w3) := HB.out.drew.trans (b3.mono HB.out.drew.size)
    have HV3 := HV.out.drew.below b3
    have HU3 := HU.out.drew.below b3
    have HV3 : Hid (Box w3 w.heap.size h (.slice pa A.length ca) (.slice (some ⟨g', 0, none⟩) xs.length cl)) := HV3
    have HU3 : Hid (Box w3 (w.heap.size + 1) h (.slice pb B.length cb) (.slice (some ⟨g2, 0, none⟩) ys.length cm)) := HU3
    clear b3 HCall
    cases hs : sameR n x y with
    | false =>
     have HXX : Hid (res = false) := HXk.out hs
     clear hs
     go_wp2_with fail
     go_ret
     exact ⟨by rw [HXX.out]; rfl, HB3.out⟩
    | true =>
     have HNN : Hid (∀ (q : Nat) (x y : J n), q < k + 1 -> xs[q]? = some x -> ys[q]? = some y -> sameR n x y = true) := HNx.out hs
     clear hs
     go_wp2_with fail
     go_roundw
     case rel =>
      have hrelN : SLoop w xs ys h h (.slice pa A.length ca) (.slice (some ⟨g', 0, none⟩) xs.length cl) (.slice pb B.length cb) (.slice (some ⟨g2, 0, none⟩) ys.length cm) (.int .i64 ((k : Int) + 1)) w3 := ⟨k + 1, by omega, by go_num, HNN.out, HB3.out, HV3.out, HU3.out⟩
      first | exact hrelN | ((repeat apply Exists.intro); refine ⟨hrelN, ?_⟩; first | rfl | exact ⟨rfl, rfl⟩ | exact ⟨rfl, rfl, rfl⟩ | exact ⟨rfl, rfl, rfl, rfl⟩ | exact ⟨rfl, rfl, rfl, rfl, rfl⟩)
     case measure => (simp [intOf]; omega)
  ·have HXX : Hid (res = true) := HXT.out (fun q x y hx hy => HAl.out q x y (by
    have := (List.getElem?_eq_some_iff.1 hx).1
    omega) hx hy)
   go_wp2_with fail
   go_ret
   exact ⟨by rw [HXX.out]; rfl, HB.out⟩
theorem rfsame_parts (n : Nat) (av av' : Nat -> Prop) (h g : Hd) (A B : List Bs) (xs ys : List (J n)) (va vl ua ul : Value) (w : World) (ih : xs ≠ [] -> RSameOK n) (hA : RStrs av w A va) (hB : RStrs av' w B ua) (hL : RVals av w n xs vl) (hM : RVals av' w n ys ul) :
  Calls Tryz.prog 42 #[rfV h va vl, rfV g ua ul] w fun e w' => e = .returned (.bool (partsR h g A B xs ys)) /\ Below w.heap.size w w' := by
 by_cases h1 : h.k = g.k
 ·by_cases h2 : h.b = g.b
  ·by_cases h3 : h.i = g.i
   ·by_cases h4 : h.s = g.s
    ·have hg : h = g := by
      obtain ⟨k1, b1, i1, s1⟩ := h
      obtain ⟨k2, b2, i2, s2⟩ := g
      dsimp only at h1 h2 h3 h4
      subst h1 h2 h3 h4
      rfl
     subst hg
     by_cases h5 : A = B
     ·by_cases h6 : xs.length = ys.length
      ·exact rfsame_loop n av av' h A B xs ys va vl ua ul w ih hA hB hL hM h5 h6
      ·exact rfsame_lens n av av' h A B xs ys va vl ua ul w trivial hA hB hL hM h5 h6
     ·exact rfsame_names n av av' h A B xs ys va vl ua ul w trivial hA hB hL hM h5
    ·exact rfsame_h4 n av av' h g A B xs ys va vl ua ul w hA hB hL hM h1 h2 h3 h4
   ·exact rfsame_h3 n av av' h g A B xs ys va vl ua ul w hA hB hL hM h1 h2 h3
  ·exact rfsame_h2 n av av' h g A B xs ys va vl ua ul w hA hB hL hM h1 h2
 ·exact rfsame_h1 n av av' h g A B xs ys va vl ua ul w hA hB hL hM h1
theorem rfsame_ok : ∀ n : Nat, RSameOK n
 | 0, av, av', j, i, v, u, w, hv, hu => by
  have e : v = rfV (headL j) (.slice none 0 0) (.slice none 0 0) := hv
  have e2 : u = rfV (headL i) (.slice none 0 0) (.slice none 0 0) := hu
  subst e e2
  have h9 := rfsame_parts 0 av av' (headL j) (headL i) [] [] [] [] _ _ _ _ w (fun h => absurd rfl h) (Or.inl ⟨rfl, rfl⟩) (Or.inl ⟨rfl, rfl⟩) (Or.inl ⟨rfl, rfl⟩) (Or.inl ⟨rfl, rfl⟩)
  refine h9.mono ?_
  rintro e w1 ⟨rfl, b⟩
  refine ⟨?_, b⟩
  simp [partsR, sameR]
 | n + 1, av, av', j, i, v, u, w, hv, hu => by
  obtain ⟨nm, lv, rfl, h1, h2⟩ := hv.open
  obtain ⟨nm2, lv2, rfl, h3, h4⟩ := hu.open
  exact rfsame_parts n av av' _ _ _ _ _ _ _ _ _ _ w (fun _ => rfsame_ok n) h1 h3 h2 h4
theorem hdEq_eq {h g : Hd} (e : hdEq h g = true) : h = g := by
 obtain ⟨k1, b1, i1, s1⟩ := h
 obtain ⟨k2, b2, i2, s2⟩ := g
 simp only [hdEq, Bool.and_eq_true, decide_eq_true_eq] at e
 obtain ⟨rfl, rfl, rfl, rfl⟩ := e
 rfl
theorem hdEq_self (h : Hd) : hdEq h h = true := by simp [hdEq]
theorem headL_inj {a b : Leaf} (e : headL a = headL b) : a = b := by
 rcases a with _ | a | a | a <;> rcases b with _ | b | b | b <;> simp [headL] at e ⊢ <;> exact e
theorem headL_k (a : Leaf) : (headL a).k <= 4 := by rcases a with _ | a | a | a <;> simp [headL]
theorem zip_all_eq {α : Type} {f : α -> α -> Bool} (hf : ∀ x y, f x y = true -> x = y) : ∀ (xs ys : List α), xs.length = ys.length -> ((xs.zip ys).all fun p => f p.1 p.2) = true -> xs = ys
 | [], [], _, _ => rfl
 | [], _ :: _, h, _ => by simp at h
 | _ :: _, [], h, _ => by simp at h
 | x :: xs, y :: ys, h, e => by
  simp only [List.zip_cons_cons, List.all_cons, Bool.and_eq_true] at e
  rw [hf x y e.1, zip_all_eq hf xs ys (by simpa using h) e.2]
theorem zip_all_self {α : Type} {f : α -> α -> Bool} (hf : ∀ x, f x x = true) : ∀ (xs : List α), ((xs.zip xs).all fun p => f p.1 p.2) = true
 | [] => rfl
 | x :: xs => by simp only [List.zip_cons_cons, List.all_cons, hf x, zip_all_self hf xs, Bool.and_true]
theorem pairs_eq {α β : Type} : ∀ (xs ys : List (α × β)), xs.map (fun f => f.1) = ys.map (fun f => f.1) -> xs.map (fun f => f.2) = ys.map (fun f => f.2) -> xs = ys
 | [], [], _, _ => rfl
 | [], _ :: _, h, _ => by simp at h
 | _ :: _, [], h, _ => by simp at h
 | (a, b) :: xs, (c, d) :: ys, h1, h2 => by
  simp only [List.map_cons, List.cons.injEq] at h1 h2
  rw [h1.1, h2.1, pairs_eq xs ys h1.2 h2.2]
theorem sameR_self : ∀ (n : Nat) (j : J n), sameR n j j = true
 | 0, j => hdEq_self _
 | n + 1, j => by
  have := zip_all_self (sameR_self n) (kids j)
  simp only [sameR, hdEq_self, this, decide_true, Bool.and_true]
theorem sameR_eq : ∀ (n : Nat) (j i : J n), sameR n j i = true -> j = i
 | 0, j, i, h => headL_inj (hdEq_eq h)
 | n + 1, j, i, h => by
  simp only [sameR, Bool.and_eq_true, decide_eq_true_eq] at h
  obtain ⟨h1, h2, h3, h4⟩ := h
  have hk := zip_all_eq (sameR_eq n) _ _ h3 h4
  have hh := hdEq_eq h1
  match j, i with
  | Sum.inl a, Sum.inl b => exact congrArg Sum.inl (headL_inj hh)
  | Sum.inl a, Sum.inr (Sum.inl b) => exact absurd (congrArg Hd.k hh) (by have := headL_k a; simp only [headJ]; omega)
  | Sum.inl a, Sum.inr (Sum.inr b) => exact absurd (congrArg Hd.k hh) (by have := headL_k a; simp only [headJ]; omega)
  | Sum.inr (Sum.inl a), Sum.inl b => exact absurd (congrArg Hd.k hh) (by have := headL_k b; simp only [headJ]; omega)
  | Sum.inr (Sum.inr a), Sum.inl b => exact absurd (congrArg Hd.k hh) (by have := headL_k b; simp only [headJ]; omega)
  | Sum.inr (Sum.inl a), Sum.inr (Sum.inr b) => exact absurd (congrArg Hd.k hh) (by simp [headJ])
  | Sum.inr (Sum.inr a), Sum.inr (Sum.inl b) => exact absurd (congrArg Hd.k hh) (by simp [headJ])
  | Sum.inr (Sum.inl a), Sum.inr (Sum.inl b) => exact congrArg (fun x => Sum.inr (Sum.inl x)) hk
  | Sum.inr (Sum.inr a), Sum.inr (Sum.inr b) => exact congrArg (fun x => Sum.inr (Sum.inr x)) (pairs_eq a b h2 hk)
end Go.Proofs.YtjcdklbimaclkaaGreatDoor
namespace Go.Proofs.YtjcdklbimaclkaaGreatDoor
set_option linter.unusedVariables false
set_option linter.unusedSimpArgs false
theorem told_field {n : Nat} {fs : List (Bs × J n)} (h : Told20 (n + 1) (Sum.inr (Sum.inr fs))) : ∀ f ∈ fs, Told20 n f.2 := by
 intro f hf
 have hn : 1 + (fs.map fun f => nodes n f.2).sum <= 200 := h.nodes
 refine ⟨(h.good.2 f hf).2, ?_, ?_, ?_⟩
 ·have : nodes n f.2 <= (fs.map fun f => nodes n f.2).sum := mem_le_sum _ _ (List.mem_map.2 ⟨f, hf, rfl⟩)
  omega
 ·have := deep_field (m := 9) h.depth f hf
  omega
 ·have hl : (123 :: (commas (fs.map fun f => quote f.1 ++ 58 :: tell n f.2) ++ [125])).length <= 2000 := h.len
  have h2 := (commas_two (fs.map fun f => quote f.1 ++ 58 :: tell n f.2)).2
  have h3 := mem_le_sum ((fs.map fun f => quote f.1 ++ 58 :: tell n f.2).map fun t => t.length + 1) ((quote f.1 ++ 58 :: tell n f.2).length + 1) (List.mem_map.2 ⟨_, List.mem_map.2 ⟨f, hf, rfl⟩, rfl⟩)
  simp only [List.length_cons, List.length_append, List.length_nil] at hl h3
  omega
theorem told_inj {n : Nat} {x y : J n} (hx : Told20 n x) (hy : Told20 n y) (h : tell n x = tell n y) : x = y := by
 have h1 := read_told hx.good hx.nodes hx.depth hx.len
 have h2 := read_told hy.good hy.nodes hy.depth hy.len
 rw [h, h2] at h1
 have h3 : lift n 10 y = lift n 10 x := Except.ok.inj h1
 have h4 := congrArg (lift 10 n) h3
 rw [lift_lift n 10 n y hy.depth, lift_lift n 10 n x hx.depth, lift_self, lift_self] at h4
 exact h4.symm
end Go.Proofs.YtjcdklbimaclkaaGreatDoor
namespace Go.Proofs.YtjcdklbimaclkaaGreatDoor
open Go.RowKit
set_option linter.unusedVariables false
set_option linter.unusedSimpArgs false
theorem ins_len (S : List Bs) (s : Bs) : (insS S s).length = S.length + 1 := by
 unfold insS
 have h : S = (S.takeWhile fun t => !less s t) ++ (S.dropWhile fun t => !less s t) := (List.takeWhile_append_dropWhile).symm
 have h2 := congrArg List.length h
 rw [List.length_append] at h2
 rw [List.length_append, List.length_cons]
 omega
theorem fold_len : ∀ (l S : List Bs), (l.foldl insS S).length = S.length + l.length
 | [], S => rfl
 | s :: l, S => by
  have := fold_len l (insS S s)
  rw [ins_len] at this
  rw [List.foldl_cons, this, List.length_cons]
  omega
theorem sort_len (l : List Bs) : (sortR l).length = l.length := by
 have := fold_len l []
 simpa [sortR] using this
theorem wp_append_rs {w : World} {o : Oper} {a : Act} {K : Act -> World -> Prop} {Q : Exit -> Act -> World -> Prop} (s x : Operand)
  (ho : o.op = .call { callee := .builtin .append, args := #[s, x], argTypes := #[36, 36] })
  (base : Nat) (L1 L2 : List Bs) (v vx : Value) (hs : a.eval s = v) (hown : OwnT base w L1 v) (hx : a.eval x = vx) (h2 : TSl w L2 vx) (hl : L1.length + L2.length <= 1000000) (hb : base <= w.heap.size)
  (h : ∀ v' w', OwnT base w' (L1 ++ L2) v' -> w.grownBy w' v.ownBlock -> K (a.put o.dst v') w') : o.wp Tryz.prog a w K Q := by
 obtain ⟨i0, hi, hz0, hz1, hz2⟩ := info_parts info_text
 rcases h2 with ⟨rfl, rfl⟩ | ⟨g, of, cap, rfl, hc⟩
 ·refine wp_app_none s x 36 ho base 9 i0 1 Tryz.underlying36 hi _ _ _ hs hown hx ?_
  exact h v w (by rw [List.append_nil]; exact hown) ⟨rfl, rfl, rfl, Nat.le_refl _, fun _ _ _ => rfl⟩
 ·refine wp_append_own w s x 36 ho base 9 i0 (Value.string ⟨#[]⟩) 1 16 Tryz.underlying36 hi hz0 hz1 hz2 rfl (by decide) _ _ _ hs hown ⟨g, of, none⟩ L2.length cap (L2.map fun s => .string ⟨s.toArray⟩) hx (by rw [List.length_map, Nat.mul_one]) (texts_news hc) (texts_one _) (by unfold maxLen; omega) (by omega) hb ?_
  intro v' w' h5 h6 _
  refine h v' w' ?_ h6
  show w'.ownsRow _ _ _ _ _ _
  rw [List.length_append, List.map_append]
  exact h5
theorem same_rel {n : Nat} {x y : J n} (hx : Told20 n x) (hy : Told20 n y) : sameO (some x) y = sameR n x y := by
 show decide (tell n x = tell n y) = _
 cases hs : sameR n x y with
 | true =>
  have := sameR_eq n x y hs
  subst this
  exact decide_eq_true rfl
 | false =>
  refine decide_eq_false (fun e => ?_)
  have := told_inj hx hy e
  subst this
  rw [sameR_self] at hs
  cases hs
def BetOK (n : Nat) : Prop := ∀ (av : Nat -> Prop) (a : Option (J n)) (b : J n) (pv qv : Value) (w : World), (∀ c, w.heap.size <= c -> ¬ av c) -> ROpt av w n a pv -> RSt av w n b qv -> (∀ x, a = some x -> Told20 n x) -> Told20 n b ->
 Calls Tryz.prog 21 #[pv, qv] w (RAns av n (betweenR n a b) w)
set_option maxRecDepth 100000 in
set_option maxHeartbeats 4000000 in
theorem bet_else (dh h : Hd) (hk : h.k ≠ 6) (pd : Option Addr) (nd cd : Nat) (pe : Option Addr) (ne ce : Nat) (pn : Option Addr) (nn cn : Nat) (pl : Option Addr) (nl cl : Nat) (w : World) :
  Calls Tryz.prog 21 #[rfV dh (.slice pd nd cd) (.slice pe ne ce), rfV h (.slice pn nn cn) (.slice pl nl cl)] w fun e w' => e = .returned (.tuple #[rfV h (.slice pn nn cn) (.slice pl nl cl), .int .i64 0]) /\ Below w.heap.size w w' := by
 have hq : (((h.k : Int) != 6)) = true := by rw [bne_iff_ne]; omega
 unfold rfV
 have HR0 : Hid (Box (((w.alloc (.cells #[.int .i64 dh.k, .bool dh.b, .int .i64 dh.i, .string ⟨dh.s.toArray⟩, .slice pd nd cd, .slice pe ne ce] 38)).alloc (.cells #[.int .i64 h.k, .bool h.b, .int .i64 h.i, .string ⟨h.s.toArray⟩, .slice pn nn cn, .slice pl nl cl] 38)).alloc (.cells #[.int .i64 h.k, .bool h.b, .int .i64 h.i, .string ⟨h.s.toArray⟩, .slice pn nn cn, .slice pl nl cl] 38)) (w.heap.size + 1 + 1) h (.slice pn nn cn) (.slice pl nl cl)) := by
  show Box _ _ _ _ _
  have := box_new ((w.alloc (.cells #[.int .i64 dh.k, .bool dh.b, .int .i64 dh.i, .string ⟨dh.s.toArray⟩, .slice pd nd cd, .slice pe ne ce] 38)).alloc (.cells #[.int .i64 h.k, .bool h.b, .int .i64 h.i, .string ⟨h.s.toArray⟩, .slice pn nn cn, .slice pl nl cl] 38)) h (.slice pn nn cn) (.slice pl nl cl)
  simpa using this
 have HB0 : Hid (Below w.heap.size w (((w.alloc (.cells #[.int .i64 dh.k, .bool dh.b, .int .i64 dh.i, .string ⟨dh.s.toArray⟩, .slice pd nd cd, .slice pe ne ce] 38)).alloc (.cells #[.int .i64 h.k, .bool h.b, .int .i64 h.i, .string ⟨h.s.toArray⟩, .slice pn nn cn, .slice pl nl cl] 38)).alloc (.cells #[.int .i64 h.k, .bool h.b, .int .i64 h.i, .string ⟨h.s.toArray⟩, .slice pn nn cn, .slice pl nl cl] 38))) := (((Below.refl _ _).alloc (Nat.le_refl _) _).alloc (by simp) _).alloc (by simp; omega) _
 clear hk
 go_enter Tryz.func21, Tryz.ntmps21
 go_wp2_with fail
 generalize ((w.alloc (.cells #[.int .i64 dh.k, .bool dh.b, .int .i64 dh.i, .string ⟨dh.s.toArray⟩, .slice pd nd cd, .slice pe ne ce] 38)).alloc (.cells #[.int .i64 h.k, .bool h.b, .int .i64 h.i, .string ⟨h.s.toArray⟩, .slice pn nn cn, .slice pl nl cl] 38)).alloc (.cells #[.int .i64 h.k, .bool h.b, .int .i64 h.i, .string ⟨h.s.toArray⟩, .slice pn nn cn, .slice pl nl cl] 38) = W at *
 have e6 := HR0.out
 exact bodyPost_ret (v := .tuple #[rfV h (.slice pn nn cn) (.slice pl nl cl), .int .i64 0]) (by simp [results, Tryz.results21, go_sem, rfV, e6.c0, e6.c1, e6.c2, e6.c3, e6.c4, e6.c5]) rfl ⟨rfl, HB0.out⟩
set_option maxRecDepth 100000 in
set_option maxHeartbeats 4000000 in
theorem bet_flat (n : Nat) (fs : List (Bs × J n)) (av : Nat -> Prop) (dh : Hd) (hk : dh.k ≠ 6) (pd : Option Addr) (nd cd : Nat) (pe : Option Addr) (ne ce : Nat) (pn : Option Addr) (nn cn : Nat) (pl : Option Addr) (nl cl : Nat) (w : World)
  (hs : RSt av w (n + 1) (Sum.inr (Sum.inr fs)) (rfV ⟨6, false, 0, []⟩ (.slice pn nn cn) (.slice pl nl cl))) :
  Calls Tryz.prog 21 #[rfV dh (.slice pd nd cd) (.slice pe ne ce), rfV ⟨6, false, 0, []⟩ (.slice pn nn cn) (.slice pl nl cl)] w (RAns av (n + 1) (if plainP (n + 1) (Sum.inr (Sum.inr fs)) then .ok (Sum.inr (Sum.inr fs)) else .error 9) w) := by
 have hq : (((dh.k : Int) != 6)) = true := by rw [bne_iff_ne]; omega
 obtain ⟨w0, hw0⟩ : ∃ w0, w0 = ((w.alloc (.cells #[.int .i64 dh.k, .bool dh.b, .int .i64 dh.i, .string ⟨dh.s.toArray⟩, .slice pd nd cd, .slice pe ne ce] 38)).alloc (.cells #[.int .i64 6, .bool false, .int .i64 0, .string ⟨#[]⟩, .slice pn nn cn, .slice pl nl cl] 38)).alloc (.cells #[.int .i64 0, .bool false, .int .i64 0, .string ⟨#[]⟩, .slice none 0 0, .slice none 0 0] 38) := ⟨_, rfl⟩
 have HW0 : Hid (w0 = ((w.alloc (.cells #[.int .i64 dh.k, .bool dh.b, .int .i64 dh.i, .string ⟨dh.s.toArray⟩, .slice pd nd cd, .slice pe ne ce] 38)).alloc (.cells #[.int .i64 6, .bool false, .int .i64 0, .string ⟨#[]⟩, .slice pn nn cn, .slice pl nl cl] 38)).alloc (.cells #[.int .i64 0, .bool false, .int .i64 0, .string ⟨#[]⟩, .slice none 0 0, .slice none 0 0] 38)) := hw0
 have HR0 : Hid (Box w0 (w.heap.size + 1 + 1) ⟨0, false, 0, []⟩ (.slice none 0 0) (.slice none 0 0)) := by
  show Box _ _ _ _ _
  have := box_new ((w.alloc (.cells #[.int .i64 dh.k, .bool dh.b, .int .i64 dh.i, .string ⟨dh.s.toArray⟩, .slice pd nd cd, .slice pe ne ce] 38)).alloc (.cells #[.int .i64 6, .bool false, .int .i64 0, .string ⟨#[]⟩, .slice pn nn cn, .slice pl nl cl] 38)) ⟨0, false, 0, []⟩ (.slice none 0 0) (.slice none 0 0)
  rw [hw0]
  simpa using this
 have HV0 : Hid (Box w0 (w.heap.size + 1) ⟨6, false, 0, []⟩ (.slice pn nn cn) (.slice pl nl cl)) := by
  show Box _ _ _ _ _
  have := (box_new (w.alloc (.cells #[.int .i64 dh.k, .bool dh.b, .int .i64 dh.i, .string ⟨dh.s.toArray⟩, .slice pd nd cd, .slice pe ne ce] 38)) ⟨6, false, 0, []⟩ (.slice pn nn cn) (.slice pl nl cl)).alloc (.cells #[.int .i64 0, .bool false, .int .i64 0, .string ⟨#[]⟩, .slice none 0 0, .slice none 0 0] 38)
  rw [hw0]
  simpa using this
 have HB0 : Hid (Below w.heap.size w w0) := by
  show Below _ _ _
  rw [hw0]
  exact (((Below.refl _ _).alloc (Nat.le_refl _) _).alloc (by simp) _).alloc (by simp; omega) _
 have HPl : Hid (Calls Tryz.prog 39 #[rfV ⟨6, false, 0, []⟩ (.slice pn nn cn) (.slice pl nl cl)] w0 fun e w' => e = .returned (.bool (plainP (n + 1) (Sum.inr (Sum.inr fs)))) /\ Below w0.heap.size w0 w') := plain_ok (n + 1) av _ _ w0 (hs.below HB0.out)
 have HS : Hid (RSt av w (n + 1) (Sum.inr (Sum.inr fs)) (rfV ⟨6, false, 0, []⟩ (.slice pn nn cn) (.slice pl nl cl))) := hs
 clear hk hs hw0
 cases hpb : plainP (n + 1) (Sum.inr (Sum.inr fs)) with
 | false =>
  rw [hpb] at HPl
  unfold rfV at HPl
  unfold rfV
  go_enter Tryz.func21, Tryz.ntmps21
  go_wp2_with fail
  rw [<- HW0.out]
  refine Calls.mono HPl.out ?_
  rintro e w1 ⟨rfl, b1⟩
  have HB1 : Hid (Below w.heap.size w w1) := HB0.out.trans (b1.mono HB0.out.size)
  have HZ : Hid (Box w1 (w.heap.size + 1 + 1) ⟨0, false, 0, []⟩ (.slice none 0 0) (.slice none 0 0)) := HR0.out.below b1
  have HV : Hid (Box w1 (w.heap.size + 1) ⟨6, false, 0, []⟩ (.slice pn nn cn) (.slice pl nl cl)) := HV0.out.below b1
  have HS1 : Hid (RSt (fun c => av c ∨ c = w.heap.size + 1 + 1) w1 (n + 1) (Sum.inr (Sum.inr fs)) (rfV ⟨6, false, 0, []⟩ (.slice pn nn cn) (.slice pl nl cl))) := (HS.out.wide (fun c e => by
   rcases e with e | e
   ·exact Or.inl e
   ·exact Or.inr (by omega))).below HB1.out
  have f0 := HZ.out.free 0
  have f1 := HZ.out.free 1
  have f2 := HZ.out.free 2
  have f3 := HZ.out.free 3
  have f4 := HZ.out.free 4
  have f5 := HZ.out.free 5
  have z0 := HZ.out.c0
  have z1 := HZ.out.c1
  have z2 := HZ.out.c2
  have z3 := HZ.out.c3
  have z4 := HZ.out.c4
  have z5 := HZ.out.c5
  have v0 := HV.out.c0
  have v1 := HV.out.c1
  have v2 := HV.out.c2
  have v3 := HV.out.c3
  have v4 := HV.out.c4
  have v5 := HV.out.c5
  clear b1 HPl hpb
  go_wp2_with fail
  have e6 : Box (put6 w1 (w.heap.size + 1 + 1) (.int .i64 0) (.bool false) (.int .i64 0) (.string ⟨#[]⟩) (.slice none 0 0) (.slice none 0 0)) (w.heap.size + 1 + 1) ⟨0, false, 0, []⟩ (.slice none 0 0) (.slice none 0 0) := put6_box HZ.out ⟨0, false, 0, []⟩ (.slice none 0 0) (.slice none 0 0)
  have g6 := put6_grown w1 (w.heap.size + 1 + 1) (.int .i64 0) (.bool false) (.int .i64 0) (.string ⟨#[]⟩) (.slice none 0 0) (.slice none 0 0)
  change bodyPost _ _ _ _ _ (put6 w1 (w.heap.size + 1 + 1) _ _ _ _ _ _)
  generalize put6 w1 (w.heap.size + 1 + 1) (.int .i64 0) (.bool false) (.int .i64 0) (.string ⟨#[]⟩) (.slice none 0 0) (.slice none 0 0) = W at *
  exact bodyPost_ret (v := .tuple #[rfV ⟨0, false, 0, []⟩ (.slice none 0 0) (.slice none 0 0), .int .i64 9]) (by simp [results, Tryz.results21, go_sem, rfV, e6.c0, e6.c1, e6.c2, e6.c3, e6.c4, e6.c5]) rfl ⟨HB1.out.grown g6 HB1.out.size (fun k e => by cases e; omega), by decide, by decide, rfl⟩
 | true =>
  rw [hpb] at HPl
  unfold rfV at HPl
  unfold rfV
  go_enter Tryz.func21, Tryz.ntmps21
  go_wp2_with fail
  rw [<- HW0.out]
  refine Calls.mono HPl.out ?_
  rintro e w1 ⟨rfl, b1⟩
  have HB1 : Hid (Below w.heap.size w w1) := HB0.out.trans (b1.mono HB0.out.size)
  have HZ : Hid (Box w1 (w.heap.size + 1 + 1) ⟨0, false, 0, []⟩ (.slice none 0 0) (.slice none 0 0)) := HR0.out.below b1
  have HV : Hid (Box w1 (w.heap.size + 1) ⟨6, false, 0, []⟩ (.slice pn nn cn) (.slice pl nl cl)) := HV0.out.below b1
  have HS1 : Hid (RSt (fun c => av c ∨ c = w.heap.size + 1 + 1) w1 (n + 1) (Sum.inr (Sum.inr fs)) (rfV ⟨6, false, 0, []⟩ (.slice pn nn cn) (.slice pl nl cl))) := (HS.out.wide (fun c e => by
   rcases e with e | e
   ·exact Or.inl e
   ·exact Or.inr (by omega))).below HB1.out
  have f0 := HZ.out.free 0
  have f1 := HZ.out.free 1
  have f2 := HZ.out.free 2
  have f3 := HZ.out.free 3
  have f4 := HZ.out.free 4
  have f5 := HZ.out.free 5
  have z0 := HZ.out.c0
  have z1 := HZ.out.c1
  have z2 := HZ.out.c2
  have z3 := HZ.out.c3
  have z4 := HZ.out.c4
  have z5 := HZ.out.c5
  have v0 := HV.out.c0
  have v1 := HV.out.c1
  have v2 := HV.out.c2
  have v3 := HV.out.c3
  have v4 := HV.out.c4
  have v5 := HV.out.c5
  clear b1 HPl hpb
  go_wp2_with fail
  have e6 : Box (put6 w1 (w.heap.size + 1 + 1) (.int .i64 6) (.bool false) (.int .i64 0) (.string ⟨#[]⟩) (.slice pn nn cn) (.slice pl nl cl)) (w.heap.size + 1 + 1) ⟨6, false, 0, []⟩ (.slice pn nn cn) (.slice pl nl cl) := put6_box HZ.out ⟨6, false, 0, []⟩ (.slice pn nn cn) (.slice pl nl cl)
  have g6 := put6_grown w1 (w.heap.size + 1 + 1) (.int .i64 6) (.bool false) (.int .i64 0) (.string ⟨#[]⟩) (.slice pn nn cn) (.slice pl nl cl)
  change bodyPost _ _ _ _ _ (put6 w1 (w.heap.size + 1 + 1) _ _ _ _ _ _)
  generalize put6 w1 (w.heap.size + 1 + 1) (.int .i64 6) (.bool false) (.int .i64 0) (.string ⟨#[]⟩) (.slice pn nn cn) (.slice pl nl cl) = W at *
  exact bodyPost_ret (v := .tuple #[rfV ⟨6, false, 0, []⟩ (.slice pn nn cn) (.slice pl nl cl), .int .i64 0]) (by simp [results, Tryz.results21, go_sem, rfV, e6.c0, e6.c1, e6.c2, e6.c3, e6.c4, e6.c5]) rfl ⟨HB1.out.grown g6 HB1.out.size (fun k e => by cases e; omega), _, rfl, (HS1.out.grown g6 (fun k e => by cases e; exact Or.inr rfl)).wide (fun c e => Or.inl (Or.inl e))⟩
end Go.Proofs.YtjcdklbimaclkaaGreatDoor
