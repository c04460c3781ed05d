/- RfList, RfWord, RfText -/
import Derived.Test.YtjcdklbimaclkaaGreatDoorMAa
import Derived.Test.YtjcdklbimaclkaaGreatDoorMAo
import Derived.Test.YtjcdklbimaclkaaGreatDoorMAf
import Derived.Test.YtjcdklbimaclkaaGreatDoorMAg
import Derived.Test.YtjcdklbimaclkaaGreatDoorMAb
namespace Go.Proofs.YtjcdklbimaclkaaGreatDoor
open Go.RowKit
set_option linter.unusedVariables false
set_option linter.unusedSimpArgs false
theorem Rf.below {b : Nat} {t : ByteArray} {p k : Nat} {w w' : World} (h : Rf b t p k w) (g : Below w.heap.size w w') : Rf b t p k w' := (g.block b h.lt).trans h
def RValPost (b : Nat) (t : ByteArray) (p k n : Nat) (w : World) (e : Ending) (w' : World) : Prop :=
 G b w w' /\ ((∃ (er : Nat) (h : Hd), value n k (rest t p) = .error er /\ er ≠ 0 /\ er < 100 /\ e = .returned (.tuple #[rfV h (.slice none 0 0) (.slice none 0 0), .int .i64 er])) ∨
  ∃ (j : J n) (k' q : Nat) (v : Value), value n k (rest t p) = .ok (j, k', rest t q) /\ p < q /\ q <= t.size /\ k < k' /\ k' <= 200 /\ e = .returned (.tuple #[v, .int .i64 0]) /\ Rf b t q k' w' /\ RSt (fun c => c < w.heap.size) w' n j v)
def RValueOK (n : Nat) : Prop := ∀ (b : Nat) (t : ByteArray) (p k : Nat) (d : Int) (w : World), Rf b t p k w -> p <= t.size -> t.size <= 2000 -> k <= 200 -> d + n = 10 -> 0 <= d ->
 Calls Tryz.prog 50 #[.pointer (some ⟨b, 0, none⟩), .int .i64 d] w (RValPost b t p k n w)
def RListPost (b : Nat) (t : ByteArray) (p k n : Nat) (w : World) (e : Ending) (w' : World) : Prop :=
 G b w w' /\ ((∃ (er : Nat) (h : Hd), row 93 (oneItem (value n)) [] k (rest t p) = .error er /\ er ≠ 0 /\ er < 100 /\ e = .returned (.tuple #[rfV h (.slice none 0 0) (.slice none 0 0), .int .i64 er])) ∨
  ∃ (s : List (J n)) (k' q : Nat) (v : Value), row 93 (oneItem (value n)) [] k (rest t p) = .ok (s, k', rest t q) /\ p < q /\ q <= t.size /\ k' <= 200 /\ e = .returned (.tuple #[v, .int .i64 0]) /\ Rf b t q k' w' /\ RSt (fun c => c < w.heap.size) w' (n + 1) (Sum.inr (Sum.inl s)) v)
set_option maxRecDepth 100000 in
set_option maxHeartbeats 4000000 in
theorem rflist_any (n b : Nat) (t : ByteArray) (p k : Nat) (d : Int) (w : World) (hV : RValueOK n) (hdn : d + 1 + n = 10) (hd0 : 0 <= d) (h : Rf b t p k w) (hlt : p < t.size) (ht : t.size <= 2000) (hk : k <= 200) :
  Calls Tryz.prog 67 #[.pointer (some ⟨b, 0, none⟩), .int .i64 d] w (RListPost b t p k n w) := by
 obtain ⟨i0, hi, hz0, hz1, hz2⟩ := info_parts info_V
 have hbw := h.lt
 have a1 := h.place
 have a2 := h.free 1
 obtain ⟨ws, hws⟩ : ∃ ws, ws = w.setCell ⟨b, 1, none⟩ (.int .i64 ((p : Int) + 1)) := ⟨_, rfl⟩
 have hRs : Rf b t (p + 1) k ws := by rw [hws]; exact h.move (p + 1)
 have hGs : G b w ws := by rw [hws]; exact (G.refl b w).setCell 1 _
 have hss : ws.heap.size = w.heap.size := by rw [hws]; exact heap_setCell_size _ _ _
 obtain ⟨w1, hw1⟩ : ∃ w1, w1 = (ws.alloc (.cells #[.int .i64 0, .bool false, .int .i64 0, .string ⟨#[]⟩, .slice none 0 0, .slice none 0 0] 38)).alloc (.cells #[.int .i64 5, .bool false, .int .i64 0, .string ⟨#[]⟩, .slice none 0 0, .slice none 0 0] 38) := ⟨_, rfl⟩
 have HR1 : Hid (Rf b t (p + 1) k w1) := by show Rf _ _ _ _ _; rw [hw1]; exact (hRs.alloc _).alloc _
 have HG1 : Hid (G b w w1) := by show G _ _ _; rw [hw1]; exact (hGs.alloc _).alloc _
 have HZ1 : Hid (Box w1 w.heap.size ⟨0, false, 0, []⟩ (.slice none 0 0) (.slice none 0 0)) := by
  show Box _ _ _ _ _
  rw [hw1, <- hss]
  exact (box_new ws ⟨0, false, 0, []⟩ _ _).below ((Below.refl _ _).alloc (Nat.le_refl _) _)
 have HO1 : Hid (Box w1 (w.heap.size + 1) ⟨5, false, 0, []⟩ (.slice none 0 0) (.slice none 0 0)) := by
  show Box _ _ _ _ _
  have := box_new (ws.alloc (.cells #[.int .i64 0, .bool false, .int .i64 0, .string ⟨#[]⟩, .slice none 0 0, .slice none 0 0] 38)) ⟨5, false, 0, []⟩ (.slice none 0 0) (.slice none 0 0)
  rw [hw1, <- hss]
  simpa using this
 have hsz1 : w1.heap.size = w.heap.size + 2 := by rw [hw1, <- hss]; simp
 rw [hws] at hw1
 have HW1 : Hid (w1 = ((w.setCell ⟨b, 1, none⟩ (.int .i64 ((p : Int) + 1))).alloc (.cells #[.int .i64 0, .bool false, .int .i64 0, .string ⟨#[]⟩, .slice none 0 0, .slice none 0 0] 38)).alloc (.cells #[.int .i64 5, .bool false, .int .i64 0, .string ⟨#[]⟩, .slice none 0 0, .slice none 0 0] 38)) := hw1
 have HV : Hid (RValueOK n) := hV
 have HRow : Hid (row 93 (oneItem (value n)) [] k (rest t p) = if hd (skip (rest t (p + 1))) = 93 then .ok ([], k, (skip (rest t (p + 1))).tail) else rowGo 93 (oneItem (value n)) ((rest t p).length + 1) [] k (skip (rest t (p + 1)))) := by
  show row 93 (oneItem (value n)) [] k (rest t p) = _
  rw [row, rest_tail]
 have HTL : Hid (∀ q, q <= t.size -> (skip (rest t q)).tail = rest t (skipAt t q + 1)) := fun q hq => by rw [<- rest_skip t q hq, rest_tail]
 have HSL : Hid (∀ q c, q <= t.size -> hd (rest t (skipAt t q)) = c -> c ≠ 0 -> skipAt t q < t.size) := fun q c hq h hc => lt_of_hd (by rw [h]; exact hc)
 clear hw1 hws hRs hGs hss h hV
 unfold RListPost
 generalize row 93 (oneItem (value n)) [] k (rest t p) = res at *
 go_enter Tryz.func67, Tryz.ntmps67
 go_wp2_with fail
 rw [<- HW1.out]
 clear a1 a2
 have hge := skipAt_ge t (p + 1) (by omega)
 have hle := skipAt_le t (p + 1)
 by_cases he : hd (rest t (skipAt t (p + 1))) = 93
 ·have hs1 := HSL.out (p + 1) _ (by omega) he (by decide)
  have HE : Hid (hd (rest t (skipAt t (p + 1))) = 93) := he
  clear he
  refine (eat_yes b t (p + 1) k 93 w1 HR1.out (by omega) ht (by decide) HE.out).mono ?_
  rintro e w2 ⟨rfl, g2, r2⟩
  have HG2 : Hid (G b w w2) := HG1.out.trans g2
  have HR2 : Hid (Rf b t (skipAt t (p + 1) + 1) k w2) := r2
  have HZ2 : Hid (Box w2 w.heap.size ⟨0, false, 0, []⟩ (.slice none 0 0) (.slice none 0 0)) := HZ1.out.grown g2 (fun e => by cases e; omega)
  have HO2 : Hid (Box w2 (w.heap.size + 1) ⟨5, false, 0, []⟩ (.slice none 0 0) (.slice none 0 0)) := HO1.out.grown g2 (fun e => by cases e; omega)
  have HX : Hid (res = .ok ([], k, rest t (skipAt t (p + 1) + 1))) := by
   show res = _
   rw [HRow.out, if_pos (by rw [<- rest_skip t (p + 1) (by omega)]; exact HE.out), HTL.out _ (by omega)]
  have o0 := HO2.out.c0
  have o1 := HO2.out.c1
  have o2 := HO2.out.c2
  have o3 := HO2.out.c3
  have o4 := HO2.out.c4
  have o5 := HO2.out.c5
  have f0 := HZ2.out.free 0
  have f1 := HZ2.out.free 1
  have f2 := HZ2.out.free 2
  have f3 := HZ2.out.free 3
  have f4 := HZ2.out.free 4
  have f5 := HZ2.out.free 5
  have z0 := HZ2.out.c0
  have z1 := HZ2.out.c1
  have z2 := HZ2.out.c2
  have z3 := HZ2.out.c3
  have z4 := HZ2.out.c4
  have z5 := HZ2.out.c5
  clear g2 r2
  go_wp2_with fail
  have e6 : Box (put6 w2 (w.heap.size) (.int .i64 5) (.bool false) (.int .i64 0) (.string ⟨#[]⟩) (.slice none 0 0) (.slice none 0 0)) (w.heap.size) ⟨5, false, 0, []⟩ (.slice none 0 0) (.slice none 0 0) := put6_box HZ2.out ⟨5, false, 0, []⟩ (.slice none 0 0) (.slice none 0 0)
  have g6 := put6_grown w2 (w.heap.size) (.int .i64 5) (.bool false) (.int .i64 0) (.string ⟨#[]⟩) (.slice none 0 0) (.slice none 0 0)
  change bodyPost _ _ _ _ _ (put6 w2 (w.heap.size) _ _ _ _ _ _)
  generalize put6 w2 (w.heap.size) (.int .i64 5) (.bool false) (.int .i64 0) (.string ⟨#[]⟩) (.slice none 0 0) (.slice none 0 0) = W at *
  exact bodyPost_ret (v := .tuple #[rfV ⟨5, false, 0, []⟩ (.slice none 0 0) (.slice none 0 0), .int .i64 0]) (by simp [results, Tryz.results67, go_sem, rfV, e6.c0, e6.c1, e6.c2, e6.c3, e6.c4, e6.c5]) rfl ⟨HG2.out.grown g6 (fun k e => by cases e; omega), Or.inr ⟨[], k, skipAt t (p + 1) + 1, _, HX.out, by omega, by omega, hk, rfl, HR2.out.kept g6 (fun e => by cases e; omega), rst_mk (j := (Sum.inr (Sum.inl []) : J (n + 1))) (Or.inl ⟨rfl, rfl⟩) (Or.inl ⟨rfl, rfl⟩)⟩⟩
 have HR0 : Hid (res = rowGo 93 (oneItem (value n)) ((rest t p).length + 1) [] k (rest t (skipAt t (p + 1)))) := by
  show res = _
  rw [HRow.out, rest_skip t (p + 1) (by omega), if_neg (by rw [<- rest_skip t (p + 1) (by omega)]; exact he)]
 have HE : Hid (hd (rest t (skipAt t (p + 1))) ≠ 93) := he
 have hlen : (rest t p).length = t.size - p := rest_len t p
 clear he
 refine (eat_no b t (p + 1) k 93 w1 HR1.out (by omega) ht (by decide) HE.out).mono ?_
 rintro e w2 ⟨rfl, g2, r2⟩
 have HG2 : Hid (G b w w2) := HG1.out.trans g2
 have HR2 : Hid (Rf b t (skipAt t (p + 1)) k w2) := r2
 have HZ2 : Hid (Box w2 w.heap.size ⟨0, false, 0, []⟩ (.slice none 0 0) (.slice none 0 0)) := HZ1.out.grown g2 (fun e => by cases e; omega)
 have HO2 : Hid (Box w2 (w.heap.size + 1) ⟨5, false, 0, []⟩ (.slice none 0 0) (.slice none 0 0)) := HO1.out.grown g2 (fun e => by cases e; omega)
 have hsz2 : w.heap.size + 2 <= w2.heap.size := by have := g2.size; omega
 clear g2 r2
 go_wp2_with fail
 go_loopw [20] (fun _ wr => ∃ (s : List (J n)) (k' q f : Nat) (vl : Value), q <= t.size /\ k' <= 200 /\ p < q /\ t.size - q < f /\ s.length <= k' /\ res = rowGo 93 (oneItem (value n)) f s k' (rest t q) /\ OwnV (fun c => c < w.heap.size + 2) (w.heap.size + 2) wr n s vl /\ Box wr w.heap.size ⟨0, false, 0, []⟩ (.slice none 0 0) (.slice none 0 0) /\ Box wr (w.heap.size + 1) ⟨5, false, 0, []⟩ (.slice none 0 0) vl /\ Rf b t q k' wr /\ G b w wr /\ w.heap.size + 2 <= wr.heap.size) (fun _ wr => t.size - placeOf b wr)
 case atStart => exact ⟨[], k, skipAt t (p + 1), (rest t p).length + 1, .slice none 0 0, hle, hk, by omega, by omega, Nat.zero_le _, HR0.out, OwnV.nil _ _ _ _, HZ2.out, HO2.out, HR2.out, HG2.out, hsz2⟩
 case round =>
  obtain ⟨s, k', q, f, vl, hq, hk', hpq, hf, hsk, hres, hown, hZ, hO, hR, hG, hsz⟩ := hrel
  obtain ⟨f, rfl⟩ : ∃ f', f = f' + 1 := ⟨f - 1, by omega⟩
  have HRes : Hid (res = rowGo 93 (oneItem (value n)) (f + 1) s k' (rest t q)) := hres
  have HOw : Hid (OwnV (fun c => c < w.heap.size + 2) (w.heap.size + 2) wr n s vl) := hown
  have HZ' : Hid (Box wr w.heap.size ⟨0, false, 0, []⟩ (.slice none 0 0) (.slice none 0 0)) := hZ
  have HO' : Hid (Box wr (w.heap.size + 1) ⟨5, false, 0, []⟩ (.slice none 0 0) vl) := hO
  have HR' : Hid (Rf b t q k' wr) := hR
  have HG' : Hid (G b w wr) := hG
  clear hres hown hZ hO hR hG HZ2 HO2 HR2 HG2 HR1 HG1 HZ1 HO1 HW1
  go_wp2_with fail
  refine (HV.out b t q k' (d + 1) wr HR'.out hq ht hk' hdn (by omega)).mono ?_
  rintro e w3 ⟨g3, h3⟩
  have HG3 : Hid (G b w w3) := HG'.out.trans g3
  have HG3' : Hid (G b wr w3) := g3
  have HZ3 : Hid (Box w3 w.heap.size ⟨0, false, 0, []⟩ (.slice none 0 0) (.slice none 0 0)) := HZ'.out.grown g3 (fun e => by cases e; omega)
  have HO3 : Hid (Box w3 (w.heap.size + 1) ⟨5, false, 0, []⟩ (.slice none 0 0) vl) := HO'.out.grown g3 (fun e => by cases e; omega)
  have hsz3 : w.heap.size + 2 <= w3.heap.size := by have := g3.size; omega
  have HOw3 : Hid (OwnV (fun c => c < w.heap.size + 2) (w.heap.size + 2) w3 n s vl) := HOw.out.far g3 (fun k e => by cases e; exact ⟨by omega, by omega⟩)
  clear g3
  rcases h3 with ⟨er, hh, hv, her, her2, rfl⟩ | ⟨j, k2, q2, v, hv, hqq, hq2, hkk, hk2, rfl, hR3, hst⟩
  ·have hbe : ((er : Int) != 0) = true := by rw [bne_iff_ne]; omega
   have HX : Hid (res = .error er) := by
    show res = _
    rw [HRes.out, rowGo, oneItem, hv]
   have HZ4 : Hid (∀ o, Box (w3.alloc o) w.heap.size ⟨0, false, 0, []⟩ (.slice none 0 0) (.slice none 0 0)) := fun o => HZ3.out.below ((Below.refl _ _).alloc (Nat.le_refl _) _)
   unfold rfV
   have f0 := fun o => (HZ4.out o).free 0
   have f1 := fun o => (HZ4.out o).free 1
   have f2 := fun o => (HZ4.out o).free 2
   have f3 := fun o => (HZ4.out o).free 3
   have f4 := fun o => (HZ4.out o).free 4
   have f5 := fun o => (HZ4.out o).free 5
   have z0 := fun o => (HZ4.out o).c0
   have z1 := fun o => (HZ4.out o).c1
   have z2 := fun o => (HZ4.out o).c2
   have z3 := fun o => (HZ4.out o).c3
   have z4 := fun o => (HZ4.out o).c4
   have z5 := fun o => (HZ4.out o).c5
   clear hv
   go_wp2_with fail
   have HZ5 : Hid (Box (w3.alloc (.cells #[.int .i64 hh.k, .bool hh.b, .int .i64 hh.i, .string ⟨hh.s.toArray⟩, .slice none 0 0, .slice none 0 0] 38)) w.heap.size ⟨0, false, 0, []⟩ (.slice none 0 0) (.slice none 0 0)) := HZ4.out _
   have HG5 : Hid (G b w (w3.alloc (.cells #[.int .i64 hh.k, .bool hh.b, .int .i64 hh.i, .string ⟨hh.s.toArray⟩, .slice none 0 0, .slice none 0 0] 38))) := HG3.out.alloc _
   generalize w3.alloc (.cells #[.int .i64 hh.k, .bool hh.b, .int .i64 hh.i, .string ⟨hh.s.toArray⟩, .slice none 0 0, .slice none 0 0] 38) = w5 at *
   have e6 : Box (put6 w5 (w.heap.size) (.int .i64 0) (.bool false) (.int .i64 0) (.string ⟨#[]⟩) (.slice none 0 0) (.slice none 0 0)) (w.heap.size) ⟨0, false, 0, []⟩ (.slice none 0 0) (.slice none 0 0) := put6_box HZ5.out ⟨0, false, 0, []⟩ (.slice none 0 0) (.slice none 0 0)
   have g6 := put6_grown w5 (w.heap.size) (.int .i64 0) (.bool false) (.int .i64 0) (.string ⟨#[]⟩) (.slice none 0 0) (.slice none 0 0)
   change bodyPost _ _ _ _ _ (put6 w5 (w.heap.size) _ _ _ _ _ _)
   generalize put6 w5 (w.heap.size) (.int .i64 0) (.bool false) (.int .i64 0) (.string ⟨#[]⟩) (.slice none 0 0) (.slice none 0 0) = W at *
   exact bodyPost_ret (v := .tuple #[rfV ⟨0, false, 0, []⟩ (.slice none 0 0) (.slice none 0 0), .int .i64 er]) (by simp [results, Tryz.results67, go_sem, rfV, e6.c0, e6.c1, e6.c2, e6.c3, e6.c4, e6.c5]) rfl ⟨HG5.out.grown g6 (fun k e => by cases e; omega), Or.inl ⟨er, _, HX.out, her, her2, rfl⟩⟩
  ·have HVal : Hid (value n k' (rest t q) = .ok (j, k2, rest t q2)) := hv
   obtain ⟨nm1, l1, rfl⟩ := rst_form hst
   obtain ⟨⟨p1, n1, c1, rfl⟩, p2, n2, c2, rfl⟩ := rst_sl hst
   have HSt : Hid (RSt (fun c => c < wr.heap.size) w3 n j (rfV (headJ n j) (.slice p1 n1 c1) (.slice p2 n2 c2))) := hst
   have HR3 : Hid (Rf b t q2 k2 w3) := hR3
   obtain ⟨us, hul, huo, hue⟩ := HOw3.out
   have HUo : Hid (w3.ownsRow (w.heap.size + 2) 38 6 vl s.length (us.flatMap six3)) := huo
   have HUe : Hid (∀ (i : Nat) (x : J n) (u : Six3), s[i]? = some x -> us[i]? = some u -> u.1 = headJ n x /\ RSt (fun c => c < w.heap.size + 2 ∨ vl.ownBlock = some c) w3 n x (rfV u.1 u.2.1 u.2.2)) := hue
   have HRw : Hid (∀ k, vl.ownBlock = some k -> w.heap.size + 2 <= k /\ k < wr.heap.size) := HOw.out.row
   obtain ⟨pv, cv, hvl⟩ : ∃ pv cv, vl = .slice pv s.length cv := by
    rcases huo.2 with ⟨rfl, h0⟩ | ⟨g, cap, cur, rfl, _⟩
    ·exact ⟨none, 0, by rw [h0]⟩
    ·exact ⟨_, _, rfl⟩
   subst hvl
   have HO4 : Hid (∀ o, Box (w3.alloc o) (w.heap.size + 1) ⟨5, false, 0, []⟩ (.slice none 0 0) (.slice pv s.length cv)) := fun o => HO3.out.below ((Below.refl _ _).alloc (Nat.le_refl _) _)
   have o5 := fun o => (HO4.out o).c5
   have hwr3 : wr.heap.size <= w3.heap.size := HG3'.out.size
   clear hv hst hR3 huo hue
   unfold rfV
   go_wp2_with (at_builtin; refine wpList_append_lies _ rfl _ _ 33 rfl (w.heap.size + 2) 38 i0 (.agg #[.int .i64 0, .bool false, .int .i64 0, .string ⟨#[]⟩, .slice none 0 0, .slice none 0 0]) 6 88 Tryz.underlying33 hi hz0 hz1 hz2 rfl (by decide) (.slice pv s.length cv) s.length (us.flatMap six3) rfl (World.ownsRow.alloc (World.ownsRow.alloc HUo.out _) _) ⟨w3.heap.size + 1, 0, none⟩ 1 1 (six3 (headJ n j, .slice p1 n1 c1, .slice p2 n2 c2)) rfl rfl ?c1 ?c2 (by decide) ?c3 ?c4 ?c5 _ rfl ?_)
   case c1 =>
    have h9 := six_new (w3.alloc (.cells #[.int .i64 (headJ n j).k, .bool (headJ n j).b, .int .i64 (headJ n j).i, .string ⟨(headJ n j).s.toArray⟩, .slice p1 n1 c1, .slice p2 n2 c2] 38)) (headJ n j) (.slice p1 n1 c1) (.slice p2 n2 c2)
    have e9 : (w3.alloc (.cells #[.int .i64 (headJ n j).k, .bool (headJ n j).b, .int .i64 (headJ n j).i, .string ⟨(headJ n j).s.toArray⟩, .slice p1 n1 c1, .slice p2 n2 c2] 38)).heap.size = w3.heap.size + 1 := by simp
    rw [e9] at h9
    exact h9
   case c2 => exact six_one w3 _ _ _ _ _ _ _
   case c3 => unfold maxLen; omega
   case c4 => omega
   case c5 => simp; omega
   intro g cap w5 hown5 hgrow hat hlt5
   have HOw5 : Hid (OwnV (fun c => c < w.heap.size + 2) (w.heap.size + 2) w5 n (s ++ [j]) (.slice (some ⟨g, 0, none⟩) (s.length + 1) cap)) :=
    OwnV.snoc hul (fun i x u hx hu => ⟨(HUe.out i x u hx hu).1, ((HUe.out i x u hx hu).2.alloc _).alloc _⟩) hown5 hgrow (by rcases hat with h | h; exact Or.inl h; exact Or.inr (by simp; omega)) (((HSt.out.wide (fun c e => by
     rcases e with e | e
     ·exact Or.inl (by omega)
     ·exact Or.inl (HRw.out c e).2)).alloc _).alloc _)
   have HO5 : Hid (Box w5 (w.heap.size + 1) ⟨5, false, 0, []⟩ (.slice none 0 0) (.slice pv s.length cv)) := ((HO4.out _).alloc _).grown hgrow (fun e => by have := (HRw.out _ e.symm).1; omega)
   have HZ5 : Hid (Box w5 w.heap.size ⟨0, false, 0, []⟩ (.slice none 0 0) (.slice none 0 0)) := ((HZ3.out.alloc _).alloc _).grown hgrow (fun e => by have := (HRw.out _ e.symm).1; omega)
   have HR5 : Hid (Rf b t q2 k2 w5) := ((HR3.out.alloc _).alloc _).kept hgrow (fun e => by have := (HRw.out _ e.symm).1; omega)
   have HG5 : Hid (G b w w5) := ((HG3.out.alloc _).alloc _).grown hgrow (fun k e => by have := (HRw.out _ e).1; omega)
   have hsz5 : w.heap.size + 2 <= w5.heap.size := by have := hgrow.size; simp at this; omega
   have x5 := HO5.out.c5
   have y5 := HO5.out.free 5
   clear hown5 hgrow hat hlt5 o5
   go_wp2_with fail
   have HO6 : Hid (Box (w5.setCell ⟨w.heap.size + 1, 5, none⟩ (.slice (some ⟨g, 0, none⟩) (s.length + 1) cap)) (w.heap.size + 1) ⟨5, false, 0, []⟩ (.slice none 0 0) (.slice (some ⟨g, 0, none⟩) (s.length + 1) cap)) := HO5.out.setL _
   have HZ6 : Hid (Box (w5.setCell ⟨w.heap.size + 1, 5, none⟩ (.slice (some ⟨g, 0, none⟩) (s.length + 1) cap)) w.heap.size ⟨0, false, 0, []⟩ (.slice none 0 0) (.slice none 0 0)) := HZ5.out.other (by omega) _
   have HR6 : Hid (Rf b t q2 k2 (w5.setCell ⟨w.heap.size + 1, 5, none⟩ (.slice (some ⟨g, 0, none⟩) (s.length + 1) cap))) := HR5.out.kept (grownBy_setCell _ _ _ _) (fun e => by cases e; omega)
   have HG6 : Hid (G b w (w5.setCell ⟨w.heap.size + 1, 5, none⟩ (.slice (some ⟨g, 0, none⟩) (s.length + 1) cap))) := HG5.out.grown (grownBy_setCell _ _ _ _) (fun k e => by cases e; omega)
   have HOw6 : Hid (OwnV (fun c => c < w.heap.size + 2) (w.heap.size + 2) (w5.setCell ⟨w.heap.size + 1, 5, none⟩ (.slice (some ⟨g, 0, none⟩) (s.length + 1) cap)) n (s ++ [j]) (.slice (some ⟨g, 0, none⟩) (s.length + 1) cap)) := HOw5.out.far (grownBy_setCell _ _ _ _) (fun k e => by cases e; exact ⟨by omega, by omega⟩)
   have hsz6 : w.heap.size + 2 <= (w5.setCell ⟨w.heap.size + 1, 5, none⟩ (.slice (some ⟨g, 0, none⟩) (s.length + 1) cap)).heap.size := by rw [heap_setCell_size]; exact hsz5
   clear x5 y5 HO5 HZ5 HR5 HG5 HOw5
   generalize w5.setCell ⟨w.heap.size + 1, 5, none⟩ (.slice (some ⟨g, 0, none⟩) (s.length + 1) cap) = w6 at *
   have hge2 := skipAt_ge t q2 hq2
   have hle2 := skipAt_le t q2
   have HRg : Hid (res = if hd (rest t (skipAt t q2)) = 93 then .ok (s ++ [j], k2, rest t (skipAt t q2 + 1)) else if hd (rest t (skipAt t q2)) = 44 then rowGo 93 (oneItem (value n)) f (s ++ [j]) k2 (rest t (skipAt t q2 + 1)) else .error eSyntax) := by
    show res = _
    rw [HRes.out, rowGo, oneItem, HVal.out]
    simp only []
    rw [HTL.out q2 hq2, rest_skip t q2 hq2]
   by_cases he : hd (rest t (skipAt t q2)) = 93
   ·have hs1 := HSL.out q2 _ hq2 he (by decide)
    have HX : Hid (res = .ok (s ++ [j], k2, rest t (skipAt t q2 + 1))) := by
     show res = _
     rw [HRg.out, if_pos he]
    have HE2 : Hid (hd (rest t (skipAt t q2)) = 93) := he
    clear he
    refine (eat_yes b t q2 k2 93 w6 HR6.out hq2 ht (by decide) HE2.out).mono ?_
    rintro e w7 ⟨rfl, g7, r7⟩
    have HG7 : Hid (G b w w7) := HG6.out.trans g7
    have HR7 : Hid (Rf b t (skipAt t q2 + 1) k2 w7) := r7
    have HZ7 : Hid (Box w7 w.heap.size ⟨0, false, 0, []⟩ (.slice none 0 0) (.slice none 0 0)) := HZ6.out.grown g7 (fun e => by cases e; omega)
    have HO7 : Hid (Box w7 (w.heap.size + 1) ⟨5, false, 0, []⟩ (.slice none 0 0) (.slice (some ⟨g, 0, none⟩) (s.length + 1) cap)) := HO6.out.grown g7 (fun e => by cases e; omega)
    have HOw7 : Hid (OwnV (fun c => c < w.heap.size + 2) (w.heap.size + 2) w7 n (s ++ [j]) (.slice (some ⟨g, 0, none⟩) (s.length + 1) cap)) := HOw6.out.far g7 (fun k e => by cases e; exact ⟨by omega, by omega⟩)
    have o0 := HO7.out.c0
    have o1 := HO7.out.c1
    have o2 := HO7.out.c2
    have o3 := HO7.out.c3
    have o4 := HO7.out.c4
    have o5 := HO7.out.c5
    have f0 := HZ7.out.free 0
    have f1 := HZ7.out.free 1
    have f2 := HZ7.out.free 2
    have f3 := HZ7.out.free 3
    have f4 := HZ7.out.free 4
    have f5 := HZ7.out.free 5
    have z0 := HZ7.out.c0
    have z1 := HZ7.out.c1
    have z2 := HZ7.out.c2
    have z3 := HZ7.out.c3
    have z4 := HZ7.out.c4
    have z5 := HZ7.out.c5
    clear g7 r7
    go_wp2_with fail
    have e6 : Box (put6 w7 (w.heap.size) (.int .i64 5) (.bool false) (.int .i64 0) (.string ⟨#[]⟩) (.slice none 0 0) (.slice (some ⟨g, 0, none⟩) (s.length + 1) cap)) (w.heap.size) ⟨5, false, 0, []⟩ (.slice none 0 0) (.slice (some ⟨g, 0, none⟩) (s.length + 1) cap) := put6_box HZ7.out ⟨5, false, 0, []⟩ (.slice none 0 0) (.slice (some ⟨g, 0, none⟩) (s.length + 1) cap)
    have g6 := put6_grown w7 (w.heap.size) (.int .i64 5) (.bool false) (.int .i64 0) (.string ⟨#[]⟩) (.slice none 0 0) (.slice (some ⟨g, 0, none⟩) (s.length + 1) cap)
    change bodyPost _ _ _ _ _ (put6 w7 (w.heap.size) _ _ _ _ _ _)
    generalize put6 w7 (w.heap.size) (.int .i64 5) (.bool false) (.int .i64 0) (.string ⟨#[]⟩) (.slice none 0 0) (.slice (some ⟨g, 0, none⟩) (s.length + 1) cap) = W at *
    exact bodyPost_ret (v := .tuple #[rfV ⟨5, false, 0, []⟩ (.slice none 0 0) (.slice (some ⟨g, 0, none⟩) (s.length + 1) cap), .int .i64 0]) (by simp [results, Tryz.results67, go_sem, rfV, e6.c0, e6.c1, e6.c2, e6.c3, e6.c4, e6.c5]) rfl ⟨HG7.out.grown g6 (fun k e => by cases e; omega), Or.inr ⟨s ++ [j], k2, skipAt t q2 + 1, _, HX.out, by omega, by omega, hk2, rfl, HR7.out.kept g6 (fun e => by cases e; omega), rst_mk (j := (Sum.inr (Sum.inl (s ++ [j])) : J (n + 1))) (Or.inl ⟨rfl, rfl⟩) (((HOw7.out.far g6 (fun k e => by cases e; exact ⟨by omega, by omega⟩)).vals (fun c hc => by omega)).move (Nat.le_refl _) (fun _ _ _ => rfl) (fun c hc hn => by omega))⟩⟩
   have HE2 : Hid (hd (rest t (skipAt t q2)) ≠ 93) := he
   have HX1 : Hid (res = if hd (rest t (skipAt t q2)) = 44 then rowGo 93 (oneItem (value n)) f (s ++ [j]) k2 (rest t (skipAt t q2 + 1)) else .error eSyntax) := by
    show res = _
    rw [HRg.out, if_neg he]
   clear he
   refine (eat_no b t q2 k2 93 w6 HR6.out hq2 ht (by decide) HE2.out).mono ?_
   rintro e w7 ⟨rfl, g7, r7⟩
   have HG7 : Hid (G b w w7) := HG6.out.trans g7
   have HR7 : Hid (Rf b t (skipAt t q2) k2 w7) := r7
   have HZ7 : Hid (Box w7 w.heap.size ⟨0, false, 0, []⟩ (.slice none 0 0) (.slice none 0 0)) := HZ6.out.grown g7 (fun e => by cases e; omega)
   have HO7 : Hid (Box w7 (w.heap.size + 1) ⟨5, false, 0, []⟩ (.slice none 0 0) (.slice (some ⟨g, 0, none⟩) (s.length + 1) cap)) := HO6.out.grown g7 (fun e => by cases e; omega)
   have HOw7 : Hid (OwnV (fun c => c < w.heap.size + 2) (w.heap.size + 2) w7 n (s ++ [j]) (.slice (some ⟨g, 0, none⟩) (s.length + 1) cap)) := HOw6.out.far g7 (fun k e => by cases e; exact ⟨by omega, by omega⟩)
   have hsz7 : w.heap.size + 2 <= w7.heap.size := by have := g7.size; omega
   have hsk2 : skipAt t (skipAt t q2) = skipAt t q2 := skipAt_skipAt t q2 hq2
   clear g7 r7
   go_wp2_with fail
   by_cases he : hd (rest t (skipAt t q2)) = 44
   ·have hs1 := HSL.out q2 _ hq2 he (by decide)
    have HX : Hid (res = rowGo 93 (oneItem (value n)) f (s ++ [j]) k2 (rest t (skipAt t q2 + 1))) := by
     show res = _
     rw [HX1.out, if_pos he]
    have HE3 : Hid (hd (rest t (skipAt t (skipAt t q2))) = 44) := by show hd _ = 44; rw [hsk2]; exact he
    clear he
    refine (eat_yes b t (skipAt t q2) k2 44 w7 HR7.out hle2 ht (by decide) HE3.out).mono ?_
    rintro e w8 ⟨rfl, g8, r8⟩
    rw [hsk2] at r8
    have HG8 : Hid (G b w w8) := HG7.out.trans g8
    have HR8 : Hid (Rf b t (skipAt t q2 + 1) k2 w8) := r8
    have HZ8 : Hid (Box w8 w.heap.size ⟨0, false, 0, []⟩ (.slice none 0 0) (.slice none 0 0)) := HZ7.out.grown g8 (fun e => by cases e; omega)
    have HO8 : Hid (Box w8 (w.heap.size + 1) ⟨5, false, 0, []⟩ (.slice none 0 0) (.slice (some ⟨g, 0, none⟩) (s.length + 1) cap)) := HO7.out.grown g8 (fun e => by cases e; omega)
    have HOw8 : Hid (OwnV (fun c => c < w.heap.size + 2) (w.heap.size + 2) w8 n (s ++ [j]) (.slice (some ⟨g, 0, none⟩) (s.length + 1) cap)) := HOw7.out.far g8 (fun k e => by cases e; exact ⟨by omega, by omega⟩)
    have hsz8 : w.heap.size + 2 <= w8.heap.size := by have := g8.size; omega
    clear g8 r8
    go_wp2_with fail
    go_roundw
    case rel => exact ⟨s ++ [j], k2, skipAt t q2 + 1, f, _, by omega, hk2, by omega, by omega, by simp; omega, HX.out, HOw8.out, HZ8.out, HO8.out, HR8.out, HG8.out, hsz8⟩
    case measure => rw [HR8.out.placeOf_eq, HR'.out.placeOf_eq]; omega
   ·have HX : Hid (res = .error 3) := by
     show res = _
     rw [HX1.out, if_neg he]
    have HE3 : Hid (hd (rest t (skipAt t (skipAt t q2))) ≠ 44) := by show hd _ ≠ 44; rw [hsk2]; exact he
    clear he
    refine (eat_no b t (skipAt t q2) k2 44 w7 HR7.out hle2 ht (by decide) HE3.out).mono ?_
    rintro e w8 ⟨rfl, g8, r8⟩
    have HG8 : Hid (G b w w8) := HG7.out.trans g8
    have HZ8 : Hid (Box w8 w.heap.size ⟨0, false, 0, []⟩ (.slice none 0 0) (.slice none 0 0)) := HZ7.out.grown g8 (fun e => by cases e; omega)
    have f0 := HZ8.out.free 0
    have f1 := HZ8.out.free 1
    have f2 := HZ8.out.free 2
    have f3 := HZ8.out.free 3
    have f4 := HZ8.out.free 4
    have f5 := HZ8.out.free 5
    have z0 := HZ8.out.c0
    have z1 := HZ8.out.c1
    have z2 := HZ8.out.c2
    have z3 := HZ8.out.c3
    have z4 := HZ8.out.c4
    have z5 := HZ8.out.c5
    clear g8 r8
    go_wp2_with fail
    have e6 : Box (put6 w8 (w.heap.size) (.int .i64 0) (.bool false) (.int .i64 0) (.string ⟨#[]⟩) (.slice none 0 0) (.slice none 0 0)) (w.heap.size) ⟨0, false, 0, []⟩ (.slice none 0 0) (.slice none 0 0) := put6_box HZ8.out ⟨0, false, 0, []⟩ (.slice none 0 0) (.slice none 0 0)
    have g6 := put6_grown w8 (w.heap.size) (.int .i64 0) (.bool false) (.int .i64 0) (.string ⟨#[]⟩) (.slice none 0 0) (.slice none 0 0)
    change bodyPost _ _ _ _ _ (put6 w8 (w.heap.size) _ _ _ _ _ _)
    generalize put6 w8 (w.heap.size) (.int .i64 0) (.bool false) (.int .i64 0) (.string ⟨#[]⟩) (.slice none 0 0) (.slice none 0 0) = W at *
    exact bodyPost_ret (v := .tuple #[rfV ⟨0, false, 0, []⟩ (.slice none 0 0) (.slice none 0 0), .int .i64 3]) (by simp [results, Tryz.results67, go_sem, rfV, e6.c0, e6.c1, e6.c2, e6.c3, e6.c4, e6.c5]) rfl ⟨HG8.out.grown g6 (fun k e => by cases e; omega), Or.inl ⟨3, _, HX.out, by decide, by decide, rfl⟩⟩
def rfLeaf (kk : Nat) (bb : Bool) (n : Int) (s : ByteArray) : Value := .agg #[.int .i64 kk, .bool bb, .int .i64 n, .string s, .slice none 0 0, .slice none 0 0]
theorem Rf.other {b c o p k : Nat} {t : ByteArray} {w : World} (h : Rf b t p k w) (hc : b ≠ c) (v : Value) : Rf b t p k (w.setCell ⟨c, o, none⟩ v) :=
 h.kept (grownBy_setCell w c o v) (fun e => hc (Option.some.inj e))
set_option maxRecDepth 100000 in
set_option maxHeartbeats 2000000 in
theorem rfword_yes (b : Nat) (t u : ByteArray) (p k kk : Nat) (bb : Bool) (w : World) (h : Rf b t p k w) (hp : p <= t.size) (ht : t.size <= 2000) (hu : u.size <= 2000) (hw : u.data.toList.isPrefixOf (rest t p) = true) :
  Calls Tryz.prog 70 #[.pointer (some ⟨b, 0, none⟩), .string u, rfLeaf kk bb 0 ⟨#[]⟩] w fun e w' => e = .returned (.tuple #[rfLeaf kk bb 0 ⟨#[]⟩, .int .i64 0]) /\ G b w w' /\ Rf b t (p + u.size) k w' := by
 unfold rfLeaf
 obtain ⟨w0, hw0⟩ : ∃ w0, w0 = (w.alloc (.cells #[.int .i64 kk, .bool bb, .int .i64 0, .string ⟨#[]⟩, .slice none 0 0, .slice none 0 0] 38)).alloc (.cells #[.int .i64 0, .bool false, .int .i64 0, .string ⟨#[]⟩, .slice none 0 0, .slice none 0 0] 38) := ⟨_, rfl⟩
 have h2 : Rf b t p k w0 := by rw [hw0]; exact (h.alloc _).alloc _
 have h0 := h2.text
 have h1 := h2.place
 have HR : Hid (Rf b t p k w0) := h2
 have HW : Hid (u.data.toList.isPrefixOf (t.extract p t.size).data.toList = true) := by rw [extract_rest]; exact hw
 have hsz : (t.extract p t.size).size <= 1000000 := by simp; omega
 have HZ : Hid ((t.extract p t.size).size <= 1000000) := hsz
 have hI : (p : Int) <= (t.size : Int) := by omega
 have hw2 : u.data.toList.isPrefixOf (List.take (t.size - p) (List.drop p t.data.toList)) = true := by
  have e : List.take (t.size - p) (List.drop p t.data.toList) = rest t p := List.take_of_length_le (by simp)
  rw [e]; exact hw
 have HG0 : Hid (G b w w0) := by
  show G b w w0
  rw [hw0]
  exact ((G.refl b w).alloc _).alloc _
 have HV : Hid (w0.heap[w.heap.size]? = some (.cells #[.int .i64 kk, .bool bb, .int .i64 0, .string ⟨#[]⟩, .slice none 0 0, .slice none 0 0] 38 (0, 0))) := by
  show w0.heap[w.heap.size]? = _
  rw [hw0, Below.heap_alloc _ _ _ (by simp)]
  exact heap_alloc_new w _
 have HZr : Hid (w0.heap[w.heap.size + 1]? = some (.cells #[.int .i64 0, .bool false, .int .i64 0, .string ⟨#[]⟩, .slice none 0 0, .slice none 0 0] 38 (0, 0))) := by
  have h0 := heap_alloc_new (w.alloc (.cells #[.int .i64 kk, .bool bb, .int .i64 0, .string ⟨#[]⟩, .slice none 0 0, .slice none 0 0] 38)) (.cells #[.int .i64 0, .bool false, .int .i64 0, .string ⟨#[]⟩, .slice none 0 0, .slice none 0 0] 38)
  have e0 : (w.alloc (.cells #[.int .i64 kk, .bool bb, .int .i64 0, .string ⟨#[]⟩, .slice none 0 0, .slice none 0 0] 38)).heap.size = w.heap.size + 1 := by simp
  rw [e0, <- hw0] at h0
  exact h0
 have HW0 : Hid (w0 = (w.alloc (.cells #[.int .i64 kk, .bool bb, .int .i64 0, .string ⟨#[]⟩, .slice none 0 0, .slice none 0 0] 38)).alloc (.cells #[.int .i64 0, .bool false, .int .i64 0, .string ⟨#[]⟩, .slice none 0 0, .slice none 0 0] 38)) := hw0
 have hbw := h.lt
 clear h hw hsz h2 hw0
 go_enter Tryz.func70, Tryz.ntmps70
 go_wp2
 rw [<- HW0.out]
 go_quiet (first | (go_at_call 81; exact Calls.quiet_of_same (hasPrefix_any _ _ _ (by exact HZ.out) (by omega))))
 rw [HW.out]
 have HR1 : Hid (Rf b t p k (w0.drewN nq)) := HR.out.drewN nq
 have HG1 : Hid (G b w (w0.drewN nq)) := HG0.out.drewN nq
 have HV1 : Hid ((w0.drewN nq).heap[w.heap.size]? = some (.cells #[.int .i64 kk, .bool bb, .int .i64 0, .string ⟨#[]⟩, .slice none 0 0, .slice none 0 0] 38 (0, 0))) := HV.out
 have HZ1 : Hid ((w0.drewN nq).heap[w.heap.size + 1]? = some (.cells #[.int .i64 0, .bool false, .int .i64 0, .string ⟨#[]⟩, .slice none 0 0, .slice none 0 0] 38 (0, 0))) := HZr.out
 have c1 := HR1.out.place
 have c2 := HR1.out.free 1
 have z0 : (w0.drewN nq).cell? ⟨w.heap.size, 0, none⟩ = some (.int .i64 kk) := by rw [cell_of_row _ _ _ _ _ _ HV1.out]; rfl
 have r0 : (w0.drewN nq).cell? ⟨w.heap.size + 1, 0, none⟩ = some (.int .i64 0) := by rw [cell_of_row _ _ _ _ _ _ HZ1.out]; rfl
 have f0 : (w0.drewN nq).frozen? ⟨w.heap.size + 1, 0, none⟩ = false := frozen_of_row _ _ _ _ _ HZ1.out
 have z1 : (w0.drewN nq).cell? ⟨w.heap.size, 1, none⟩ = some (.bool bb) := by rw [cell_of_row _ _ _ _ _ _ HV1.out]; rfl
 have r1 : (w0.drewN nq).cell? ⟨w.heap.size + 1, 1, none⟩ = some (.bool false) := by rw [cell_of_row _ _ _ _ _ _ HZ1.out]; rfl
 have f1 : (w0.drewN nq).frozen? ⟨w.heap.size + 1, 1, none⟩ = false := frozen_of_row _ _ _ _ _ HZ1.out
 have z2 : (w0.drewN nq).cell? ⟨w.heap.size, 2, none⟩ = some (.int .i64 0) := by rw [cell_of_row _ _ _ _ _ _ HV1.out]; rfl
 have r2 : (w0.drewN nq).cell? ⟨w.heap.size + 1, 2, none⟩ = some (.int .i64 0) := by rw [cell_of_row _ _ _ _ _ _ HZ1.out]; rfl
 have f2 : (w0.drewN nq).frozen? ⟨w.heap.size + 1, 2, none⟩ = false := frozen_of_row _ _ _ _ _ HZ1.out
 have z3 : (w0.drewN nq).cell? ⟨w.heap.size, 3, none⟩ = some (.string ⟨#[]⟩) := by rw [cell_of_row _ _ _ _ _ _ HV1.out]; rfl
 have r3 : (w0.drewN nq).cell? ⟨w.heap.size + 1, 3, none⟩ = some (.string ⟨#[]⟩) := by rw [cell_of_row _ _ _ _ _ _ HZ1.out]; rfl
 have f3 : (w0.drewN nq).frozen? ⟨w.heap.size + 1, 3, none⟩ = false := frozen_of_row _ _ _ _ _ HZ1.out
 have z4 : (w0.drewN nq).cell? ⟨w.heap.size, 4, none⟩ = some (.slice none 0 0) := by rw [cell_of_row _ _ _ _ _ _ HV1.out]; rfl
 have r4 : (w0.drewN nq).cell? ⟨w.heap.size + 1, 4, none⟩ = some (.slice none 0 0) := by rw [cell_of_row _ _ _ _ _ _ HZ1.out]; rfl
 have f4 : (w0.drewN nq).frozen? ⟨w.heap.size + 1, 4, none⟩ = false := frozen_of_row _ _ _ _ _ HZ1.out
 have z5 : (w0.drewN nq).cell? ⟨w.heap.size, 5, none⟩ = some (.slice none 0 0) := by rw [cell_of_row _ _ _ _ _ _ HV1.out]; rfl
 have r5 : (w0.drewN nq).cell? ⟨w.heap.size + 1, 5, none⟩ = some (.slice none 0 0) := by rw [cell_of_row _ _ _ _ _ _ HZ1.out]; rfl
 have f5 : (w0.drewN nq).frozen? ⟨w.heap.size + 1, 5, none⟩ = false := frozen_of_row _ _ _ _ _ HZ1.out
 have hne : b ≠ w.heap.size := by omega
 have hne1 : b ≠ w.heap.size + 1 := by omega
 have hne2 : w.heap.size + 1 ≠ b := by omega
 have hne3 : w.heap.size ≠ b := by omega
 clear h0 h1
 generalize w0.drewN nq = w1 at *
 go_wp2_with fail
 exact bodyPost_ret (v := .tuple #[.agg #[.int .i64 kk, .bool bb, .int .i64 0, .string ⟨#[]⟩, .slice none 0 0, .slice none 0 0], .int .i64 0]) (by simp [results, Tryz.results70, go_sem, r0, r1, r2, r3, r4, r5, hne1, hne2]) rfl ⟨rfl, ((((((HG1.out.setCell 1 _).setNew (Nat.le_succ _) _).setNew (Nat.le_succ _) _).setNew (Nat.le_succ _) _).setNew (Nat.le_succ _) _).setNew (Nat.le_succ _) _).setNew (Nat.le_succ _) _, ((((((HR1.out.move (p + u.size)).other hne1 _).other hne1 _).other hne1 _).other hne1 _).other hne1 _).other hne1 _⟩
set_option maxRecDepth 100000 in
set_option maxHeartbeats 2000000 in
theorem rfword_no (b : Nat) (t u : ByteArray) (p k kk : Nat) (bb : Bool) (w : World) (h : Rf b t p k w) (hp : p <= t.size) (ht : t.size <= 2000) (hu : u.size <= 2000) (hw : u.data.toList.isPrefixOf (rest t p) = false) :
  Calls Tryz.prog 70 #[.pointer (some ⟨b, 0, none⟩), .string u, rfLeaf kk bb 0 ⟨#[]⟩] w fun e w' => e = .returned (.tuple #[rfLeaf 0 false 0 ⟨#[]⟩, .int .i64 3]) /\ G b w w' := by
 unfold rfLeaf
 obtain ⟨w0, hw0⟩ : ∃ w0, w0 = (w.alloc (.cells #[.int .i64 kk, .bool bb, .int .i64 0, .string ⟨#[]⟩, .slice none 0 0, .slice none 0 0] 38)).alloc (.cells #[.int .i64 0, .bool false, .int .i64 0, .string ⟨#[]⟩, .slice none 0 0, .slice none 0 0] 38) := ⟨_, rfl⟩
 have h2 : Rf b t p k w0 := by rw [hw0]; exact (h.alloc _).alloc _
 have h0 := h2.text
 have h1 := h2.place
 have HR : Hid (Rf b t p k w0) := h2
 have HW : Hid (u.data.toList.isPrefixOf (t.extract p t.size).data.toList = false) := by
  show u.data.toList.isPrefixOf (t.extract p t.size).data.toList = false
  rw [extract_rest]; exact hw
 have hsz : (t.extract p t.size).size <= 1000000 := by simp; omega
 have HZ : Hid ((t.extract p t.size).size <= 1000000) := hsz
 have hI : (p : Int) <= (t.size : Int) := by omega
 have hw2 : u.data.toList.isPrefixOf (List.take (t.size - p) (List.drop p t.data.toList)) = false := by
  have e : List.take (t.size - p) (List.drop p t.data.toList) = rest t p := List.take_of_length_le (by simp)
  rw [e]; exact hw
 have HG0 : Hid (G b w w0) := by
  show G b w w0
  rw [hw0]
  exact ((G.refl b w).alloc _).alloc _
 have HV : Hid (w0.heap[w.heap.size]? = some (.cells #[.int .i64 kk, .bool bb, .int .i64 0, .string ⟨#[]⟩, .slice none 0 0, .slice none 0 0] 38 (0, 0))) := by
  show w0.heap[w.heap.size]? = _
  rw [hw0, Below.heap_alloc _ _ _ (by simp)]
  exact heap_alloc_new w _
 have HZr : Hid (w0.heap[w.heap.size + 1]? = some (.cells #[.int .i64 0, .bool false, .int .i64 0, .string ⟨#[]⟩, .slice none 0 0, .slice none 0 0] 38 (0, 0))) := by
  have h0 := heap_alloc_new (w.alloc (.cells #[.int .i64 kk, .bool bb, .int .i64 0, .string ⟨#[]⟩, .slice none 0 0, .slice none 0 0] 38)) (.cells #[.int .i64 0, .bool false, .int .i64 0, .string ⟨#[]⟩, .slice none 0 0, .slice none 0 0] 38)
  have e0 : (w.alloc (.cells #[.int .i64 kk, .bool bb, .int .i64 0, .string ⟨#[]⟩, .slice none 0 0, .slice none 0 0] 38)).heap.size = w.heap.size + 1 := by simp
  rw [e0, <- hw0] at h0
  exact h0
 have HW0 : Hid (w0 = (w.alloc (.cells #[.int .i64 kk, .bool bb, .int .i64 0, .string ⟨#[]⟩, .slice none 0 0, .slice none 0 0] 38)).alloc (.cells #[.int .i64 0, .bool false, .int .i64 0, .string ⟨#[]⟩, .slice none 0 0, .slice none 0 0] 38)) := hw0
 have hbw := h.lt
 clear h hw hsz h2 hw0
 go_enter Tryz.func70, Tryz.ntmps70
 go_wp2
 rw [<- HW0.out]
 go_quiet (first | (go_at_call 81; exact Calls.quiet_of_same (hasPrefix_any _ _ _ (by exact HZ.out) (by omega))))
 rw [HW.out]
 have HR1 : Hid (Rf b t p k (w0.drewN nq)) := HR.out.drewN nq
 have HG1 : Hid (G b w (w0.drewN nq)) := HG0.out.drewN nq
 have HV1 : Hid ((w0.drewN nq).heap[w.heap.size]? = some (.cells #[.int .i64 kk, .bool bb, .int .i64 0, .string ⟨#[]⟩, .slice none 0 0, .slice none 0 0] 38 (0, 0))) := HV.out
 have HZ1 : Hid ((w0.drewN nq).heap[w.heap.size + 1]? = some (.cells #[.int .i64 0, .bool false, .int .i64 0, .string ⟨#[]⟩, .slice none 0 0, .slice none 0 0] 38 (0, 0))) := HZr.out
 have c1 := HR1.out.place
 have c2 := HR1.out.free 1
 have z0 : (w0.drewN nq).cell? ⟨w.heap.size, 0, none⟩ = some (.int .i64 kk) := by rw [cell_of_row _ _ _ _ _ _ HV1.out]; rfl
 have r0 : (w0.drewN nq).cell? ⟨w.heap.size + 1, 0, none⟩ = some (.int .i64 0) := by rw [cell_of_row _ _ _ _ _ _ HZ1.out]; rfl
 have f0 : (w0.drewN nq).frozen? ⟨w.heap.size + 1, 0, none⟩ = false := frozen_of_row _ _ _ _ _ HZ1.out
 have z1 : (w0.drewN nq).cell? ⟨w.heap.size, 1, none⟩ = some (.bool bb) := by rw [cell_of_row _ _ _ _ _ _ HV1.out]; rfl
 have r1 : (w0.drewN nq).cell? ⟨w.heap.size + 1, 1, none⟩ = some (.bool false) := by rw [cell_of_row _ _ _ _ _ _ HZ1.out]; rfl
 have f1 : (w0.drewN nq).frozen? ⟨w.heap.size + 1, 1, none⟩ = false := frozen_of_row _ _ _ _ _ HZ1.out
 have z2 : (w0.drewN nq).cell? ⟨w.heap.size, 2, none⟩ = some (.int .i64 0) := by rw [cell_of_row _ _ _ _ _ _ HV1.out]; rfl
 have r2 : (w0.drewN nq).cell? ⟨w.heap.size + 1, 2, none⟩ = some (.int .i64 0) := by rw [cell_of_row _ _ _ _ _ _ HZ1.out]; rfl
 have f2 : (w0.drewN nq).frozen? ⟨w.heap.size + 1, 2, none⟩ = false := frozen_of_row _ _ _ _ _ HZ1.out
 have z3 : (w0.drewN nq).cell? ⟨w.heap.size, 3, none⟩ = some (.string ⟨#[]⟩) := by rw [cell_of_row _ _ _ _ _ _ HV1.out]; rfl
 have r3 : (w0.drewN nq).cell? ⟨w.heap.size + 1, 3, none⟩ = some (.string ⟨#[]⟩) := by rw [cell_of_row _ _ _ _ _ _ HZ1.out]; rfl
 have f3 : (w0.drewN nq).frozen? ⟨w.heap.size + 1, 3, none⟩ = false := frozen_of_row _ _ _ _ _ HZ1.out
 have z4 : (w0.drewN nq).cell? ⟨w.heap.size, 4, none⟩ = some (.slice none 0 0) := by rw [cell_of_row _ _ _ _ _ _ HV1.out]; rfl
 have r4 : (w0.drewN nq).cell? ⟨w.heap.size + 1, 4, none⟩ = some (.slice none 0 0) := by rw [cell_of_row _ _ _ _ _ _ HZ1.out]; rfl
 have f4 : (w0.drewN nq).frozen? ⟨w.heap.size + 1, 4, none⟩ = false := frozen_of_row _ _ _ _ _ HZ1.out
 have z5 : (w0.drewN nq).cell? ⟨w.heap.size, 5, none⟩ = some (.slice none 0 0) := by rw [cell_of_row _ _ _ _ _ _ HV1.out]; rfl
 have r5 : (w0.drewN nq).cell? ⟨w.heap.size + 1, 5, none⟩ = some (.slice none 0 0) := by rw [cell_of_row _ _ _ _ _ _ HZ1.out]; rfl
 have f5 : (w0.drewN nq).frozen? ⟨w.heap.size + 1, 5, none⟩ = false := frozen_of_row _ _ _ _ _ HZ1.out
 have hne : b ≠ w.heap.size := by omega
 have hne1 : b ≠ w.heap.size + 1 := by omega
 have hne2 : w.heap.size + 1 ≠ b := by omega
 have hne3 : w.heap.size ≠ b := by omega
 clear h0 h1
 generalize w0.drewN nq = w1 at *
 go_wp2_with fail
 exact bodyPost_ret (v := .tuple #[.agg #[.int .i64 (0 : Nat), .bool false, .int .i64 0, .string ⟨#[]⟩, .slice none 0 0, .slice none 0 0], .int .i64 3]) (by simp [results, Tryz.results70, go_sem, r0, r1, r2, r3, r4, r5, hne1, hne2]) rfl ⟨rfl, ((((((HG1.out).setNew (Nat.le_succ _) _).setNew (Nat.le_succ _) _).setNew (Nat.le_succ _) _).setNew (Nat.le_succ _) _).setNew (Nat.le_succ _) _).setNew (Nat.le_succ _) _⟩
def TextPost (b : Nat) (t : ByteArray) (p k : Nat) (w : World) (e : Ending) (w' : World) : Prop :=
 G b w w' /\ ((signs (rest t (p + 1)) = none /\ e = .returned (.tuple #[.string ⟨#[]⟩, .int .i64 3])) ∨
  ∃ (s : Bs) (q : Nat), q <= t.size /\ signs (rest t (p + 1)) = some (s, rest t q) /\ e = .returned (.tuple #[.string ⟨s.toArray⟩, .int .i64 0]) /\ Rf b t q k w')
theorem byte_ne {c d : UInt8} (h : c ≠ d) : ((c.toNat : Int) == (d.toNat : Int)) = false := by
 rw [beq_eq_false_iff_ne]
 intro e
 exact h (UInt8.toNat_inj.1 (by omega))
theorem byte_wrap (c : UInt8) : wrap64 (c.toNat : Int) = (c.toNat : Int) := by
 have := c.toNat_lt
 unfold wrap64
 omega
theorem str_snoc (l : Bs) (c : UInt8) : (⟨l.toArray⟩ : ByteArray) ++ ⟨#[c]⟩ = ⟨(l ++ [c]).toArray⟩ := by
 apply ByteArray.ext
 simp [ByteArray.data_append]
theorem plain_iff (c : UInt8) : plain c = true ↔ (32 <= (c.toNat : Int) /\ (c.toNat : Int) <= 126) := by
 unfold plain
 rw [Bool.and_eq_true, decide_eq_true_iff, decide_eq_true_iff, UInt8.le_iff_toNat_le, UInt8.le_iff_toNat_le]
 show 32 <= c.toNat /\ c.toNat <= 126 ↔ _
 omega
theorem chr_at (c : UInt8) (w : World) (x : Int) (h : x = (c.toNat : Int)) :
  Calls Tryz.prog 66 #[.int .i64 x] w fun e w' => e = .returned (.string ⟨#[c]⟩) /\ Below w.heap.size w w' := by
 subst h
 exact chr_any c w
def idxT : ByteArray := { data := #[34, 92, 110, 116] }
theorem idx_all : ∀ n : Fin 256, (if meaning (UInt8.ofNat n.val) = 0 then decide (firstIdx idxT (UInt8.ofNat n.val) < 0) else decide ((n.val = 34 /\ firstIdx idxT (UInt8.ofNat n.val) = 0) ∨ (n.val = 92 /\ firstIdx idxT (UInt8.ofNat n.val) = 1) ∨ (n.val = 110 /\ firstIdx idxT (UInt8.ofNat n.val) = 2) ∨ (n.val = 116 /\ firstIdx idxT (UInt8.ofNat n.val) = 3))) = true := by decide +kernel
theorem idx_cases (d : UInt8) : (meaning d = 0 /\ firstIdx idxT d < 0) ∨ (d = 34 /\ firstIdx idxT d = 0) ∨ (d = 92 /\ firstIdx idxT d = 1) ∨ (d = 110 /\ firstIdx idxT d = 2) ∨ (d = 116 /\ firstIdx idxT d = 3) := by
 have h := idx_all ⟨d.toNat, d.toNat_lt⟩
 simp only [UInt8.ofNat_toNat] at h
 split at h
 ·rename_i h0
  exact Or.inl ⟨h0, of_decide_eq_true h⟩
 ·have h' := of_decide_eq_true h
  rcases h' with ⟨a, b⟩ | ⟨a, b⟩ | ⟨a, b⟩ | ⟨a, b⟩
  ·exact Or.inr (Or.inl ⟨UInt8.toNat_inj.1 a, b⟩)
  ·exact Or.inr (Or.inr (Or.inl ⟨UInt8.toNat_inj.1 a, b⟩))
  ·exact Or.inr (Or.inr (Or.inr (Or.inl ⟨UInt8.toNat_inj.1 a, b⟩)))
  ·exact Or.inr (Or.inr (Or.inr (Or.inr ⟨UInt8.toNat_inj.1 a, b⟩)))
set_option maxRecDepth 100000 in
set_option maxHeartbeats 4000000 in
theorem rftext_any (b : Nat) (t : ByteArray) (p k : Nat) (w : World) (h : Rf b t p k w) (hp : p < t.size) (ht : t.size <= 2000) :
  Calls Tryz.prog 69 #[.pointer (some ⟨b, 0, none⟩)] w (TextPost b t p k w) := by
 have HR : Hid (Rf b t p k w) := h
 have h1 := h.place
 clear h
 go_enter Tryz.func69, Tryz.ntmps69
 go_wp2_with fail
 go_loopw [4, 5] (fun o i wr => ∃ (q : Nat) (l : Bs), q <= t.size /\ p + 1 + l.length <= q /\ i = .int .i64 q /\ o = .string ⟨l.toArray⟩ /\ signs (rest t (p + 1)) = (signs (rest t q)).map (fun r => (l ++ r.1, r.2)) /\ Rf b t p k wr /\ G b w wr) (fun o i _ => t.size - (intOf i).toNat)
 case atStart =>
  refine ⟨p + 1, [], by omega, by simp, by go_num, rfl, ?_, HR.out, G.refl _ _⟩
  cases signs (rest t (p + 1)) <;> simp
 case round =>
  obtain ⟨q, l, hq, hl, rfl, rfl, hs, hR, hG⟩ := hrel
  have HS : Hid (signs (rest t (p + 1)) = (signs (rest t q)).map (fun r => (l ++ r.1, r.2))) := hs
  have HR1 : Hid (Rf b t p k wr) := hR
  have HG : Hid (G b w wr) := hG
  have h0 := hR.text
  have c1 := hR.place
  have c2 := hR.free 1
  have hll : l.length <= 2000 := by omega
  have HLl : Hid ((⟨l.toArray⟩ : ByteArray).size = l.length) := by show (⟨l.toArray⟩ : ByteArray).size = l.length; simp [ByteArray.size]
  clear hs hR hG h1
  by_cases hlt : q < t.size
  ·have hI : (q : Int) < (t.size : Int) := by omega
   have HC : Hid (rest t q = t[q] :: rest t (q + 1)) := rest_cons hlt
   by_cases h34 : t[q] = 34
   ·have HE : Hid (signs (rest t (p + 1)) = some (l, rest t (q + 1))) := by
     show signs (rest t (p + 1)) = _
     rw [HS.out, HC.out, signs_cons, if_pos h34]
     simp
    go_wp2_with fail
    go_ret2
    exact ⟨HG.out.setCell 1 _, Or.inr ⟨l, q + 1, by omega, HE.out, rfl, HR1.out.move (q + 1)⟩⟩
   have n34 : ((t[q].toNat : Int) == 34) = false := byte_ne h34
   by_cases h92 : t[q] = 92
   ·by_cases hlt2 : q + 1 < t.size
    ·have hI2 : (q : Int) + 1 < (t.size : Int) := by omega
     have HC2 : Hid (rest t (q + 1) = t[q + 1] :: rest t (q + 1 + 1)) := rest_cons hlt2
     rcases idx_cases t[q + 1] with ⟨hd1, hd2⟩ | ⟨hd1, hd2⟩ | ⟨hd1, hd2⟩ | ⟨hd1, hd2⟩ | ⟨hd1, hd2⟩
     ·have HE : Hid (signs (rest t (p + 1)) = none) := by
       show signs (rest t (p + 1)) = none
       rw [HS.out, HC.out, signs_cons, if_neg h34, if_pos h92, HC2.out]
       simp only []
       rw [if_pos hd1]
       rfl
      go_wp2_with fail
      refine (index_any _ _ wr).mono ?_
      rintro e w0 ⟨rfl, rfl⟩
      have hneg : firstIdx { data := #[34, 92, 110, 116] } ((t[q + 1].toNat : Int)).toNat.toUInt8 < 0 := by rw [show ((t[q + 1].toNat : Int)).toNat.toUInt8 = t[q + 1] from by simp]; exact hd2
      generalize firstIdx { data := #[34, 92, 110, 116] } ((t[q + 1].toNat : Int)).toNat.toUInt8 = ix at *
      go_wp2_with fail
      go_ret2
      exact ⟨HG.out, Or.inl ⟨HE.out, rfl⟩⟩
     ·have HE : Hid (signs (rest t (p + 1)) = (signs (rest t (q + 1 + 1))).map (fun r => (l ++ [34] ++ r.1, r.2))) := by
       show signs (rest t (p + 1)) = _
       rw [HS.out, HC.out, signs_cons, if_neg h34, if_pos h92, HC2.out]
       simp only []
       rw [hd1, if_neg (by decide)]
       have em : meaning 34 = 34 := by decide
       rw [em]
       cases signs (rest t (q + 1 + 1)) <;> simp
      go_wp2_with fail
      refine (index_any _ _ wr).mono ?_
      rintro e w0 ⟨rfl, rfl⟩
      rw [show firstIdx { data := #[34, 92, 110, 116] } (Int.toNat 34).toUInt8 = 0 from by decide +kernel]
      go_wp2_with fail
      refine Calls.mono (chr_at 34 w0 _ ?_) ?_
      ·decide +kernel
      rintro e w1 ⟨rfl, b1⟩
      have HR2 : Hid (Rf b t p k w1) := (b1.block b HR1.out.lt).trans HR1.out
      have HG2 : Hid (G b w w1) := HG.out.grown (row := none) ⟨b1.os, b1.tape, b1.output, b1.size, fun k hk _ => b1.block k hk⟩ (fun k e => by cases e)
      have d1 : ¬ 9223372036854775807 < (⟨l.toArray⟩ : ByteArray).size + 1 := by rw [HLl.out]; omega
      have d2 : ¬ 9223372036854775807 < l.length + 1 := by omega
      clear b1
      go_wp2_with fail
      go_roundw
      case rel => exact ⟨q + 1 + 1, l ++ [34], by omega, by simp; omega, by go_num, by rw [<- str_snoc], HE.out, HR2.out, HG2.out⟩
      case measure => simp [intOf]; omega
     ·have HE : Hid (signs (rest t (p + 1)) = (signs (rest t (q + 1 + 1))).map (fun r => (l ++ [92] ++ r.1, r.2))) := by
       show signs (rest t (p + 1)) = _
       rw [HS.out, HC.out, signs_cons, if_neg h34, if_pos h92, HC2.out]
       simp only []
       rw [hd1, if_neg (by decide)]
       have em : meaning 92 = 92 := by decide
       rw [em]
       cases signs (rest t (q + 1 + 1)) <;> simp
      go_wp2_with fail
      refine (index_any _ _ wr).mono ?_
      rintro e w0 ⟨rfl, rfl⟩
      rw [show firstIdx { data := #[34, 92, 110, 116] } (Int.toNat 92).toUInt8 = 1 from by decide +kernel]
      go_wp2_with fail
      refine Calls.mono (chr_at 92 w0 _ ?_) ?_
      ·decide +kernel
      rintro e w1 ⟨rfl, b1⟩
      have HR2 : Hid (Rf b t p k w1) := (b1.block b HR1.out.lt).trans HR1.out
      have HG2 : Hid (G b w w1) := HG.out.grown (row := none) ⟨b1.os, b1.tape, b1.output, b1.size, fun k hk _ => b1.block k hk⟩ (fun k e => by cases e)
      have d1 : ¬ 9223372036854775807 < (⟨l.toArray⟩ : ByteArray).size + 1 := by rw [HLl.out]; omega
      have d2 : ¬ 9223372036854775807 < l.length + 1 := by omega
      clear b1
      go_wp2_with fail
      go_roundw
      case rel => exact ⟨q + 1 + 1, l ++ [92], by omega, by simp; omega, by go_num, by rw [<- str_snoc], HE.out, HR2.out, HG2.out⟩
      case measure => simp [intOf]; omega
     ·have HE : Hid (signs (rest t (p + 1)) = (signs (rest t (q + 1 + 1))).map (fun r => (l ++ [10] ++ r.1, r.2))) := by
       show signs (rest t (p + 1)) = _
       rw [HS.out, HC.out, signs_cons, if_neg h34, if_pos h92, HC2.out]
       simp only []
       rw [hd1, if_neg (by decide)]
       have em : meaning 110 = 10 := by decide
       rw [em]
       cases signs (rest t (q + 1 + 1)) <;> simp
      go_wp2_with fail
      refine (index_any _ _ wr).mono ?_
      rintro e w0 ⟨rfl, rfl⟩
      rw [show firstIdx { data := #[34, 92, 110, 116] } (Int.toNat 110).toUInt8 = 2 from by decide +kernel]
      go_wp2_with fail
      refine Calls.mono (chr_at 10 w0 _ ?_) ?_
      ·decide +kernel
      rintro e w1 ⟨rfl, b1⟩
      have HR2 : Hid (Rf b t p k w1) := (b1.block b HR1.out.lt).trans HR1.out
      have HG2 : Hid (G b w w1) := HG.out.grown (row := none) ⟨b1.os, b1.tape, b1.output, b1.size, fun k hk _ => b1.block k hk⟩ (fun k e => by cases e)
      have d1 : ¬ 9223372036854775807 < (⟨l.toArray⟩ : ByteArray).size + 1 := by rw [HLl.out]; omega
      have d2 : ¬ 9223372036854775807 < l.length + 1 := by omega
      clear b1
      go_wp2_with fail
      go_roundw
      case rel => exact ⟨q + 1 + 1, l ++ [10], by omega, by simp; omega, by go_num, by rw [<- str_snoc], HE.out, HR2.out, HG2.out⟩
      case measure => simp [intOf]; omega
     ·have HE : Hid (signs (rest t (p + 1)) = (signs (rest t (q + 1 + 1))).map (fun r => (l ++ [9] ++ r.1, r.2))) := by
       show signs (rest t (p + 1)) = _
       rw [HS.out, HC.out, signs_cons, if_neg h34, if_pos h92, HC2.out]
       simp only []
       rw [hd1, if_neg (by decide)]
       have em : meaning 116 = 9 := by decide
       rw [em]
       cases signs (rest t (q + 1 + 1)) <;> simp
      go_wp2_with fail
      refine (index_any _ _ wr).mono ?_
      rintro e w0 ⟨rfl, rfl⟩
      rw [show firstIdx { data := #[34, 92, 110, 116] } (Int.toNat 116).toUInt8 = 3 from by decide +kernel]
      go_wp2_with fail
      refine Calls.mono (chr_at 9 w0 _ ?_) ?_
      ·decide +kernel
      rintro e w1 ⟨rfl, b1⟩
      have HR2 : Hid (Rf b t p k w1) := (b1.block b HR1.out.lt).trans HR1.out
      have HG2 : Hid (G b w w1) := HG.out.grown (row := none) ⟨b1.os, b1.tape, b1.output, b1.size, fun k hk _ => b1.block k hk⟩ (fun k e => by cases e)
      have d1 : ¬ 9223372036854775807 < (⟨l.toArray⟩ : ByteArray).size + 1 := by rw [HLl.out]; omega
      have d2 : ¬ 9223372036854775807 < l.length + 1 := by omega
      clear b1
      go_wp2_with fail
      go_roundw
      case rel => exact ⟨q + 1 + 1, l ++ [9], by omega, by simp; omega, by go_num, by rw [<- str_snoc], HE.out, HR2.out, HG2.out⟩
      case measure => simp [intOf]; omega
    ·have hI2 : ¬ (q : Int) + 1 < (t.size : Int) := by omega
     have HE : Hid (signs (rest t (p + 1)) = none) := by
      show signs (rest t (p + 1)) = none
      rw [HS.out, HC.out, signs_cons, if_neg h34, if_pos h92, rest_nil (by omega)]
      rfl
     go_wp2_with fail
     go_ret2
     exact ⟨HG.out, Or.inl ⟨HE.out, rfl⟩⟩
   have n92 : ((t[q].toNat : Int) == 92) = false := byte_ne h92
   by_cases hpl : plain t[q] = true
   ·obtain ⟨g1, g2⟩ := (plain_iff t[q]).1 hpl
    have g1' : decide ((t[q].toNat : Int) < 32) = false := by rw [decide_eq_false_iff_not]; omega
    have g2' : decide ((126 : Int) < (t[q].toNat : Int)) = false := by rw [decide_eq_false_iff_not]; omega
    have HE : Hid (signs (rest t (p + 1)) = (signs (rest t (q + 1))).map (fun r => (l ++ [t[q]] ++ r.1, r.2))) := by
     show signs (rest t (p + 1)) = _
     rw [HS.out, HC.out, signs_cons, if_neg h34, if_neg h92, if_pos hpl]
     cases signs (rest t (q + 1)) <;> simp
    have hwr := byte_wrap t[q]
    clear h34 h92 hpl g1 g2
    go_wp2_with fail
    refine (chr_any t[q] wr).mono ?_
    rintro e w1 ⟨rfl, b1⟩
    have HR2 : Hid (Rf b t p k w1) := (b1.block b HR1.out.lt).trans HR1.out
    have HG2 : Hid (G b w w1) := HG.out.grown (row := none) ⟨b1.os, b1.tape, b1.output, b1.size, fun k hk _ => b1.block k hk⟩ (fun k e => by cases e)
    have d1 : ¬ 9223372036854775807 < (⟨l.toArray⟩ : ByteArray).size + 1 := by rw [HLl.out]; omega
    have d2 : ¬ 9223372036854775807 < l.length + 1 := by omega
    clear b1
    go_wp2_with fail
    go_roundw
    case rel => exact ⟨q + 1, l ++ [t[q]], by omega, by simp; omega, by go_num, by rw [<- str_snoc], HE.out, HR2.out, HG2.out⟩
    case measure => simp [intOf]; omega
   ·have g3 : (decide ((t[q].toNat : Int) < 32) || decide ((126 : Int) < (t[q].toNat : Int))) = true := by
     have := plain_iff t[q]
     rw [Bool.or_eq_true, decide_eq_true_iff, decide_eq_true_iff]
     apply Classical.byContradiction
     intro hc
     exact hpl (this.2 (by omega))
    have HE : Hid (signs (rest t (p + 1)) = none) := by
     show signs (rest t (p + 1)) = none
     rw [HS.out, HC.out, signs_cons, if_neg h34, if_neg h92, if_neg hpl]
     rfl
    by_cases g1 : (t[q].toNat : Int) < 32
    ·go_wp2_with fail
     go_ret2
     exact ⟨HG.out, Or.inl ⟨HE.out, rfl⟩⟩
    ·have g2 : (126 : Int) < (t[q].toNat : Int) := by
      rw [Bool.or_eq_true, decide_eq_true_iff, decide_eq_true_iff] at g3
      omega
     clear g3
     go_wp2_with fail
     go_ret2
     exact ⟨HG.out, Or.inl ⟨HE.out, rfl⟩⟩
  ·have hI : ¬ (q : Int) < (t.size : Int) := by omega
   have HE : Hid (signs (rest t (p + 1)) = none) := by
    show signs (rest t (p + 1)) = none
    rw [HS.out, rest_nil (by omega), signs_nil]
    rfl
   go_wp2_with fail
   go_ret2
   exact ⟨HG.out, Or.inl ⟨HE.out, rfl⟩⟩
end Go.Proofs.YtjcdklbimaclkaaGreatDoor
