/- Contract over this translation of the reference's reader: lists. -/
import Derived.Test.YtaogilpkeeigoaaGreatDoorRfRows
import Derived.Test.YtaogilpkeeigoaaGreatDoorRfSkip
import Derived.Test.YtaogilpkeeigoaaGreatDoorRdRow
namespace Go.Proofs.YtaogilpkeeigoaaGreatDoor
open Go.RowKit
set_option linter.unusedVariables false
set_option linter.unusedSimpArgs false
theorem Rf.below {b : Nat} {t : ByteArray} {p k : Nat} {w w' : World} (h : Rf b t p k w) (g : Below w.heap.size w w') : Rf b t p k w' := (g.block b h.lt).trans h
/-- What is known behind a call of the reference that reads a value. -/
def RValPost (b : Nat) (t : ByteArray) (p k n : Nat) (w : World) (e : Ending) (w' : World) : Prop :=
  G b w w' ∧ ((∃ (er : Nat) (h : Hd), value n k (rest t p) = .error er ∧ er ≠ 0 ∧ er < 100 ∧ e = .returned (.tuple #[rfV h (.slice none 0 0) (.slice none 0 0), .int .i64 er])) ∨
    ∃ (j : J n) (k' q : Nat) (v : Value), value n k (rest t p) = .ok (j, k', rest t q) ∧ p < q ∧ q ≤ t.size ∧ k < k' ∧ k' ≤ 200 ∧ e = .returned (.tuple #[v, .int .i64 0]) ∧ Rf b t q k' w' ∧ RSt (fun c => c < w.heap.size) w' n j v)
def RValueOK (n : Nat) : Prop := ∀ (b : Nat) (t : ByteArray) (p k : Nat) (d : Int) (w : World), Rf b t p k w → p ≤ t.size → t.size ≤ 2000 → k ≤ 200 → d + n = 10 → 0 ≤ d →
  Calls Tryz.prog 18 #[.pointer (some ⟨b, 0, none⟩), .int .i64 d] w (RValPost b t p k n w)
def RListPost (b : Nat) (t : ByteArray) (p k n : Nat) (w : World) (e : Ending) (w' : World) : Prop :=
  G b w w' ∧ ((∃ (er : Nat) (h : Hd), row 93 (oneItem (value n)) [] k (rest t p) = .error er ∧ er ≠ 0 ∧ er < 100 ∧ e = .returned (.tuple #[rfV h (.slice none 0 0) (.slice none 0 0), .int .i64 er])) ∨
    ∃ (s : List (J n)) (k' q : Nat) (v : Value), row 93 (oneItem (value n)) [] k (rest t p) = .ok (s, k', rest t q) ∧ p < q ∧ q ≤ t.size ∧ k' ≤ 200 ∧ e = .returned (.tuple #[v, .int .i64 0]) ∧ Rf b t q k' w' ∧ RSt (fun c => c < w.heap.size) w' (n + 1) (Sum.inr (Sum.inl s)) v)
set_option maxRecDepth 100000 in
set_option maxHeartbeats 4000000 in
theorem rflist_any (n b : Nat) (t : ByteArray) (p k : Nat) (d : Int) (w : World) (hV : RValueOK n) (hdn : d + 1 + n = 10) (hd0 : 0 ≤ d) (h : Rf b t p k w) (hlt : p < t.size) (ht : t.size ≤ 2000) (hk : k ≤ 200) :
    Calls Tryz.prog 36 #[.pointer (some ⟨b, 0, none⟩), .int .i64 d] w (RListPost b t p k n w) := by
  obtain ⟨i0, hi, hz0, hz1, hz2⟩ := info_parts info_V
  have hbw := h.lt
  have a1 := h.place
  have a2 := h.free 1
  obtain ⟨ws, hws⟩ : ∃ ws, ws = w.setCell ⟨b, 1, none⟩ (.int .i64 ((p : Int) + 1)) := ⟨_, rfl⟩
  have hRs : Rf b t (p + 1) k ws := by rw [hws]; exact h.move (p + 1)
  have hGs : G b w ws := by rw [hws]; exact (G.refl b w).setCell 1 _
  have hss : ws.heap.size = w.heap.size := by rw [hws]; exact heap_setCell_size _ _ _
  obtain ⟨w1, hw1⟩ : ∃ w1, w1 = (ws.alloc (.cells #[.int .i64 0, .bool false, .int .i64 0, .string ⟨#[]⟩, .slice none 0 0, .slice none 0 0] 25)).alloc (.cells #[.int .i64 5, .bool false, .int .i64 0, .string ⟨#[]⟩, .slice none 0 0, .slice none 0 0] 25) := ⟨_, rfl⟩
  have HR1 : Hid (Rf b t (p + 1) k w1) := by show Rf _ _ _ _ _; rw [hw1]; exact (hRs.alloc _).alloc _
  have HG1 : Hid (G b w w1) := by show G _ _ _; rw [hw1]; exact (hGs.alloc _).alloc _
  have HZ1 : Hid (Box w1 w.heap.size ⟨0, false, 0, []⟩ (.slice none 0 0) (.slice none 0 0)) := by
    show Box _ _ _ _ _
    rw [hw1, ← hss]
    exact (box_new ws ⟨0, false, 0, []⟩ _ _).below ((Below.refl _ _).alloc (Nat.le_refl _) _)
  have HO1 : Hid (Box w1 (w.heap.size + 1) ⟨5, false, 0, []⟩ (.slice none 0 0) (.slice none 0 0)) := by
    show Box _ _ _ _ _
    have := box_new (ws.alloc (.cells #[.int .i64 0, .bool false, .int .i64 0, .string ⟨#[]⟩, .slice none 0 0, .slice none 0 0] 25)) ⟨5, false, 0, []⟩ (.slice none 0 0) (.slice none 0 0)
    rw [hw1, ← hss]
    simpa using this
  have hsz1 : w1.heap.size = w.heap.size + 2 := by rw [hw1, ← hss]; simp
  rw [hws] at hw1
  have HW1 : Hid (w1 = ((w.setCell ⟨b, 1, none⟩ (.int .i64 ((p : Int) + 1))).alloc (.cells #[.int .i64 0, .bool false, .int .i64 0, .string ⟨#[]⟩, .slice none 0 0, .slice none 0 0] 25)).alloc (.cells #[.int .i64 5, .bool false, .int .i64 0, .string ⟨#[]⟩, .slice none 0 0, .slice none 0 0] 25)) := hw1
  have HV : Hid (RValueOK n) := hV
  have HRow : Hid (row 93 (oneItem (value n)) [] k (rest t p) = if hd (skip (rest t (p + 1))) = 93 then .ok ([], k, (skip (rest t (p + 1))).tail) else rowGo 93 (oneItem (value n)) ((rest t p).length + 1) [] k (skip (rest t (p + 1)))) := by
    show row 93 (oneItem (value n)) [] k (rest t p) = _
    rw [row, rest_tail]
  have HTL : Hid (∀ q, q ≤ t.size → (skip (rest t q)).tail = rest t (skipAt t q + 1)) := fun q hq => by rw [← rest_skip t q hq, rest_tail]
  have HSL : Hid (∀ q c, q ≤ t.size → hd (rest t (skipAt t q)) = c → c ≠ 0 → skipAt t q < t.size) := fun q c hq h hc => lt_of_hd (by rw [h]; exact hc)
  clear hw1 hws hRs hGs hss h hV
  unfold RListPost
  generalize row 93 (oneItem (value n)) [] k (rest t p) = res at *
  go_enter Tryz.func36, Tryz.ntmps36
  go_wp2_with fail
  rw [← HW1.out]
  clear a1 a2
  have hge := skipAt_ge t (p + 1) (by omega)
  have hle := skipAt_le t (p + 1)
  by_cases he : hd (rest t (skipAt t (p + 1))) = 93
  · have hs1 := HSL.out (p + 1) _ (by omega) he (by decide)
    have HE : Hid (hd (rest t (skipAt t (p + 1))) = 93) := he
    clear he
    refine (eat_yes b t (p + 1) k 93 w1 HR1.out (by omega) ht (by decide) HE.out).mono ?_
    rintro e w2 ⟨rfl, g2, r2⟩
    have HG2 : Hid (G b w w2) := HG1.out.trans g2
    have HR2 : Hid (Rf b t (skipAt t (p + 1) + 1) k w2) := r2
    have HZ2 : Hid (Box w2 w.heap.size ⟨0, false, 0, []⟩ (.slice none 0 0) (.slice none 0 0)) := HZ1.out.grown g2 (fun e => by cases e; omega)
    have HO2 : Hid (Box w2 (w.heap.size + 1) ⟨5, false, 0, []⟩ (.slice none 0 0) (.slice none 0 0)) := HO1.out.grown g2 (fun e => by cases e; omega)
    have HX : Hid (res = .ok ([], k, rest t (skipAt t (p + 1) + 1))) := by
      show res = _
      rw [HRow.out, if_pos (by rw [← rest_skip t (p + 1) (by omega)]; exact HE.out), HTL.out _ (by omega)]
    have o0 := HO2.out.c0
    have o1 := HO2.out.c1
    have o2 := HO2.out.c2
    have o3 := HO2.out.c3
    have o4 := HO2.out.c4
    have o5 := HO2.out.c5
    have f0 := HZ2.out.free 0
    have f1 := HZ2.out.free 1
    have f2 := HZ2.out.free 2
    have f3 := HZ2.out.free 3
    have f4 := HZ2.out.free 4
    have f5 := HZ2.out.free 5
    have z0 := HZ2.out.c0
    have z1 := HZ2.out.c1
    have z2 := HZ2.out.c2
    have z3 := HZ2.out.c3
    have z4 := HZ2.out.c4
    have z5 := HZ2.out.c5
    clear g2 r2
    go_wp2_with fail
    have e6 : Box (put6 w2 (w.heap.size) (.int .i64 5) (.bool false) (.int .i64 0) (.string ⟨#[]⟩) (.slice none 0 0) (.slice none 0 0)) (w.heap.size) ⟨5, false, 0, []⟩ (.slice none 0 0) (.slice none 0 0) := put6_box HZ2.out ⟨5, false, 0, []⟩ (.slice none 0 0) (.slice none 0 0)
    have g6 := put6_grown w2 (w.heap.size) (.int .i64 5) (.bool false) (.int .i64 0) (.string ⟨#[]⟩) (.slice none 0 0) (.slice none 0 0)
    change bodyPost _ _ _ _ _ (put6 w2 (w.heap.size) _ _ _ _ _ _)
    generalize put6 w2 (w.heap.size) (.int .i64 5) (.bool false) (.int .i64 0) (.string ⟨#[]⟩) (.slice none 0 0) (.slice none 0 0) = W at *
    exact bodyPost_ret (v := .tuple #[rfV ⟨5, false, 0, []⟩ (.slice none 0 0) (.slice none 0 0), .int .i64 0]) (by simp [results, Tryz.results36, go_sem, rfV, e6.c0, e6.c1, e6.c2, e6.c3, e6.c4, e6.c5]) rfl ⟨HG2.out.grown g6 (fun k e => by cases e; omega), Or.inr ⟨[], k, skipAt t (p + 1) + 1, _, HX.out, by omega, by omega, hk, rfl, HR2.out.kept g6 (fun e => by cases e; omega), rst_mk (j := (Sum.inr (Sum.inl []) : J (n + 1))) (Or.inl ⟨rfl, rfl⟩) (Or.inl ⟨rfl, rfl⟩)⟩⟩
  have HR0 : Hid (res = rowGo 93 (oneItem (value n)) ((rest t p).length + 1) [] k (rest t (skipAt t (p + 1)))) := by
    show res = _
    rw [HRow.out, rest_skip t (p + 1) (by omega), if_neg (by rw [← rest_skip t (p + 1) (by omega)]; exact he)]
  have HE : Hid (hd (rest t (skipAt t (p + 1))) ≠ 93) := he
  have hlen : (rest t p).length = t.size - p := rest_len t p
  clear he
  refine (eat_no b t (p + 1) k 93 w1 HR1.out (by omega) ht (by decide) HE.out).mono ?_
  rintro e w2 ⟨rfl, g2, r2⟩
  have HG2 : Hid (G b w w2) := HG1.out.trans g2
  have HR2 : Hid (Rf b t (skipAt t (p + 1)) k w2) := r2
  have HZ2 : Hid (Box w2 w.heap.size ⟨0, false, 0, []⟩ (.slice none 0 0) (.slice none 0 0)) := HZ1.out.grown g2 (fun e => by cases e; omega)
  have HO2 : Hid (Box w2 (w.heap.size + 1) ⟨5, false, 0, []⟩ (.slice none 0 0) (.slice none 0 0)) := HO1.out.grown g2 (fun e => by cases e; omega)
  have hsz2 : w.heap.size + 2 ≤ w2.heap.size := by have := g2.size; omega
  clear g2 r2
  go_wp2_with fail
  go_loopw [20] (fun _ wr => ∃ (s : List (J n)) (k' q f : Nat) (vl : Value), q ≤ t.size ∧ k' ≤ 200 ∧ p < q ∧ t.size - q < f ∧ s.length ≤ k' ∧ res = rowGo 93 (oneItem (value n)) f s k' (rest t q) ∧ OwnV (fun c => c < w.heap.size + 2) (w.heap.size + 2) wr n s vl ∧ Box wr w.heap.size ⟨0, false, 0, []⟩ (.slice none 0 0) (.slice none 0 0) ∧ Box wr (w.heap.size + 1) ⟨5, false, 0, []⟩ (.slice none 0 0) vl ∧ Rf b t q k' wr ∧ G b w wr ∧ w.heap.size + 2 ≤ wr.heap.size) (fun _ wr => t.size - placeOf b wr)
  case atStart => exact ⟨[], k, skipAt t (p + 1), (rest t p).length + 1, .slice none 0 0, hle, hk, by omega, by omega, Nat.zero_le _, HR0.out, OwnV.nil _ _ _ _, HZ2.out, HO2.out, HR2.out, HG2.out, hsz2⟩
  case round =>
    obtain ⟨s, k', q, f, vl, hq, hk', hpq, hf, hsk, hres, hown, hZ, hO, hR, hG, hsz⟩ := hrel
    obtain ⟨f, rfl⟩ : ∃ f', f = f' + 1 := ⟨f - 1, by omega⟩
    have HRes : Hid (res = rowGo 93 (oneItem (value n)) (f + 1) s k' (rest t q)) := hres
    have HOw : Hid (OwnV (fun c => c < w.heap.size + 2) (w.heap.size + 2) wr n s vl) := hown
    have HZ' : Hid (Box wr w.heap.size ⟨0, false, 0, []⟩ (.slice none 0 0) (.slice none 0 0)) := hZ
    have HO' : Hid (Box wr (w.heap.size + 1) ⟨5, false, 0, []⟩ (.slice none 0 0) vl) := hO
    have HR' : Hid (Rf b t q k' wr) := hR
    have HG' : Hid (G b w wr) := hG
    clear hres hown hZ hO hR hG HZ2 HO2 HR2 HG2 HR1 HG1 HZ1 HO1 HW1
    go_wp2_with fail
    refine (HV.out b t q k' (d + 1) wr HR'.out hq ht hk' hdn (by omega)).mono ?_
    rintro e w3 ⟨g3, h3⟩
    have HG3 : Hid (G b w w3) := HG'.out.trans g3
    have HG3' : Hid (G b wr w3) := g3
    have HZ3 : Hid (Box w3 w.heap.size ⟨0, false, 0, []⟩ (.slice none 0 0) (.slice none 0 0)) := HZ'.out.grown g3 (fun e => by cases e; omega)
    have HO3 : Hid (Box w3 (w.heap.size + 1) ⟨5, false, 0, []⟩ (.slice none 0 0) vl) := HO'.out.grown g3 (fun e => by cases e; omega)
    have hsz3 : w.heap.size + 2 ≤ w3.heap.size := by have := g3.size; omega
    have HOw3 : Hid (OwnV (fun c => c < w.heap.size + 2) (w.heap.size + 2) w3 n s vl) := HOw.out.far g3 (fun k e => by cases e; exact ⟨by omega, by omega⟩)
    clear g3
    rcases h3 with ⟨er, hh, hv, her, her2, rfl⟩ | ⟨j, k2, q2, v, hv, hqq, hq2, hkk, hk2, rfl, hR3, hst⟩
    · have hbe : ((er : Int) != 0) = true := by rw [bne_iff_ne]; omega
      have HX : Hid (res = .error er) := by
        show res = _
        rw [HRes.out, rowGo, oneItem, hv]
      have HZ4 : Hid (∀ o, Box (w3.alloc o) w.heap.size ⟨0, false, 0, []⟩ (.slice none 0 0) (.slice none 0 0)) := fun o => HZ3.out.below ((Below.refl _ _).alloc (Nat.le_refl _) _)
      unfold rfV
      have f0 := fun o => (HZ4.out o).free 0
      have f1 := fun o => (HZ4.out o).free 1
      have f2 := fun o => (HZ4.out o).free 2
      have f3 := fun o => (HZ4.out o).free 3
      have f4 := fun o => (HZ4.out o).free 4
      have f5 := fun o => (HZ4.out o).free 5
      have z0 := fun o => (HZ4.out o).c0
      have z1 := fun o => (HZ4.out o).c1
      have z2 := fun o => (HZ4.out o).c2
      have z3 := fun o => (HZ4.out o).c3
      have z4 := fun o => (HZ4.out o).c4
      have z5 := fun o => (HZ4.out o).c5
      clear hv
      go_wp2_with fail
      have HZ5 : Hid (Box (w3.alloc (.cells #[.int .i64 hh.k, .bool hh.b, .int .i64 hh.i, .string ⟨hh.s.toArray⟩, .slice none 0 0, .slice none 0 0] 25)) w.heap.size ⟨0, false, 0, []⟩ (.slice none 0 0) (.slice none 0 0)) := HZ4.out _
      have HG5 : Hid (G b w (w3.alloc (.cells #[.int .i64 hh.k, .bool hh.b, .int .i64 hh.i, .string ⟨hh.s.toArray⟩, .slice none 0 0, .slice none 0 0] 25))) := HG3.out.alloc _
      generalize w3.alloc (.cells #[.int .i64 hh.k, .bool hh.b, .int .i64 hh.i, .string ⟨hh.s.toArray⟩, .slice none 0 0, .slice none 0 0] 25) = w5 at *
      have e6 : Box (put6 w5 (w.heap.size) (.int .i64 0) (.bool false) (.int .i64 0) (.string ⟨#[]⟩) (.slice none 0 0) (.slice none 0 0)) (w.heap.size) ⟨0, false, 0, []⟩ (.slice none 0 0) (.slice none 0 0) := put6_box HZ5.out ⟨0, false, 0, []⟩ (.slice none 0 0) (.slice none 0 0)
      have g6 := put6_grown w5 (w.heap.size) (.int .i64 0) (.bool false) (.int .i64 0) (.string ⟨#[]⟩) (.slice none 0 0) (.slice none 0 0)
      change bodyPost _ _ _ _ _ (put6 w5 (w.heap.size) _ _ _ _ _ _)
      generalize put6 w5 (w.heap.size) (.int .i64 0) (.bool false) (.int .i64 0) (.string ⟨#[]⟩) (.slice none 0 0) (.slice none 0 0) = W at *
      exact bodyPost_ret (v := .tuple #[rfV ⟨0, false, 0, []⟩ (.slice none 0 0) (.slice none 0 0), .int .i64 er]) (by simp [results, Tryz.results36, go_sem, rfV, e6.c0, e6.c1, e6.c2, e6.c3, e6.c4, e6.c5]) rfl ⟨HG5.out.grown g6 (fun k e => by cases e; omega), Or.inl ⟨er, _, HX.out, her, her2, rfl⟩⟩
    · have HVal : Hid (value n k' (rest t q) = .ok (j, k2, rest t q2)) := hv
      obtain ⟨nm1, l1, rfl⟩ := rst_form hst
      obtain ⟨⟨p1, n1, c1, rfl⟩, p2, n2, c2, rfl⟩ := rst_sl hst
      have HSt : Hid (RSt (fun c => c < wr.heap.size) w3 n j (rfV (headJ n j) (.slice p1 n1 c1) (.slice p2 n2 c2))) := hst
      have HR3 : Hid (Rf b t q2 k2 w3) := hR3
      obtain ⟨us, hul, huo, hue⟩ := HOw3.out
      have HUo : Hid (w3.ownsRow (w.heap.size + 2) 25 6 vl s.length (us.flatMap six3)) := huo
      have HUe : Hid (∀ (i : Nat) (x : J n) (u : Six3), s[i]? = some x → us[i]? = some u → u.1 = headJ n x ∧ RSt (fun c => c < w.heap.size + 2 ∨ vl.ownBlock = some c) w3 n x (rfV u.1 u.2.1 u.2.2)) := hue
      have HRw : Hid (∀ k, vl.ownBlock = some k → w.heap.size + 2 ≤ k ∧ k < wr.heap.size) := HOw.out.row
      obtain ⟨pv, cv, hvl⟩ : ∃ pv cv, vl = .slice pv s.length cv := by
        rcases huo.2 with ⟨rfl, h0⟩ | ⟨g, cap, cur, rfl, _⟩
        · exact ⟨none, 0, by rw [h0]⟩
        · exact ⟨_, _, rfl⟩
      subst hvl
      have HO4 : Hid (∀ o, Box (w3.alloc o) (w.heap.size + 1) ⟨5, false, 0, []⟩ (.slice none 0 0) (.slice pv s.length cv)) := fun o => HO3.out.below ((Below.refl _ _).alloc (Nat.le_refl _) _)
      have o5 := fun o => (HO4.out o).c5
      have hwr3 : wr.heap.size ≤ w3.heap.size := HG3'.out.size
      clear hv hst hR3 huo hue
      unfold rfV
      go_wp2_with (at_builtin; refine wpList_append_lies _ rfl _ _ 23 rfl (w.heap.size + 2) 25 i0 (.agg #[.int .i64 0, .bool false, .int .i64 0, .string ⟨#[]⟩, .slice none 0 0, .slice none 0 0]) 6 88 Tryz.underlying23 hi hz0 hz1 hz2 rfl (by decide) (.slice pv s.length cv) s.length (us.flatMap six3) rfl (World.ownsRow.alloc (World.ownsRow.alloc HUo.out _) _) ⟨w3.heap.size + 1, 0, none⟩ 1 1 (six3 (headJ n j, .slice p1 n1 c1, .slice p2 n2 c2)) rfl rfl ?c1 ?c2 (by decide) ?c3 ?c4 ?c5 _ rfl ?_)
      case c1 =>
        have h9 := six_new (w3.alloc (.cells #[.int .i64 (headJ n j).k, .bool (headJ n j).b, .int .i64 (headJ n j).i, .string ⟨(headJ n j).s.toArray⟩, .slice p1 n1 c1, .slice p2 n2 c2] 25)) (headJ n j) (.slice p1 n1 c1) (.slice p2 n2 c2)
        have e9 : (w3.alloc (.cells #[.int .i64 (headJ n j).k, .bool (headJ n j).b, .int .i64 (headJ n j).i, .string ⟨(headJ n j).s.toArray⟩, .slice p1 n1 c1, .slice p2 n2 c2] 25)).heap.size = w3.heap.size + 1 := by simp
        rw [e9] at h9
        exact h9
      case c2 => exact six_one w3 _ _ _ _ _ _ _
      case c3 => unfold maxLen; omega
      case c4 => omega
      case c5 => simp; omega
      intro g cap w5 hown5 hgrow hat hlt5
      have HOw5 : Hid (OwnV (fun c => c < w.heap.size + 2) (w.heap.size + 2) w5 n (s ++ [j]) (.slice (some ⟨g, 0, none⟩) (s.length + 1) cap)) :=
        OwnV.snoc hul (fun i x u hx hu => ⟨(HUe.out i x u hx hu).1, ((HUe.out i x u hx hu).2.alloc _).alloc _⟩) hown5 hgrow (by rcases hat with h | h; exact Or.inl h; exact Or.inr (by simp; omega)) (((HSt.out.wide (fun c e => by
          rcases e with e | e
          · exact Or.inl (by omega)
          · exact Or.inl (HRw.out c e).2)).alloc _).alloc _)
      have HO5 : Hid (Box w5 (w.heap.size + 1) ⟨5, false, 0, []⟩ (.slice none 0 0) (.slice pv s.length cv)) := ((HO4.out _).alloc _).grown hgrow (fun e => by have := (HRw.out _ e.symm).1; omega)
      have HZ5 : Hid (Box w5 w.heap.size ⟨0, false, 0, []⟩ (.slice none 0 0) (.slice none 0 0)) := ((HZ3.out.alloc _).alloc _).grown hgrow (fun e => by have := (HRw.out _ e.symm).1; omega)
      have HR5 : Hid (Rf b t q2 k2 w5) := ((HR3.out.alloc _).alloc _).kept hgrow (fun e => by have := (HRw.out _ e.symm).1; omega)
      have HG5 : Hid (G b w w5) := ((HG3.out.alloc _).alloc _).grown hgrow (fun k e => by have := (HRw.out _ e).1; omega)
      have hsz5 : w.heap.size + 2 ≤ w5.heap.size := by have := hgrow.size; simp at this; omega
      have x5 := HO5.out.c5
      have y5 := HO5.out.free 5
      clear hown5 hgrow hat hlt5 o5
      go_wp2_with fail
      have HO6 : Hid (Box (w5.setCell ⟨w.heap.size + 1, 5, none⟩ (.slice (some ⟨g, 0, none⟩) (s.length + 1) cap)) (w.heap.size + 1) ⟨5, false, 0, []⟩ (.slice none 0 0) (.slice (some ⟨g, 0, none⟩) (s.length + 1) cap)) := HO5.out.setL _
      have HZ6 : Hid (Box (w5.setCell ⟨w.heap.size + 1, 5, none⟩ (.slice (some ⟨g, 0, none⟩) (s.length + 1) cap)) w.heap.size ⟨0, false, 0, []⟩ (.slice none 0 0) (.slice none 0 0)) := HZ5.out.other (by omega) _
      have HR6 : Hid (Rf b t q2 k2 (w5.setCell ⟨w.heap.size + 1, 5, none⟩ (.slice (some ⟨g, 0, none⟩) (s.length + 1) cap))) := HR5.out.kept (grownBy_setCell _ _ _ _) (fun e => by cases e; omega)
      have HG6 : Hid (G b w (w5.setCell ⟨w.heap.size + 1, 5, none⟩ (.slice (some ⟨g, 0, none⟩) (s.length + 1) cap))) := HG5.out.grown (grownBy_setCell _ _ _ _) (fun k e => by cases e; omega)
      have HOw6 : Hid (OwnV (fun c => c < w.heap.size + 2) (w.heap.size + 2) (w5.setCell ⟨w.heap.size + 1, 5, none⟩ (.slice (some ⟨g, 0, none⟩) (s.length + 1) cap)) n (s ++ [j]) (.slice (some ⟨g, 0, none⟩) (s.length + 1) cap)) := HOw5.out.far (grownBy_setCell _ _ _ _) (fun k e => by cases e; exact ⟨by omega, by omega⟩)
      have hsz6 : w.heap.size + 2 ≤ (w5.setCell ⟨w.heap.size + 1, 5, none⟩ (.slice (some ⟨g, 0, none⟩) (s.length + 1) cap)).heap.size := by rw [heap_setCell_size]; exact hsz5
      clear x5 y5 HO5 HZ5 HR5 HG5 HOw5
      generalize w5.setCell ⟨w.heap.size + 1, 5, none⟩ (.slice (some ⟨g, 0, none⟩) (s.length + 1) cap) = w6 at *
      have hge2 := skipAt_ge t q2 hq2
      have hle2 := skipAt_le t q2
      have HRg : Hid (res = if hd (rest t (skipAt t q2)) = 93 then .ok (s ++ [j], k2, rest t (skipAt t q2 + 1)) else if hd (rest t (skipAt t q2)) = 44 then rowGo 93 (oneItem (value n)) f (s ++ [j]) k2 (rest t (skipAt t q2 + 1)) else .error eSyntax) := by
        show res = _
        rw [HRes.out, rowGo, oneItem, HVal.out]
        simp only []
        rw [HTL.out q2 hq2, rest_skip t q2 hq2]
      by_cases he : hd (rest t (skipAt t q2)) = 93
      · have hs1 := HSL.out q2 _ hq2 he (by decide)
        have HX : Hid (res = .ok (s ++ [j], k2, rest t (skipAt t q2 + 1))) := by
          show res = _
          rw [HRg.out, if_pos he]
        have HE2 : Hid (hd (rest t (skipAt t q2)) = 93) := he
        clear he
        refine (eat_yes b t q2 k2 93 w6 HR6.out hq2 ht (by decide) HE2.out).mono ?_
        rintro e w7 ⟨rfl, g7, r7⟩
        have HG7 : Hid (G b w w7) := HG6.out.trans g7
        have HR7 : Hid (Rf b t (skipAt t q2 + 1) k2 w7) := r7
        have HZ7 : Hid (Box w7 w.heap.size ⟨0, false, 0, []⟩ (.slice none 0 0) (.slice none 0 0)) := HZ6.out.grown g7 (fun e => by cases e; omega)
        have HO7 : Hid (Box w7 (w.heap.size + 1) ⟨5, false, 0, []⟩ (.slice none 0 0) (.slice (some ⟨g, 0, none⟩) (s.length + 1) cap)) := HO6.out.grown g7 (fun e => by cases e; omega)
        have HOw7 : Hid (OwnV (fun c => c < w.heap.size + 2) (w.heap.size + 2) w7 n (s ++ [j]) (.slice (some ⟨g, 0, none⟩) (s.length + 1) cap)) := HOw6.out.far g7 (fun k e => by cases e; exact ⟨by omega, by omega⟩)
        have o0 := HO7.out.c0
        have o1 := HO7.out.c1
        have o2 := HO7.out.c2
        have o3 := HO7.out.c3
        have o4 := HO7.out.c4
        have o5 := HO7.out.c5
        have f0 := HZ7.out.free 0
        have f1 := HZ7.out.free 1
        have f2 := HZ7.out.free 2
        have f3 := HZ7.out.free 3
        have f4 := HZ7.out.free 4
        have f5 := HZ7.out.free 5
        have z0 := HZ7.out.c0
        have z1 := HZ7.out.c1
        have z2 := HZ7.out.c2
        have z3 := HZ7.out.c3
        have z4 := HZ7.out.c4
        have z5 := HZ7.out.c5
        clear g7 r7
        go_wp2_with fail
        have e6 : Box (put6 w7 (w.heap.size) (.int .i64 5) (.bool false) (.int .i64 0) (.string ⟨#[]⟩) (.slice none 0 0) (.slice (some ⟨g, 0, none⟩) (s.length + 1) cap)) (w.heap.size) ⟨5, false, 0, []⟩ (.slice none 0 0) (.slice (some ⟨g, 0, none⟩) (s.length + 1) cap) := put6_box HZ7.out ⟨5, false, 0, []⟩ (.slice none 0 0) (.slice (some ⟨g, 0, none⟩) (s.length + 1) cap)
        have g6 := put6_grown w7 (w.heap.size) (.int .i64 5) (.bool false) (.int .i64 0) (.string ⟨#[]⟩) (.slice none 0 0) (.slice (some ⟨g, 0, none⟩) (s.length + 1) cap)
        change bodyPost _ _ _ _ _ (put6 w7 (w.heap.size) _ _ _ _ _ _)
        generalize put6 w7 (w.heap.size) (.int .i64 5) (.bool false) (.int .i64 0) (.string ⟨#[]⟩) (.slice none 0 0) (.slice (some ⟨g, 0, none⟩) (s.length + 1) cap) = W at *
        exact bodyPost_ret (v := .tuple #[rfV ⟨5, false, 0, []⟩ (.slice none 0 0) (.slice (some ⟨g, 0, none⟩) (s.length + 1) cap), .int .i64 0]) (by simp [results, Tryz.results36, go_sem, rfV, e6.c0, e6.c1, e6.c2, e6.c3, e6.c4, e6.c5]) rfl ⟨HG7.out.grown g6 (fun k e => by cases e; omega), Or.inr ⟨s ++ [j], k2, skipAt t q2 + 1, _, HX.out, by omega, by omega, hk2, rfl, HR7.out.kept g6 (fun e => by cases e; omega), rst_mk (j := (Sum.inr (Sum.inl (s ++ [j])) : J (n + 1))) (Or.inl ⟨rfl, rfl⟩) (((HOw7.out.far g6 (fun k e => by cases e; exact ⟨by omega, by omega⟩)).vals (fun c hc => by omega)).move (Nat.le_refl _) (fun _ _ _ => rfl) (fun c hc hn => by omega))⟩⟩
      have HE2 : Hid (hd (rest t (skipAt t q2)) ≠ 93) := he
      have HX1 : Hid (res = if hd (rest t (skipAt t q2)) = 44 then rowGo 93 (oneItem (value n)) f (s ++ [j]) k2 (rest t (skipAt t q2 + 1)) else .error eSyntax) := by
        show res = _
        rw [HRg.out, if_neg he]
      clear he
      refine (eat_no b t q2 k2 93 w6 HR6.out hq2 ht (by decide) HE2.out).mono ?_
      rintro e w7 ⟨rfl, g7, r7⟩
      have HG7 : Hid (G b w w7) := HG6.out.trans g7
      have HR7 : Hid (Rf b t (skipAt t q2) k2 w7) := r7
      have HZ7 : Hid (Box w7 w.heap.size ⟨0, false, 0, []⟩ (.slice none 0 0) (.slice none 0 0)) := HZ6.out.grown g7 (fun e => by cases e; omega)
      have HO7 : Hid (Box w7 (w.heap.size + 1) ⟨5, false, 0, []⟩ (.slice none 0 0) (.slice (some ⟨g, 0, none⟩) (s.length + 1) cap)) := HO6.out.grown g7 (fun e => by cases e; omega)
      have HOw7 : Hid (OwnV (fun c => c < w.heap.size + 2) (w.heap.size + 2) w7 n (s ++ [j]) (.slice (some ⟨g, 0, none⟩) (s.length + 1) cap)) := HOw6.out.far g7 (fun k e => by cases e; exact ⟨by omega, by omega⟩)
      have hsz7 : w.heap.size + 2 ≤ w7.heap.size := by have := g7.size; omega
      have hsk2 : skipAt t (skipAt t q2) = skipAt t q2 := skipAt_skipAt t q2 hq2
      clear g7 r7
      go_wp2_with fail
      by_cases he : hd (rest t (skipAt t q2)) = 44
      · have hs1 := HSL.out q2 _ hq2 he (by decide)
        have HX : Hid (res = rowGo 93 (oneItem (value n)) f (s ++ [j]) k2 (rest t (skipAt t q2 + 1))) := by
          show res = _
          rw [HX1.out, if_pos he]
        have HE3 : Hid (hd (rest t (skipAt t (skipAt t q2))) = 44) := by show hd _ = 44; rw [hsk2]; exact he
        clear he
        refine (eat_yes b t (skipAt t q2) k2 44 w7 HR7.out hle2 ht (by decide) HE3.out).mono ?_
        rintro e w8 ⟨rfl, g8, r8⟩
        rw [hsk2] at r8
        have HG8 : Hid (G b w w8) := HG7.out.trans g8
        have HR8 : Hid (Rf b t (skipAt t q2 + 1) k2 w8) := r8
        have HZ8 : Hid (Box w8 w.heap.size ⟨0, false, 0, []⟩ (.slice none 0 0) (.slice none 0 0)) := HZ7.out.grown g8 (fun e => by cases e; omega)
        have HO8 : Hid (Box w8 (w.heap.size + 1) ⟨5, false, 0, []⟩ (.slice none 0 0) (.slice (some ⟨g, 0, none⟩) (s.length + 1) cap)) := HO7.out.grown g8 (fun e => by cases e; omega)
        have HOw8 : Hid (OwnV (fun c => c < w.heap.size + 2) (w.heap.size + 2) w8 n (s ++ [j]) (.slice (some ⟨g, 0, none⟩) (s.length + 1) cap)) := HOw7.out.far g8 (fun k e => by cases e; exact ⟨by omega, by omega⟩)
        have hsz8 : w.heap.size + 2 ≤ w8.heap.size := by have := g8.size; omega
        clear g8 r8
        go_wp2_with fail
        go_roundw
        case rel => exact ⟨s ++ [j], k2, skipAt t q2 + 1, f, _, by omega, hk2, by omega, by omega, by simp; omega, HX.out, HOw8.out, HZ8.out, HO8.out, HR8.out, HG8.out, hsz8⟩
        case measure => rw [HR8.out.placeOf_eq, HR'.out.placeOf_eq]; omega
      · have HX : Hid (res = .error 3) := by
          show res = _
          rw [HX1.out, if_neg he]
        have HE3 : Hid (hd (rest t (skipAt t (skipAt t q2))) ≠ 44) := by show hd _ ≠ 44; rw [hsk2]; exact he
        clear he
        refine (eat_no b t (skipAt t q2) k2 44 w7 HR7.out hle2 ht (by decide) HE3.out).mono ?_
        rintro e w8 ⟨rfl, g8, r8⟩
        have HG8 : Hid (G b w w8) := HG7.out.trans g8
        have HZ8 : Hid (Box w8 w.heap.size ⟨0, false, 0, []⟩ (.slice none 0 0) (.slice none 0 0)) := HZ7.out.grown g8 (fun e => by cases e; omega)
        have f0 := HZ8.out.free 0
        have f1 := HZ8.out.free 1
        have f2 := HZ8.out.free 2
        have f3 := HZ8.out.free 3
        have f4 := HZ8.out.free 4
        have f5 := HZ8.out.free 5
        have z0 := HZ8.out.c0
        have z1 := HZ8.out.c1
        have z2 := HZ8.out.c2
        have z3 := HZ8.out.c3
        have z4 := HZ8.out.c4
        have z5 := HZ8.out.c5
        clear g8 r8
        go_wp2_with fail
        have e6 : Box (put6 w8 (w.heap.size) (.int .i64 0) (.bool false) (.int .i64 0) (.string ⟨#[]⟩) (.slice none 0 0) (.slice none 0 0)) (w.heap.size) ⟨0, false, 0, []⟩ (.slice none 0 0) (.slice none 0 0) := put6_box HZ8.out ⟨0, false, 0, []⟩ (.slice none 0 0) (.slice none 0 0)
        have g6 := put6_grown w8 (w.heap.size) (.int .i64 0) (.bool false) (.int .i64 0) (.string ⟨#[]⟩) (.slice none 0 0) (.slice none 0 0)
        change bodyPost _ _ _ _ _ (put6 w8 (w.heap.size) _ _ _ _ _ _)
        generalize put6 w8 (w.heap.size) (.int .i64 0) (.bool false) (.int .i64 0) (.string ⟨#[]⟩) (.slice none 0 0) (.slice none 0 0) = W at *
        exact bodyPost_ret (v := .tuple #[rfV ⟨0, false, 0, []⟩ (.slice none 0 0) (.slice none 0 0), .int .i64 3]) (by simp [results, Tryz.results36, go_sem, rfV, e6.c0, e6.c1, e6.c2, e6.c3, e6.c4, e6.c5]) rfl ⟨HG8.out.grown g6 (fun k e => by cases e; omega), Or.inl ⟨3, _, HX.out, by decide, by decide, rfl⟩⟩
end Go.Proofs.YtaogilpkeeigoaaGreatDoor
