/- Several texts in one: RfSize, RfEq, RfSame, DocErr, DocTell, DocTold, DocLift, DocSize, DocToldL, SameDoc. -/
import Derived.Test.YtaogilpkeeigoaaGreatDoorRfJoin
import Derived.Test.YtaogilpkeeigoaaGreatDoorDocGood
import Derived.Test.YtaogilpkeeigoaaGreatDoorRfRepr
import Derived.WalkKit
import Derived.WalkSpells
import Derived.BigQuiet
import Derived.Deep.RegionWith
import Derived.RegionTactic
import Derived.Test.YtaogilpkeeigoaaGreatDoorDocShort
/- Contract over this translation of the reference's Size. -/
namespace Go.Proofs.YtaogilpkeeigoaaGreatDoor
open Go.RowKit
set_option linter.unusedVariables false
set_option linter.unusedSimpArgs false
theorem maxOf_snocR : ∀ (l : List Nat) (x : Nat), maxOf (l ++ [x]) = max (maxOf l) x
  | [], x => by simp [maxOf]
  | y :: l, x => by
    have := maxOf_snocR l x
    simp only [List.cons_append, maxOf] at this ⊢
    rw [this]
    omega
theorem sum_snoc (l : List Nat) (x : Nat) : (l ++ [x]).sum = l.sum + x := by simp
theorem take_snoc {α β : Type} (f : α → β) (l : List α) (k : Nat) (x : α) (h : l[k]? = some x) : ((l.take (k + 1)).map f) = (l.take k).map f ++ [f x] := by
  have hk : k < l.length := (List.getElem?_eq_some_iff.1 h).1
  rw [List.take_succ_eq_append_getElem hk, List.map_append]
  rw [List.getElem?_eq_getElem hk] at h
  cases h
  rfl
theorem sum_take_leR (l : List Nat) (k : Nat) : (l.take k).sum ≤ l.sum := by
  have := congrArg List.sum (List.take_append_drop k l)
  rw [List.sum_append] at this
  omega
theorem depth_leR : ∀ (n : Nat) (j : J n), depth n j ≤ n
  | 0, _ => Nat.le_refl _
  | _ + 1, Sum.inl _ => Nat.zero_le _
  | n + 1, Sum.inr (Sum.inl xs) => by
    have : ∀ l : List (J n), maxOf (l.map (depth n)) ≤ n := fun l => by
      induction l with
      | nil => exact Nat.zero_le _
      | cons x l ih => have := depth_leR n x; simp only [List.map_cons, maxOf]; omega
    have := this xs
    simp only [depth]
    omega
  | n + 1, Sum.inr (Sum.inr fs) => by
    have : ∀ l : List (Bs × J n), maxOf (l.map fun f => depth n f.2) ≤ n := fun l => by
      induction l with
      | nil => exact Nat.zero_le _
      | cons x l ih => have := depth_leR n x.2; simp only [List.map_cons, maxOf]; omega
    have := this fs
    simp only [depth]
    omega
def RSizeOK (n : Nat) : Prop := ∀ (av : Nat → Prop) (j : J n) (v : Value) (w : World), RSt av w n j v → nodes n j ≤ 1000000 → n ≤ 1000 →
  Calls Tryz.prog 9 #[v] w fun e w' => e = .returned (.tuple #[.int .i64 (nodes n j), .int .i64 (depth n j)]) ∧ Below w.heap.size w w'
def ZLoop {n : Nat} (w : World) (xs : List (J n)) (h : Hd) (nm l : Value) (m d i : Value) (wr : World) : Prop :=
  ∃ k : Nat, k ≤ xs.length ∧ i = .int .i64 k ∧ m = .int .i64 ((1 + ((xs.take k).map (nodes n)).sum : Nat) : Int) ∧ d = .int .i64 ((maxOf ((xs.take k).map (depth n)) : Nat) : Int) ∧ Below w.heap.size w wr ∧ Box wr w.heap.size h nm l
set_option maxRecDepth 100000 in
set_option maxHeartbeats 2000000 in
theorem rfsize_list (n : Nat) (ih : RSizeOK n) (av : Nat → Prop) (xs : List (J n)) (h : Hd) (hk : h.k = 5) (pa : Option Addr) (na ca : Nat) (vl : Value) (w : World) (hL : RVals av w n xs vl) (hm : 1 + (xs.map (nodes n)).sum ≤ 1000000) (hn : n ≤ 1000) :
    Calls Tryz.prog 9 #[rfV h (.slice pa na ca) vl] w fun e w' => e = .returned (.tuple #[.int .i64 ((1 + (xs.map (nodes n)).sum : Nat) : Int), .int .i64 ((maxOf (xs.map (depth n)) + 1 : Nat) : Int)]) ∧ Below w.heap.size w w' := by
  obtain ⟨pl, cl, rfl, hl1, hl2, hl3⟩ := hL.form
  unfold maxLen at hl2
  have HL3 : Hid (∀ (i : Nat) (x : J n), xs[i]? = some x → ∃ g nm' l', pl = some ⟨g, 0, none⟩ ∧ g < w.heap.size ∧ Six w g (i * 6) (headJ n x) nm' l' ∧ RSt av w n x (rfV (headJ n x) nm' l')) := hl3
  have HIh : Hid (RSizeOK n) := ih
  have HSm : Hid (∀ k, ((xs.take k).map (nodes n)).sum ≤ (xs.map (nodes n)).sum) := fun k => by rw [List.map_take]; exact sum_take_leR _ _
  have HMx : Hid (∀ l : List (J n), maxOf (l.map (depth n)) ≤ n) := fun l => by
    induction l with
    | nil => exact Nat.zero_le _
    | cons x l ih2 => have := depth_leR n x; simp only [List.map_cons, maxOf]; omega
  have e5 : ((h.k : Int) == 5) = true := by rw [hk]; rfl
  clear hk
  unfold rfV
  obtain ⟨w0, hw0⟩ : ∃ w0, w0 = w.alloc (.cells #[.int .i64 h.k, .bool h.b, .int .i64 h.i, .string ⟨h.s.toArray⟩, .slice pa na ca, .slice pl xs.length cl] 25) := ⟨_, rfl⟩
  have HW0 : Hid (w0 = w.alloc (.cells #[.int .i64 h.k, .bool h.b, .int .i64 h.i, .string ⟨h.s.toArray⟩, .slice pa na ca, .slice pl xs.length cl] 25)) := hw0
  have HV0 : Hid (Box w0 w.heap.size h (.slice pa na ca) (.slice pl xs.length cl)) := by show Box _ _ _ _ _; rw [hw0]; exact box_new w h _ _
  have HB0 : Hid (Below w.heap.size w w0) := by show Below _ _ _; rw [hw0]; exact (Below.refl _ _).alloc (Nat.le_refl _) _
  clear hw0 hl3 hL ih
  go_enter Tryz.func9, Tryz.ntmps9
  go_wp2
  rw [← HW0.out]
  go_loopw [4, 5, 13] (fun m d i wr => ZLoop w xs h (.slice pa na ca) (.slice pl xs.length cl) m d i wr) (fun _ _ i _ => xs.length - (intOf i).toNat)
  case atStart => exact ⟨0, Nat.zero_le _, rfl, rfl, rfl, HB0.out, HV0.out⟩
  case round =>
    obtain ⟨k, hk, rfl, rfl, rfl, hB, hV⟩ := hrel
    have HB : Hid (Below w.heap.size w wr) := hB
    have HV : Hid (Box wr w.heap.size h (.slice pa na ca) (.slice pl xs.length cl)) := hV
    have v0 := hV.c0
    obtain ⟨ms, hms⟩ : ∃ ms, ms = 1 + ((xs.take k).map (nodes n)).sum := ⟨_, rfl⟩
    obtain ⟨ds, hds⟩ : ∃ ds, ds = maxOf ((xs.take k).map (depth n)) := ⟨_, rfl⟩
    have hmz : ms ≤ 1000000 := by have := HSm.out k; omega
    have hdz : ds ≤ 1000 := by have := HMx.out (xs.take k); omega
    have HMs : Hid (ms = 1 + ((xs.take k).map (nodes n)).sum) := hms
    have HDs : Hid (ds = maxOf ((xs.take k).map (depth n))) := hds
    rw [← hms, ← hds]
    clear hB hV hms hds HV0 HB0 HW0
    by_cases hlt : k < xs.length
    · obtain ⟨x, hxk⟩ : ∃ x, xs[k]? = some x := ⟨xs[k], List.getElem?_eq_getElem hlt⟩
      obtain ⟨g', nm', l', rfl, hg', h6, hst⟩ := HL3.out k x hxk
      obtain ⟨⟨p1, k1, c1, rfl⟩, p2, k2, c2, rfl⟩ := rst_sl hst
      obtain ⟨x0, x1, x2, x3, x4, x5⟩ := h6.keep (HB.out.block g' hg')
      have hnx : nodes n x ≤ 1000000 := by
        have h9 := HSm.out (k + 1)
        rw [take_snoc (nodes n) xs k x hxk, sum_snoc] at h9
        omega
      have hdx := depth_leR n x
      have HN1 : Hid (1 + ((xs.take (k + 1)).map (nodes n)).sum = ms + nodes n x) := by show _ = _; rw [take_snoc (nodes n) xs k x hxk, sum_snoc, HMs.out]; omega
      have HD1 : Hid (maxOf ((xs.take (k + 1)).map (depth n)) = max ds (depth n x)) := by show _ = _; rw [take_snoc (depth n) xs k x hxk, maxOf_snocR, HDs.out]
      have HCall : Hid (∀ w1, Below w.heap.size w w1 → Calls Tryz.prog 9 #[rfV (headJ n x) (.slice p1 k1 c1) (.slice p2 k2 c2)] w1 fun e w' => e = .returned (.tuple #[.int .i64 (nodes n x), .int .i64 (depth n x)]) ∧ Below w1.heap.size w1 w') := fun w1 b => HIh.out av x _ w1 (hst.below b) hnx hn
      have hkI : (k : Int) < (xs.length : Int) := by omega
      clear hst h6 hxk
      go_wp2_with fail
      have HB2 : Hid (Below w.heap.size w (wr.alloc (.cells #[.int .i64 (headJ n x).k, .bool (headJ n x).b, .int .i64 (headJ n x).i, .string ⟨(headJ n x).s.toArray⟩, .slice p1 k1 c1, .slice p2 k2 c2] 25))) := HB.out.alloc HB.out.size _
      have hc := HCall.out _ HB2.out
      unfold rfV at hc
      refine Calls.mono hc ?_
      rintro e w3 ⟨rfl, b3⟩
      have HB3 : Hid (Below w.heap.size w w3) := HB2.out.trans (b3.mono HB2.out.size)
      have HV3 : Hid (Box w3 w.heap.size h (.slice pa na ca) (.slice (some ⟨g', 0, none⟩) xs.length cl)) := (HV.out.alloc _).below b3
      clear b3 hc
      generalize nodes n x = nx at *
      generalize depth n x = dx at *
      have hs1 : (ms : Int) + (nx : Int) ≤ 9223372036854775807 := by omega
      go_wp2_with fail
      go_roundw
      case rel =>
        have hrelN : ZLoop w xs h (.slice pa na ca) (.slice (some ⟨g', 0, none⟩) xs.length cl) (.int .i64 ((ms : Int) + (nx : Int))) (.int .i64 (if ds < dx then (dx : Int) else (ds : Int))) (.int .i64 ((k : Int) + 1)) w3 := ⟨k + 1, by omega, by go_num, by rw [HN1.out]; congr 1, by rw [HD1.out]; congr 1; split <;> omega, HB3.out, HV3.out⟩
        first | exact hrelN | ((repeat apply Exists.intro); refine ⟨hrelN, ?_⟩; first | rfl | exact ⟨rfl, rfl⟩ | exact ⟨rfl, rfl, rfl⟩ | exact ⟨rfl, rfl, rfl, rfl⟩ | exact ⟨rfl, rfl, rfl, rfl, rfl⟩)
      case measure => (simp [intOf]; omega)
    · have HM1 : Hid (1 + (xs.map (nodes n)).sum = ms) := by show _ = _; rw [HMs.out, List.take_of_length_le (by omega)]
      have HD1 : Hid (maxOf (xs.map (depth n)) = ds) := by show _ = _; rw [HDs.out, List.take_of_length_le (by omega)]
      go_wp2_with fail
      go_ret2
      exact ⟨by rw [HM1.out, HD1.out]; rfl, HB.out⟩
set_option maxRecDepth 100000 in
set_option maxHeartbeats 2000000 in
theorem rfsize_obj (n : Nat) (ih : RSizeOK n) (av : Nat → Prop) (xs : List (J n)) (h : Hd) (hk : h.k = 6) (pa : Option Addr) (na ca : Nat) (vl : Value) (w : World) (hL : RVals av w n xs vl) (hm : 1 + (xs.map (nodes n)).sum ≤ 1000000) (hn : n ≤ 1000) :
    Calls Tryz.prog 9 #[rfV h (.slice pa na ca) vl] w fun e w' => e = .returned (.tuple #[.int .i64 ((1 + (xs.map (nodes n)).sum : Nat) : Int), .int .i64 ((maxOf (xs.map (depth n)) + 1 : Nat) : Int)]) ∧ Below w.heap.size w w' := by
  obtain ⟨pl, cl, rfl, hl1, hl2, hl3⟩ := hL.form
  unfold maxLen at hl2
  have HL3 : Hid (∀ (i : Nat) (x : J n), xs[i]? = some x → ∃ g nm' l', pl = some ⟨g, 0, none⟩ ∧ g < w.heap.size ∧ Six w g (i * 6) (headJ n x) nm' l' ∧ RSt av w n x (rfV (headJ n x) nm' l')) := hl3
  have HIh : Hid (RSizeOK n) := ih
  have HSm : Hid (∀ k, ((xs.take k).map (nodes n)).sum ≤ (xs.map (nodes n)).sum) := fun k => by rw [List.map_take]; exact sum_take_leR _ _
  have HMx : Hid (∀ l : List (J n), maxOf (l.map (depth n)) ≤ n) := fun l => by
    induction l with
    | nil => exact Nat.zero_le _
    | cons x l ih2 => have := depth_leR n x; simp only [List.map_cons, maxOf]; omega
  have e5 : ((h.k : Int) == 5) = false := by rw [hk]; rfl
  have e6 : ((h.k : Int) == 6) = true := by rw [hk]; rfl
  clear hk
  unfold rfV
  obtain ⟨w0, hw0⟩ : ∃ w0, w0 = w.alloc (.cells #[.int .i64 h.k, .bool h.b, .int .i64 h.i, .string ⟨h.s.toArray⟩, .slice pa na ca, .slice pl xs.length cl] 25) := ⟨_, rfl⟩
  have HW0 : Hid (w0 = w.alloc (.cells #[.int .i64 h.k, .bool h.b, .int .i64 h.i, .string ⟨h.s.toArray⟩, .slice pa na ca, .slice pl xs.length cl] 25)) := hw0
  have HV0 : Hid (Box w0 w.heap.size h (.slice pa na ca) (.slice pl xs.length cl)) := by show Box _ _ _ _ _; rw [hw0]; exact box_new w h _ _
  have HB0 : Hid (Below w.heap.size w w0) := by show Below _ _ _; rw [hw0]; exact (Below.refl _ _).alloc (Nat.le_refl _) _
  clear hw0 hl3 hL ih
  go_enter Tryz.func9, Tryz.ntmps9
  go_wp2
  rw [← HW0.out]
  go_loopw [4, 5, 13] (fun m d i wr => ZLoop w xs h (.slice pa na ca) (.slice pl xs.length cl) m d i wr) (fun _ _ i _ => xs.length - (intOf i).toNat)
  case atStart => exact ⟨0, Nat.zero_le _, rfl, rfl, rfl, HB0.out, HV0.out⟩
  case round =>
    obtain ⟨k, hk, rfl, rfl, rfl, hB, hV⟩ := hrel
    have HB : Hid (Below w.heap.size w wr) := hB
    have HV : Hid (Box wr w.heap.size h (.slice pa na ca) (.slice pl xs.length cl)) := hV
    have v0 := hV.c0
    obtain ⟨ms, hms⟩ : ∃ ms, ms = 1 + ((xs.take k).map (nodes n)).sum := ⟨_, rfl⟩
    obtain ⟨ds, hds⟩ : ∃ ds, ds = maxOf ((xs.take k).map (depth n)) := ⟨_, rfl⟩
    have hmz : ms ≤ 1000000 := by have := HSm.out k; omega
    have hdz : ds ≤ 1000 := by have := HMx.out (xs.take k); omega
    have HMs : Hid (ms = 1 + ((xs.take k).map (nodes n)).sum) := hms
    have HDs : Hid (ds = maxOf ((xs.take k).map (depth n))) := hds
    rw [← hms, ← hds]
    clear hB hV hms hds HV0 HB0 HW0
    by_cases hlt : k < xs.length
    · obtain ⟨x, hxk⟩ : ∃ x, xs[k]? = some x := ⟨xs[k], List.getElem?_eq_getElem hlt⟩
      obtain ⟨g', nm', l', rfl, hg', h6, hst⟩ := HL3.out k x hxk
      obtain ⟨⟨p1, k1, c1, rfl⟩, p2, k2, c2, rfl⟩ := rst_sl hst
      obtain ⟨x0, x1, x2, x3, x4, x5⟩ := h6.keep (HB.out.block g' hg')
      have hnx : nodes n x ≤ 1000000 := by
        have h9 := HSm.out (k + 1)
        rw [take_snoc (nodes n) xs k x hxk, sum_snoc] at h9
        omega
      have hdx := depth_leR n x
      have HN1 : Hid (1 + ((xs.take (k + 1)).map (nodes n)).sum = ms + nodes n x) := by show _ = _; rw [take_snoc (nodes n) xs k x hxk, sum_snoc, HMs.out]; omega
      have HD1 : Hid (maxOf ((xs.take (k + 1)).map (depth n)) = max ds (depth n x)) := by show _ = _; rw [take_snoc (depth n) xs k x hxk, maxOf_snocR, HDs.out]
      have HCall : Hid (∀ w1, Below w.heap.size w w1 → Calls Tryz.prog 9 #[rfV (headJ n x) (.slice p1 k1 c1) (.slice p2 k2 c2)] w1 fun e w' => e = .returned (.tuple #[.int .i64 (nodes n x), .int .i64 (depth n x)]) ∧ Below w1.heap.size w1 w') := fun w1 b => HIh.out av x _ w1 (hst.below b) hnx hn
      have hkI : (k : Int) < (xs.length : Int) := by omega
      clear hst h6 hxk
      go_wp2_with fail
      have HB2 : Hid (Below w.heap.size w (wr.alloc (.cells #[.int .i64 (headJ n x).k, .bool (headJ n x).b, .int .i64 (headJ n x).i, .string ⟨(headJ n x).s.toArray⟩, .slice p1 k1 c1, .slice p2 k2 c2] 25))) := HB.out.alloc HB.out.size _
      have hc := HCall.out _ HB2.out
      unfold rfV at hc
      refine Calls.mono hc ?_
      rintro e w3 ⟨rfl, b3⟩
      have HB3 : Hid (Below w.heap.size w w3) := HB2.out.trans (b3.mono HB2.out.size)
      have HV3 : Hid (Box w3 w.heap.size h (.slice pa na ca) (.slice (some ⟨g', 0, none⟩) xs.length cl)) := (HV.out.alloc _).below b3
      clear b3 hc
      generalize nodes n x = nx at *
      generalize depth n x = dx at *
      have hs1 : (ms : Int) + (nx : Int) ≤ 9223372036854775807 := by omega
      go_wp2_with fail
      go_roundw
      case rel =>
        have hrelN : ZLoop w xs h (.slice pa na ca) (.slice (some ⟨g', 0, none⟩) xs.length cl) (.int .i64 ((ms : Int) + (nx : Int))) (.int .i64 (if ds < dx then (dx : Int) else (ds : Int))) (.int .i64 ((k : Int) + 1)) w3 := ⟨k + 1, by omega, by go_num, by rw [HN1.out]; congr 1, by rw [HD1.out]; congr 1; split <;> omega, HB3.out, HV3.out⟩
        first | exact hrelN | ((repeat apply Exists.intro); refine ⟨hrelN, ?_⟩; first | rfl | exact ⟨rfl, rfl⟩ | exact ⟨rfl, rfl, rfl⟩ | exact ⟨rfl, rfl, rfl, rfl⟩ | exact ⟨rfl, rfl, rfl, rfl, rfl⟩)
      case measure => (simp [intOf]; omega)
    · have HM1 : Hid (1 + (xs.map (nodes n)).sum = ms) := by show _ = _; rw [HMs.out, List.take_of_length_le (by omega)]
      have HD1 : Hid (maxOf (xs.map (depth n)) = ds) := by show _ = _; rw [HDs.out, List.take_of_length_le (by omega)]
      go_wp2_with fail
      go_ret2
      exact ⟨by rw [HM1.out, HD1.out]; rfl, HB.out⟩
set_option maxRecDepth 100000 in
set_option maxHeartbeats 2000000 in
theorem rfsize_leaf (n : Nat) (ih : RSizeOK n) (av : Nat → Prop) (xs : List (J n)) (h : Hd) (hk : h.k ≠ 5) (hk2 : h.k ≠ 6) (pa : Option Addr) (na ca : Nat) (vl : Value) (w : World) (hL : RVals av w n xs vl) (hm : 1 + (xs.map (nodes n)).sum ≤ 1000000) (hn : n ≤ 1000) :
    Calls Tryz.prog 9 #[rfV h (.slice pa na ca) vl] w fun e w' => e = .returned (.tuple #[.int .i64 ((1 + (xs.map (nodes n)).sum : Nat) : Int), .int .i64 ((maxOf (xs.map (depth n)) + 0 : Nat) : Int)]) ∧ Below w.heap.size w w' := by
  obtain ⟨pl, cl, rfl, hl1, hl2, hl3⟩ := hL.form
  unfold maxLen at hl2
  have HL3 : Hid (∀ (i : Nat) (x : J n), xs[i]? = some x → ∃ g nm' l', pl = some ⟨g, 0, none⟩ ∧ g < w.heap.size ∧ Six w g (i * 6) (headJ n x) nm' l' ∧ RSt av w n x (rfV (headJ n x) nm' l')) := hl3
  have HIh : Hid (RSizeOK n) := ih
  have HSm : Hid (∀ k, ((xs.take k).map (nodes n)).sum ≤ (xs.map (nodes n)).sum) := fun k => by rw [List.map_take]; exact sum_take_leR _ _
  have HMx : Hid (∀ l : List (J n), maxOf (l.map (depth n)) ≤ n) := fun l => by
    induction l with
    | nil => exact Nat.zero_le _
    | cons x l ih2 => have := depth_leR n x; simp only [List.map_cons, maxOf]; omega
  have e5 : ((h.k : Int) == 5) = false := by rw [beq_eq_false_iff_ne]; omega
  have e6 : ((h.k : Int) == 6) = false := by rw [beq_eq_false_iff_ne]; omega
  clear hk hk2
  unfold rfV
  obtain ⟨w0, hw0⟩ : ∃ w0, w0 = w.alloc (.cells #[.int .i64 h.k, .bool h.b, .int .i64 h.i, .string ⟨h.s.toArray⟩, .slice pa na ca, .slice pl xs.length cl] 25) := ⟨_, rfl⟩
  have HW0 : Hid (w0 = w.alloc (.cells #[.int .i64 h.k, .bool h.b, .int .i64 h.i, .string ⟨h.s.toArray⟩, .slice pa na ca, .slice pl xs.length cl] 25)) := hw0
  have HV0 : Hid (Box w0 w.heap.size h (.slice pa na ca) (.slice pl xs.length cl)) := by show Box _ _ _ _ _; rw [hw0]; exact box_new w h _ _
  have HB0 : Hid (Below w.heap.size w w0) := by show Below _ _ _; rw [hw0]; exact (Below.refl _ _).alloc (Nat.le_refl _) _
  clear hw0 hl3 hL ih
  go_enter Tryz.func9, Tryz.ntmps9
  go_wp2
  rw [← HW0.out]
  go_loopw [4, 5, 13] (fun m d i wr => ZLoop w xs h (.slice pa na ca) (.slice pl xs.length cl) m d i wr) (fun _ _ i _ => xs.length - (intOf i).toNat)
  case atStart => exact ⟨0, Nat.zero_le _, rfl, rfl, rfl, HB0.out, HV0.out⟩
  case round =>
    obtain ⟨k, hk, rfl, rfl, rfl, hB, hV⟩ := hrel
    have HB : Hid (Below w.heap.size w wr) := hB
    have HV : Hid (Box wr w.heap.size h (.slice pa na ca) (.slice pl xs.length cl)) := hV
    have v0 := hV.c0
    obtain ⟨ms, hms⟩ : ∃ ms, ms = 1 + ((xs.take k).map (nodes n)).sum := ⟨_, rfl⟩
    obtain ⟨ds, hds⟩ : ∃ ds, ds = maxOf ((xs.take k).map (depth n)) := ⟨_, rfl⟩
    have hmz : ms ≤ 1000000 := by have := HSm.out k; omega
    have hdz : ds ≤ 1000 := by have := HMx.out (xs.take k); omega
    have HMs : Hid (ms = 1 + ((xs.take k).map (nodes n)).sum) := hms
    have HDs : Hid (ds = maxOf ((xs.take k).map (depth n))) := hds
    rw [← hms, ← hds]
    clear hB hV hms hds HV0 HB0 HW0
    by_cases hlt : k < xs.length
    · obtain ⟨x, hxk⟩ : ∃ x, xs[k]? = some x := ⟨xs[k], List.getElem?_eq_getElem hlt⟩
      obtain ⟨g', nm', l', rfl, hg', h6, hst⟩ := HL3.out k x hxk
      obtain ⟨⟨p1, k1, c1, rfl⟩, p2, k2, c2, rfl⟩ := rst_sl hst
      obtain ⟨x0, x1, x2, x3, x4, x5⟩ := h6.keep (HB.out.block g' hg')
      have hnx : nodes n x ≤ 1000000 := by
        have h9 := HSm.out (k + 1)
        rw [take_snoc (nodes n) xs k x hxk, sum_snoc] at h9
        omega
      have hdx := depth_leR n x
      have HN1 : Hid (1 + ((xs.take (k + 1)).map (nodes n)).sum = ms + nodes n x) := by show _ = _; rw [take_snoc (nodes n) xs k x hxk, sum_snoc, HMs.out]; omega
      have HD1 : Hid (maxOf ((xs.take (k + 1)).map (depth n)) = max ds (depth n x)) := by show _ = _; rw [take_snoc (depth n) xs k x hxk, maxOf_snocR, HDs.out]
      have HCall : Hid (∀ w1, Below w.heap.size w w1 → Calls Tryz.prog 9 #[rfV (headJ n x) (.slice p1 k1 c1) (.slice p2 k2 c2)] w1 fun e w' => e = .returned (.tuple #[.int .i64 (nodes n x), .int .i64 (depth n x)]) ∧ Below w1.heap.size w1 w') := fun w1 b => HIh.out av x _ w1 (hst.below b) hnx hn
      have hkI : (k : Int) < (xs.length : Int) := by omega
      clear hst h6 hxk
      go_wp2_with fail
      have HB2 : Hid (Below w.heap.size w (wr.alloc (.cells #[.int .i64 (headJ n x).k, .bool (headJ n x).b, .int .i64 (headJ n x).i, .string ⟨(headJ n x).s.toArray⟩, .slice p1 k1 c1, .slice p2 k2 c2] 25))) := HB.out.alloc HB.out.size _
      have hc := HCall.out _ HB2.out
      unfold rfV at hc
      refine Calls.mono hc ?_
      rintro e w3 ⟨rfl, b3⟩
      have HB3 : Hid (Below w.heap.size w w3) := HB2.out.trans (b3.mono HB2.out.size)
      have HV3 : Hid (Box w3 w.heap.size h (.slice pa na ca) (.slice (some ⟨g', 0, none⟩) xs.length cl)) := (HV.out.alloc _).below b3
      clear b3 hc
      generalize nodes n x = nx at *
      generalize depth n x = dx at *
      have hs1 : (ms : Int) + (nx : Int) ≤ 9223372036854775807 := by omega
      go_wp2_with fail
      go_roundw
      case rel =>
        have hrelN : ZLoop w xs h (.slice pa na ca) (.slice (some ⟨g', 0, none⟩) xs.length cl) (.int .i64 ((ms : Int) + (nx : Int))) (.int .i64 (if ds < dx then (dx : Int) else (ds : Int))) (.int .i64 ((k : Int) + 1)) w3 := ⟨k + 1, by omega, by go_num, by rw [HN1.out]; congr 1, by rw [HD1.out]; congr 1; split <;> omega, HB3.out, HV3.out⟩
        first | exact hrelN | ((repeat apply Exists.intro); refine ⟨hrelN, ?_⟩; first | rfl | exact ⟨rfl, rfl⟩ | exact ⟨rfl, rfl, rfl⟩ | exact ⟨rfl, rfl, rfl, rfl⟩ | exact ⟨rfl, rfl, rfl, rfl, rfl⟩)
      case measure => (simp [intOf]; omega)
    · have HM1 : Hid (1 + (xs.map (nodes n)).sum = ms) := by show _ = _; rw [HMs.out, List.take_of_length_le (by omega)]
      have HD1 : Hid (maxOf (xs.map (depth n)) = ds) := by show _ = _; rw [HDs.out, List.take_of_length_le (by omega)]
      go_wp2_with fail
      go_ret2
      exact ⟨by rw [HM1.out, HD1.out]; rfl, HB.out⟩
set_option maxRecDepth 100000 in
set_option maxHeartbeats 2000000 in
theorem rfsize_none (w : World) (h : Hd) (hk : h.k ≠ 5) (hk2 : h.k ≠ 6) : Calls Tryz.prog 9 #[rfV h (.slice none 0 0) (.slice none 0 0)] w fun e w' => e = .returned (.tuple #[.int .i64 ((1 : Nat) : Int), .int .i64 ((0 : Nat) : Int)]) ∧ Below w.heap.size w w' := by
  have e5 : ((h.k : Int) == 5) = false := by rw [beq_eq_false_iff_ne]; omega
  have e6 : ((h.k : Int) == 6) = false := by rw [beq_eq_false_iff_ne]; omega
  clear hk hk2
  unfold rfV
  go_enter Tryz.func9, Tryz.ntmps9
  go_wp2
  go_loopw [4, 5, 13] (fun m d i wr => m = .int .i64 1 ∧ d = .int .i64 0 ∧ i = .int .i64 0 ∧ wr = w.alloc (.cells #[.int .i64 h.k, .bool h.b, .int .i64 h.i, .string ⟨h.s.toArray⟩, .slice none 0 0, .slice none 0 0] 25)) (fun _ _ _ _ => 0)
  case atStart => exact ⟨rfl, rfl, rfl, rfl⟩
  case round =>
    obtain ⟨rfl, rfl, rfl, rfl⟩ := hrel
    go_wp2_with fail
    go_ret2
    exact ⟨rfl, (Below.refl _ _).alloc (Nat.le_refl _) _⟩
theorem rfsize_ok : ∀ n : Nat, RSizeOK n
  | 0, av, l, v, w, h, hm, hn => by
    have e : v = rfV (headL l) (.slice none 0 0) (.slice none 0 0) := h
    subst e
    have hk : (headL l).k ≠ 5 ∧ (headL l).k ≠ 6 := by rcases l with _ | b | i | s <;> simp [headL]
    have hz : RSizeOK 0 → True := fun _ => trivial
    exact rfsize_none w (headL l) hk.1 hk.2
  | n + 1, av, Sum.inl l, v, w, h, hm, hn => by
    obtain ⟨nm, lv, rfl, h1, h2⟩ := h.open
    obtain ⟨p, c, rfl, _⟩ := h1.form
    have hk : (headL l).k ≠ 5 ∧ (headL l).k ≠ 6 := by rcases l with _ | b | i | s <;> simp [headL]
    exact rfsize_leaf n (rfsize_ok n) av [] (headL l) hk.1 hk.2 p _ c lv w h2 (by simp) (by omega)
  | n + 1, av, Sum.inr (Sum.inl xs), v, w, h, hm, hn => by
    obtain ⟨nm, lv, rfl, h1, h2⟩ := h.open
    obtain ⟨p, c, rfl, _⟩ := h1.form
    have h9 := rfsize_list n (rfsize_ok n) av xs ⟨5, false, 0, []⟩ rfl p (namesJ (n := n) (Sum.inr (Sum.inl xs))).length c lv w h2 (by simpa only [nodes] using hm) (by omega)
    refine h9.mono ?_
    rintro e w1 ⟨rfl, b⟩
    exact ⟨by simp only [nodes, depth, Nat.add_comm], b⟩
  | n + 1, av, Sum.inr (Sum.inr fs), v, w, h, hm, hn => by
    obtain ⟨nm, lv, rfl, h1, h2⟩ := h.open
    obtain ⟨p, c, rfl, _⟩ := h1.form
    have e1 : ((fs.map fun f => f.2).map (nodes n)) = fs.map fun f => nodes n f.2 := by rw [List.map_map]; rfl
    have e2 : ((fs.map fun f => f.2).map (depth n)) = fs.map fun f => depth n f.2 := by rw [List.map_map]; rfl
    have hm1 : 1 + (fs.map fun f => nodes n f.2).sum ≤ 1000000 := by simpa only [nodes] using hm
    have hm2 : 1 + ((fs.map fun f => f.2).map (nodes n)).sum ≤ 1000000 := by rw [e1]; exact hm1
    have h9 := rfsize_obj n (rfsize_ok n) av (List.map (fun f : Bs × J n => f.2) fs) ⟨6, false, 0, []⟩ rfl p (namesJ (n := n) (Sum.inr (Sum.inr fs))).length c lv w h2 hm2 (by omega)
    rw [e1, e2] at h9
    refine h9.mono ?_
    rintro e w1 ⟨rfl, b⟩
    exact ⟨by simp only [nodes, depth, Nat.add_comm], b⟩
end Go.Proofs.YtaogilpkeeigoaaGreatDoor
/- Contract over this translation of the reference's Eq: two lists of texts, held against each other. -/
namespace Go.Proofs.YtaogilpkeeigoaaGreatDoor
open Go.RowKit
set_option linter.unusedVariables false
set_option linter.unusedSimpArgs false
/-- a list of texts in memory, from some place on -/
def Txts (w : World) (v : Value) (l : List Bs) : Prop :=
  (l = [] ∧ ∃ p c, v = .slice p 0 c) ∨ ∃ g o cap, v = .slice (some ⟨g, o, none⟩) l.length cap ∧ l.length ≤ cap ∧ cap ≤ maxLen ∧ g < w.heap.size ∧ ∀ (i : Nat) (s : Bs), l[i]? = some s → w.cell? ⟨g, o + i, none⟩ = some (.string ⟨s.toArray⟩)
theorem RStrs.txts {av : Nat → Prop} {w : World} {L : List Bs} {v : Value} (h : RStrs av w L v) : Txts w v L := by
  rcases h with ⟨h, rfl⟩ | ⟨g, cap, hv, hc, hm, hg, hlt, hcell⟩
  · exact Or.inl ⟨h, _, _, rfl⟩
  · exact Or.inr ⟨g, 0, cap, hv, hc, hm, hlt, fun i s hs => by rw [Nat.zero_add]; exact hcell i s hs⟩
theorem ba_injT {a b : Bs} : ((⟨a.toArray⟩ : ByteArray).toList == (⟨b.toArray⟩ : ByteArray).toList) = (a == b) := by
  rw [ByteArray.toList_eq, ByteArray.toList_eq]
theorem eq_atT {l m : List Bs} (h : l.length = m.length) {k : Nat} (hk : k < l.length) (hne : l[k] ≠ m[k]'(by omega)) : (l == m) = false := by
  rw [beq_eq_false_iff_ne]
  rintro rfl
  exact hne rfl
theorem eq_allT {l m : List Bs} (h : l.length = m.length) (ha : ∀ k (hk : k < l.length), l[k] = m[k]'(by omega)) : (l == m) = true := by
  rw [beq_iff_eq]
  exact List.ext_getElem h (fun k h1 h2 => ha k h1)
set_option maxRecDepth 100000 in
set_option maxHeartbeats 2000000 in
theorem rfeq_any (a b : Value) (l m : List Bs) (w : World) (ha : Txts w a l) (hb : Txts w b m) :
    Calls Tryz.prog 27 #[a, b] w fun e w' => e = .returned (.bool (l == m)) ∧ Below w.heap.size w w' := by
  by_cases hl : l.length = m.length
  · rcases ha with ⟨rfl, p0, c0, rfl⟩ | ⟨g, o, cap, rfl, h1, h2, h3, h4⟩
    · have hm : m = [] := List.eq_nil_of_length_eq_zero hl.symm
      subst hm
      have : ∃ p c, b = .slice p 0 c := by
        rcases hb with ⟨_, _, _, rfl⟩ | ⟨g, o, cap, rfl, _⟩
        · exact ⟨_, _, rfl⟩
        · exact ⟨_, _, rfl⟩
      obtain ⟨p, c, rfl⟩ := this
      clear hb hl
      go_enter Tryz.func27, Tryz.ntmps27
      go_wp2_with fail
      go_loopw [14] (fun i wr => i = .int .i64 0 ∧ wr = w) (fun _ _ => 0)
      case atStart => exact ⟨rfl, rfl⟩
      case round =>
        obtain ⟨rfl, rfl⟩ := hrel
        go_wp2_with fail
        go_ret
        exact ⟨rfl, Below.refl _ _⟩
    · have hb' : ∃ p c, b = .slice p m.length c ∧ ∀ k (hk : k < m.length), ∃ g o, p = some ⟨g, o, none⟩ ∧ m.length ≤ c ∧ ∀ w1, Below w.heap.size w w1 → w1.cell? ⟨g, o + k, none⟩ = some (.string ⟨m[k].toArray⟩) := by
        rcases hb with ⟨rfl, _, _, rfl⟩ | ⟨g', o', cap', rfl, k1, k2, k3, k4⟩
        · exact ⟨_, _, rfl, fun k hk => by simp at hk⟩
        · exact ⟨_, _, rfl, fun k hk => ⟨g', o', rfl, k1, fun w1 hb => by rw [hb.cell (p := ⟨g', o' + k, none⟩) k3]; exact k4 k _ (List.getElem?_eq_getElem hk)⟩⟩
      obtain ⟨p, c, rfl, hB⟩ := hb'
      have HA : Hid (∀ w1, Below w.heap.size w w1 → ∀ k (hk : k < l.length), w1.cell? ⟨g, o + k, none⟩ = some (.string ⟨l[k].toArray⟩)) := fun w1 hb k hk => by rw [hb.cell (p := ⟨g, o + k, none⟩) h3]; exact h4 k _ (List.getElem?_eq_getElem hk)
      have HB : Hid (∀ k (hk : k < m.length), ∃ g o, p = some ⟨g, o, none⟩ ∧ m.length ≤ c ∧ ∀ w1, Below w.heap.size w w1 → w1.cell? ⟨g, o + k, none⟩ = some (.string ⟨m[k].toArray⟩)) := hB
      have HT : Hid ((∀ k (hk : k < l.length), l[k] = m[k]'(by omega)) → (l == m) = true) := eq_allT hl
      have HF : Hid (∀ k (hk : k < l.length), l[k] ≠ m[k]'(by omega) → (l == m) = false) := fun k hk => eq_atT hl hk
      unfold maxLen at h2
      clear hB hb h4
      have hlm : ((l.length : Int) != (m.length : Int)) = false := by rw [hl]; simp
      generalize (l == m) = res at *
      go_enter Tryz.func27, Tryz.ntmps27
      go_wp2_with fail
      go_loopw [14] (fun i wr => ∃ k : Nat, k ≤ l.length ∧ i = .int .i64 k ∧ (∀ q (hq : q < l.length), q < k → l[q] = m[q]'(by omega)) ∧ Below w.heap.size w wr) (fun i _ => l.length - (intOf i).toNat)
      case atStart => exact ⟨0, Nat.zero_le _, rfl, fun q hq h => absurd h (Nat.not_lt_zero _), Below.refl _ _⟩
      case round =>
        obtain ⟨k, hk, rfl, hall, hbel⟩ := hrel
        have HBe : Hid (Below w.heap.size w wr) := hbel
        clear hbel
        have HAl : Hid (∀ q (hq : q < l.length), q < k → l[q] = m[q]'(by omega)) := hall
        clear hall
        by_cases hlt : k < l.length
        · have hkm : k < m.length := by omega
          have c1 := HA.out wr HBe.out k hlt
          obtain ⟨g2, o2, rfl, hmc, c2'⟩ := HB.out k hkm
          have c2 := c2' wr HBe.out
          clear c2'
          have HFk : Hid (l[k] ≠ m[k] → res = false) := HF.out k hlt
          have HEq : Hid (((⟨l[k].toArray⟩ : ByteArray).toList == (⟨m[k].toArray⟩ : ByteArray).toList) = (l[k] == m[k])) := ba_injT
          by_cases hx : l[k] = m[k]
          · have HX : Hid (l[k] = m[k]) := hx
            have hne : (((⟨l[k].toArray⟩ : ByteArray).toList == (⟨m[k].toArray⟩ : ByteArray).toList)) = true := by rw [HEq.out, hx]; simp
            clear hx
            generalize (⟨l[k].toArray⟩ : ByteArray) = y at *
            generalize (⟨m[k].toArray⟩ : ByteArray) = z at *
            go_wp2_with fail
            go_roundw
            case rel => exact ⟨k + 1, by omega, by go_num, (fun q hq h => by
              rcases Nat.lt_succ_iff_lt_or_eq.1 h with h | h
              · exact HAl.out q hq h
              · subst h; exact HX.out), HBe.out⟩
            case measure => simp [intOf]; omega
          · have hne : (((⟨l[k].toArray⟩ : ByteArray).toList == (⟨m[k].toArray⟩ : ByteArray).toList)) = false := by rw [HEq.out]; simp [hx]
            have HX : Hid (res = false) := HFk.out hx
            clear hx
            generalize (⟨l[k].toArray⟩ : ByteArray) = y at *
            generalize (⟨m[k].toArray⟩ : ByteArray) = z at *
            go_wp2_with fail
            go_ret
            exact ⟨by rw [HX.out]; rfl, HBe.out⟩
        · have HX : Hid (res = true) := HT.out (fun q hq => HAl.out q hq (by omega))
          go_wp2_with fail
          go_ret
          exact ⟨by rw [HX.out]; rfl, HBe.out⟩
  · have HX : Hid ((l == m) = false) := by
      show _ = false
      rw [beq_eq_false_iff_ne]
      rintro rfl
      exact hl rfl
    have h1 : ∃ p c, a = .slice p l.length c := by
      rcases ha with ⟨rfl, _, _, rfl⟩ | ⟨g, o, cap, rfl, _⟩ <;> exact ⟨_, _, rfl⟩
    have h2 : ∃ p c, b = .slice p m.length c := by
      rcases hb with ⟨rfl, _, _, rfl⟩ | ⟨g, o, cap, rfl, _⟩ <;> exact ⟨_, _, rfl⟩
    obtain ⟨p, c, rfl⟩ := h1
    obtain ⟨p2, c2, rfl⟩ := h2
    have hlm : ((l.length : Int) != (m.length : Int)) = true := by rw [bne_iff_ne]; omega
    clear ha hb
    generalize (l == m) = res at *
    go_enter Tryz.func27, Tryz.ntmps27
    go_wp2_with fail
    go_ret
    exact ⟨by rw [HX.out]; rfl, Below.refl _ _⟩
end Go.Proofs.YtaogilpkeeigoaaGreatDoor
/- Contract over this translation of the reference's Same: two values, held against each other. -/
namespace Go.Proofs.YtaogilpkeeigoaaGreatDoor
open Go.RowKit
set_option linter.unusedVariables false
set_option linter.unusedSimpArgs false
def hdEq (h g : Hd) : Bool := decide (h.k = g.k) && (decide (h.b = g.b) && (decide (h.i = g.i) && decide (h.s = g.s)))
/-- are two values the same, as the reference asks it -/
def sameR : (n : Nat) → J n → J n → Bool
  | 0, a, b => hdEq (headL a) (headL b)
  | n + 1, a, b => hdEq (headJ (n + 1) a) (headJ (n + 1) b) && (decide (namesJ a = namesJ b) && (decide ((kids a).length = (kids b).length) && ((kids a).zip (kids b)).all fun p => sameR n p.1 p.2))
def RSameOK (n : Nat) : Prop := ∀ (av av' : Nat → Prop) (j i : J n) (v u : Value) (w : World), RSt av w n j v → RSt av' w n i u →
  Calls Tryz.prog 13 #[v, u] w fun e w' => e = .returned (.bool (sameR n j i)) ∧ Below w.heap.size w w'
def partsR {n : Nat} (h g : Hd) (A B : List Bs) (xs ys : List (J n)) : Bool :=
  hdEq h g && (decide (A = B) && (decide (xs.length = ys.length) && (xs.zip ys).all fun p => sameR n p.1 p.2))
theorem parts_at {n : Nat} {h g : Hd} {A B : List Bs} {xs ys : List (J n)} {k : Nat} {x y : J n} (hx : xs[k]? = some x) (hy : ys[k]? = some y) (hs : sameR n x y = false) : partsR h g A B xs ys = false := by
  have : ((xs.zip ys).all fun p => sameR n p.1 p.2) = false := by
    rw [List.all_eq_false]
    refine ⟨(x, y), ?_, by simp [hs]⟩
    refine List.mem_of_getElem? (i := k) ?_
    rw [List.getElem?_zip_eq_some]
    exact ⟨hx, hy⟩
  simp [partsR, this]
theorem parts_all {n : Nat} {h g : Hd} {A B : List Bs} {xs ys : List (J n)} (h1 : h.k = g.k) (h2 : h.b = g.b) (h3 : h.i = g.i) (h4 : h.s = g.s) (h5 : A = B) (h6 : xs.length = ys.length) (ha : ∀ (k : Nat) (x y : J n), xs[k]? = some x → ys[k]? = some y → sameR n x y = true) : partsR h g A B xs ys = true := by
  have : ((xs.zip ys).all fun p => sameR n p.1 p.2) = true := by
    rw [List.all_eq_true]
    intro p hp
    obtain ⟨k, hk⟩ := List.getElem?_of_mem hp
    obtain ⟨a, b⟩ := List.getElem?_zip_eq_some.1 hk
    exact ha k _ _ a b
  simp only [partsR, hdEq, h1, h2, h3, h4, h5, h6, this, decide_true, Bool.and_true]
theorem ba_injS {a b : Bs} : ((⟨a.toArray⟩ : ByteArray).toList == (⟨b.toArray⟩ : ByteArray).toList) = (a == b) := by
  rw [ByteArray.toList_eq, ByteArray.toList_eq]
theorem bool_dec (a b : Bool) : (a != b) = !decide (a = b) := by cases a <;> cases b <;> rfl
set_option maxRecDepth 100000 in
set_option maxHeartbeats 2000000 in
theorem rfsame_h1 (n : Nat) (av av' : Nat → Prop) (h g : Hd) (A B : List Bs) (xs ys : List (J n)) (va vl ua ul : Value) (w : World) (hA : RStrs av w A va) (hB : RStrs av' w B ua) (hL : RVals av w n xs vl) (hM : RVals av' w n ys ul) (h1 : h.k ≠ g.k) :
    Calls Tryz.prog 13 #[rfV h va vl, rfV g ua ul] w fun e w' => e = .returned (.bool (partsR h g A B xs ys)) ∧ Below w.heap.size w w' := by
  have HX : Hid (partsR h g A B xs ys = false) := by show _ = false; simp [partsR, hdEq, h1]
  obtain ⟨pa, ca, rfl, ha1, ha2, ha3⟩ := hA.form
  obtain ⟨pb, cb, rfl, hb1, hb2, hb3⟩ := hB.form
  obtain ⟨pl, cl, rfl, hl1, hl2, hl3⟩ := hL.form
  obtain ⟨pm, cm, rfl, hm1, hm2, hm3⟩ := hM.form
  generalize partsR h g A B xs ys = res at *
  obtain ⟨k1, b1, i1, s1⟩ := h
  obtain ⟨k2, b2, i2, s2⟩ := g
  dsimp only at h1
  have q1 : ((k1 : Int) != (k2 : Int)) = true := by rw [bne_iff_ne]; omega
  clear h1 hA hB hL hM ha3 hb3 hl3 hm3
  unfold rfV
  go_enter Tryz.func13, Tryz.ntmps13
  go_wp2_with fail
  go_ret
  exact ⟨by rw [HX.out]; rfl, ((Below.refl _ _).alloc (Nat.le_refl _) _).alloc (by simp) _⟩
set_option maxRecDepth 100000 in
set_option maxHeartbeats 2000000 in
theorem rfsame_h2 (n : Nat) (av av' : Nat → Prop) (h g : Hd) (A B : List Bs) (xs ys : List (J n)) (va vl ua ul : Value) (w : World) (hA : RStrs av w A va) (hB : RStrs av' w B ua) (hL : RVals av w n xs vl) (hM : RVals av' w n ys ul) (h1 : h.k = g.k) (h2 : h.b ≠ g.b) :
    Calls Tryz.prog 13 #[rfV h va vl, rfV g ua ul] w fun e w' => e = .returned (.bool (partsR h g A B xs ys)) ∧ Below w.heap.size w w' := by
  have HX : Hid (partsR h g A B xs ys = false) := by show _ = false; simp [partsR, hdEq, h2]
  obtain ⟨pa, ca, rfl, ha1, ha2, ha3⟩ := hA.form
  obtain ⟨pb, cb, rfl, hb1, hb2, hb3⟩ := hB.form
  obtain ⟨pl, cl, rfl, hl1, hl2, hl3⟩ := hL.form
  obtain ⟨pm, cm, rfl, hm1, hm2, hm3⟩ := hM.form
  generalize partsR h g A B xs ys = res at *
  obtain ⟨k1, b1, i1, s1⟩ := h
  obtain ⟨k2, b2, i2, s2⟩ := g
  dsimp only at h1 h2
  subst h1
  clear hA hB hL hM ha3 hb3 hl3 hm3
  cases b1 <;> cases b2
  · exact absurd rfl h2
  · clear h2
    unfold rfV
    go_enter Tryz.func13, Tryz.ntmps13
    go_wp2_with fail
    go_ret
    exact ⟨by rw [HX.out]; rfl, ((Below.refl _ _).alloc (Nat.le_refl _) _).alloc (by simp) _⟩
  · clear h2
    unfold rfV
    go_enter Tryz.func13, Tryz.ntmps13
    go_wp2_with fail
    go_ret
    exact ⟨by rw [HX.out]; rfl, ((Below.refl _ _).alloc (Nat.le_refl _) _).alloc (by simp) _⟩
  · exact absurd rfl h2
set_option maxRecDepth 100000 in
set_option maxHeartbeats 2000000 in
theorem rfsame_h3 (n : Nat) (av av' : Nat → Prop) (h g : Hd) (A B : List Bs) (xs ys : List (J n)) (va vl ua ul : Value) (w : World) (hA : RStrs av w A va) (hB : RStrs av' w B ua) (hL : RVals av w n xs vl) (hM : RVals av' w n ys ul) (h1 : h.k = g.k) (h2 : h.b = g.b) (h3 : h.i ≠ g.i) :
    Calls Tryz.prog 13 #[rfV h va vl, rfV g ua ul] w fun e w' => e = .returned (.bool (partsR h g A B xs ys)) ∧ Below w.heap.size w w' := by
  have HX : Hid (partsR h g A B xs ys = false) := by show _ = false; simp [partsR, hdEq, h3]
  obtain ⟨pa, ca, rfl, ha1, ha2, ha3⟩ := hA.form
  obtain ⟨pb, cb, rfl, hb1, hb2, hb3⟩ := hB.form
  obtain ⟨pl, cl, rfl, hl1, hl2, hl3⟩ := hL.form
  obtain ⟨pm, cm, rfl, hm1, hm2, hm3⟩ := hM.form
  generalize partsR h g A B xs ys = res at *
  obtain ⟨k1, b1, i1, s1⟩ := h
  obtain ⟨k2, b2, i2, s2⟩ := g
  dsimp only at h1 h2 h3
  subst h1 h2
  have q3 : (i1 != i2) = true := by rw [bne_iff_ne]; exact h3
  clear h3 hA hB hL hM ha3 hb3 hl3 hm3
  unfold rfV
  go_enter Tryz.func13, Tryz.ntmps13
  go_wp2_with fail
  go_ret
  exact ⟨by rw [HX.out]; rfl, ((Below.refl _ _).alloc (Nat.le_refl _) _).alloc (by simp) _⟩
set_option maxRecDepth 100000 in
set_option maxHeartbeats 2000000 in
theorem rfsame_h4 (n : Nat) (av av' : Nat → Prop) (h g : Hd) (A B : List Bs) (xs ys : List (J n)) (va vl ua ul : Value) (w : World) (hA : RStrs av w A va) (hB : RStrs av' w B ua) (hL : RVals av w n xs vl) (hM : RVals av' w n ys ul) (h1 : h.k = g.k) (h2 : h.b = g.b) (h3 : h.i = g.i) (h4 : h.s ≠ g.s) :
    Calls Tryz.prog 13 #[rfV h va vl, rfV g ua ul] w fun e w' => e = .returned (.bool (partsR h g A B xs ys)) ∧ Below w.heap.size w w' := by
  have HX : Hid (partsR h g A B xs ys = false) := by show _ = false; simp [partsR, hdEq, h4]
  obtain ⟨pa, ca, rfl, ha1, ha2, ha3⟩ := hA.form
  obtain ⟨pb, cb, rfl, hb1, hb2, hb3⟩ := hB.form
  obtain ⟨pl, cl, rfl, hl1, hl2, hl3⟩ := hL.form
  obtain ⟨pm, cm, rfl, hm1, hm2, hm3⟩ := hM.form
  generalize partsR h g A B xs ys = res at *
  obtain ⟨k1, b1, i1, s1⟩ := h
  obtain ⟨k2, b2, i2, s2⟩ := g
  dsimp only at h1 h2 h3 h4
  subst h1 h2 h3
  have q4 : (((⟨s1.toArray⟩ : ByteArray).toList == (⟨s2.toArray⟩ : ByteArray).toList) = false) := by rw [ba_injS, beq_eq_false_iff_ne]; exact h4
  clear h4 hA hB hL hM ha3 hb3 hl3 hm3
  unfold rfV
  dsimp only
  generalize (⟨s1.toArray⟩ : ByteArray) = t1 at *
  generalize (⟨s2.toArray⟩ : ByteArray) = t2 at *
  go_enter Tryz.func13, Tryz.ntmps13
  go_wp2_with fail
  go_ret
  exact ⟨by rw [HX.out]; rfl, ((Below.refl _ _).alloc (Nat.le_refl _) _).alloc (by simp) _⟩
set_option maxRecDepth 100000 in
set_option maxHeartbeats 2000000 in
theorem rfsame_names (n : Nat) (av av' : Nat → Prop) (h : Hd) (A B : List Bs) (xs ys : List (J n)) (va vl ua ul : Value) (w : World) (ih : True) (hA : RStrs av w A va) (hB : RStrs av' w B ua) (hL : RVals av w n xs vl) (hM : RVals av' w n ys ul) (h5 : A ≠ B) :
    Calls Tryz.prog 13 #[rfV h va vl, rfV h ua ul] w fun e w' => e = .returned (.bool (partsR h h A B xs ys)) ∧ Below w.heap.size w w' := by
  have HX : Hid (partsR h h A B xs ys = false) := by show _ = false; simp [partsR, h5]
  have hE : (A == B) = false := by rw [beq_eq_false_iff_ne]; exact h5
  obtain ⟨pa, ca, rfl, ha1, ha2, ha3⟩ := hA.form
  obtain ⟨pb, cb, rfl, hb1, hb2, hb3⟩ := hB.form
  obtain ⟨pl, cl, rfl, hl1, hl2, hl3⟩ := hL.form
  obtain ⟨pm, cm, rfl, hm1, hm2, hm3⟩ := hM.form
  have HEqC : Hid (∀ w1, Below w.heap.size w w1 → Calls Tryz.prog 27 #[.slice pa A.length ca, .slice pb B.length cb] w1 fun e w' => e = .returned (.bool (A == B)) ∧ Below w1.heap.size w1 w') := fun w1 b => rfeq_any _ _ A B w1 (hA.below b).txts (hB.below b).txts
  obtain ⟨w0, hw0⟩ : ∃ w0, w0 = (w.alloc (.cells #[.int .i64 h.k, .bool h.b, .int .i64 h.i, .string ⟨h.s.toArray⟩, .slice pa A.length ca, .slice pl xs.length cl] 25)).alloc (.cells #[.int .i64 h.k, .bool h.b, .int .i64 h.i, .string ⟨h.s.toArray⟩, .slice pb B.length cb, .slice pm ys.length cm] 25) := ⟨_, rfl⟩
  have HW0 : Hid (w0 = (w.alloc (.cells #[.int .i64 h.k, .bool h.b, .int .i64 h.i, .string ⟨h.s.toArray⟩, .slice pa A.length ca, .slice pl xs.length cl] 25)).alloc (.cells #[.int .i64 h.k, .bool h.b, .int .i64 h.i, .string ⟨h.s.toArray⟩, .slice pb B.length cb, .slice pm ys.length cm] 25)) := hw0
  have HV0 : Hid (Box w0 w.heap.size h (.slice pa A.length ca) (.slice pl xs.length cl)) := by show Box _ _ _ _ _; rw [hw0]; exact (box_new w h _ _).alloc _
  have HU0 : Hid (Box w0 (w.heap.size + 1) h (.slice pb B.length cb) (.slice pm ys.length cm)) := by
    have h9 := box_new (w.alloc (.cells #[.int .i64 h.k, .bool h.b, .int .i64 h.i, .string ⟨h.s.toArray⟩, .slice pa A.length ca, .slice pl xs.length cl] 25)) h (.slice pb B.length cb) (.slice pm ys.length cm)
    show Box _ _ _ _ _
    rw [hw0]
    have e9 : (w.alloc (.cells #[.int .i64 h.k, .bool h.b, .int .i64 h.i, .string ⟨h.s.toArray⟩, .slice pa A.length ca, .slice pl xs.length cl] 25)).heap.size = w.heap.size + 1 := by simp
    rw [e9] at h9
    exact h9
  have HB0 : Hid (Below w.heap.size w w0) := by show Below _ _ _; rw [hw0]; exact ((Below.refl _ _).alloc (Nat.le_refl _) _).alloc (by simp) _
  rw [hE] at HEqC
  generalize partsR h h A B xs ys = res at *
  clear h5 hE hA hB hL hM ha3 hb3 hl3 hm3 HV0 HU0
  unfold rfV
  go_enter Tryz.func13, Tryz.ntmps13
  go_wp2_with fail
  rw [← HW0.out]
  refine Calls.mono (HEqC.out w0 HB0.out) ?_
  rintro e w1 ⟨rfl, b1⟩
  have HB1 : Hid (Below w.heap.size w w1) := HB0.out.trans (b1.mono HB0.out.size)
  clear b1
  go_wp2_with fail
  go_ret
  exact ⟨by rw [HX.out]; rfl, HB1.out⟩
set_option maxRecDepth 100000 in
set_option maxHeartbeats 2000000 in
theorem rfsame_lens (n : Nat) (av av' : Nat → Prop) (h : Hd) (A B : List Bs) (xs ys : List (J n)) (va vl ua ul : Value) (w : World) (ih : True) (hA : RStrs av w A va) (hB : RStrs av' w B ua) (hL : RVals av w n xs vl) (hM : RVals av' w n ys ul) (h5 : A = B) (h6 : xs.length ≠ ys.length) :
    Calls Tryz.prog 13 #[rfV h va vl, rfV h ua ul] w fun e w' => e = .returned (.bool (partsR h h A B xs ys)) ∧ Below w.heap.size w w' := by
  have HX : Hid (partsR h h A B xs ys = false) := by show _ = false; simp [partsR, h6]
  have hE : (A == B) = true := by rw [h5]; simp
  have q6 : ((xs.length : Int) != (ys.length : Int)) = true := by rw [bne_iff_ne]; omega
  obtain ⟨pa, ca, rfl, ha1, ha2, ha3⟩ := hA.form
  obtain ⟨pb, cb, rfl, hb1, hb2, hb3⟩ := hB.form
  obtain ⟨pl, cl, rfl, hl1, hl2, hl3⟩ := hL.form
  obtain ⟨pm, cm, rfl, hm1, hm2, hm3⟩ := hM.form
  have HEqC : Hid (∀ w1, Below w.heap.size w w1 → Calls Tryz.prog 27 #[.slice pa A.length ca, .slice pb B.length cb] w1 fun e w' => e = .returned (.bool (A == B)) ∧ Below w1.heap.size w1 w') := fun w1 b => rfeq_any _ _ A B w1 (hA.below b).txts (hB.below b).txts
  obtain ⟨w0, hw0⟩ : ∃ w0, w0 = (w.alloc (.cells #[.int .i64 h.k, .bool h.b, .int .i64 h.i, .string ⟨h.s.toArray⟩, .slice pa A.length ca, .slice pl xs.length cl] 25)).alloc (.cells #[.int .i64 h.k, .bool h.b, .int .i64 h.i, .string ⟨h.s.toArray⟩, .slice pb B.length cb, .slice pm ys.length cm] 25) := ⟨_, rfl⟩
  have HW0 : Hid (w0 = (w.alloc (.cells #[.int .i64 h.k, .bool h.b, .int .i64 h.i, .string ⟨h.s.toArray⟩, .slice pa A.length ca, .slice pl xs.length cl] 25)).alloc (.cells #[.int .i64 h.k, .bool h.b, .int .i64 h.i, .string ⟨h.s.toArray⟩, .slice pb B.length cb, .slice pm ys.length cm] 25)) := hw0
  have HV0 : Hid (Box w0 w.heap.size h (.slice pa A.length ca) (.slice pl xs.length cl)) := by show Box _ _ _ _ _; rw [hw0]; exact (box_new w h _ _).alloc _
  have HU0 : Hid (Box w0 (w.heap.size + 1) h (.slice pb B.length cb) (.slice pm ys.length cm)) := by
    have h9 := box_new (w.alloc (.cells #[.int .i64 h.k, .bool h.b, .int .i64 h.i, .string ⟨h.s.toArray⟩, .slice pa A.length ca, .slice pl xs.length cl] 25)) h (.slice pb B.length cb) (.slice pm ys.length cm)
    show Box _ _ _ _ _
    rw [hw0]
    have e9 : (w.alloc (.cells #[.int .i64 h.k, .bool h.b, .int .i64 h.i, .string ⟨h.s.toArray⟩, .slice pa A.length ca, .slice pl xs.length cl] 25)).heap.size = w.heap.size + 1 := by simp
    rw [e9] at h9
    exact h9
  have HB0 : Hid (Below w.heap.size w w0) := by show Below _ _ _; rw [hw0]; exact ((Below.refl _ _).alloc (Nat.le_refl _) _).alloc (by simp) _
  rw [hE] at HEqC
  generalize partsR h h A B xs ys = res at *
  clear h5 h6 hE hA hB hL hM ha3 hb3 hl3 hm3
  unfold rfV
  go_enter Tryz.func13, Tryz.ntmps13
  go_wp2_with fail
  rw [← HW0.out]
  refine Calls.mono (HEqC.out w0 HB0.out) ?_
  rintro e w1 ⟨rfl, b1⟩
  have HB1 : Hid (Below w.heap.size w w1) := HB0.out.trans (b1.mono HB0.out.size)
  have HV1 := HV0.out.below b1
  have HU1 := HU0.out.below b1
  have v5 := HV1.c5
  have u5 := HU1.c5
  clear b1 HV1 HU1
  go_wp2_with fail
  go_ret
  exact ⟨by rw [HX.out]; rfl, HB1.out⟩
def SLoop {n : Nat} (w : World) (xs ys : List (J n)) (h g : Hd) (va vl ua ul : Value) (i : Value) (wr : World) : Prop :=
  ∃ k : Nat, k ≤ xs.length ∧ i = .int .i64 k ∧ (∀ (q : Nat) (x y : J n), q < k → xs[q]? = some x → ys[q]? = some y → sameR n x y = true) ∧ Below w.heap.size w wr ∧ Box wr w.heap.size h va vl ∧ Box wr (w.heap.size + 1) g ua ul
set_option maxRecDepth 100000 in
set_option maxHeartbeats 2000000 in
theorem rfsame_loop (n : Nat) (av av' : Nat → Prop) (h : Hd) (A B : List Bs) (xs ys : List (J n)) (va vl ua ul : Value) (w : World) (ih : xs ≠ [] → RSameOK n) (hA : RStrs av w A va) (hB : RStrs av' w B ua) (hL : RVals av w n xs vl) (hM : RVals av' w n ys ul) (h5 : A = B) (h6 : xs.length = ys.length) :
    Calls Tryz.prog 13 #[rfV h va vl, rfV h ua ul] w fun e w' => e = .returned (.bool (partsR h h A B xs ys)) ∧ Below w.heap.size w w' := by
  have HXF : Hid (∀ (k : Nat) (x y : J n), xs[k]? = some x → ys[k]? = some y → sameR n x y = false → partsR h h A B xs ys = false) := fun k x y a b c => parts_at a b c
  have HXT : Hid ((∀ (k : Nat) (x y : J n), xs[k]? = some x → ys[k]? = some y → sameR n x y = true) → partsR h h A B xs ys = true) := parts_all rfl rfl rfl rfl h5 h6
  have hE : (A == B) = true := by rw [h5]; simp
  have q6 : ((xs.length : Int) != (ys.length : Int)) = false := by rw [h6]; simp
  obtain ⟨pa, ca, rfl, ha1, ha2, ha3⟩ := hA.form
  obtain ⟨pb, cb, rfl, hb1, hb2, hb3⟩ := hB.form
  obtain ⟨pl, cl, rfl, hl1, hl2, hl3⟩ := hL.form
  obtain ⟨pm, cm, rfl, hm1, hm2, hm3⟩ := hM.form
  have HEqC : Hid (∀ w1, Below w.heap.size w w1 → Calls Tryz.prog 27 #[.slice pa A.length ca, .slice pb B.length cb] w1 fun e w' => e = .returned (.bool (A == B)) ∧ Below w1.heap.size w1 w') := fun w1 b => rfeq_any _ _ A B w1 (hA.below b).txts (hB.below b).txts
  obtain ⟨w0, hw0⟩ : ∃ w0, w0 = (w.alloc (.cells #[.int .i64 h.k, .bool h.b, .int .i64 h.i, .string ⟨h.s.toArray⟩, .slice pa A.length ca, .slice pl xs.length cl] 25)).alloc (.cells #[.int .i64 h.k, .bool h.b, .int .i64 h.i, .string ⟨h.s.toArray⟩, .slice pb B.length cb, .slice pm ys.length cm] 25) := ⟨_, rfl⟩
  have HW0 : Hid (w0 = (w.alloc (.cells #[.int .i64 h.k, .bool h.b, .int .i64 h.i, .string ⟨h.s.toArray⟩, .slice pa A.length ca, .slice pl xs.length cl] 25)).alloc (.cells #[.int .i64 h.k, .bool h.b, .int .i64 h.i, .string ⟨h.s.toArray⟩, .slice pb B.length cb, .slice pm ys.length cm] 25)) := hw0
  have HV0 : Hid (Box w0 w.heap.size h (.slice pa A.length ca) (.slice pl xs.length cl)) := by show Box _ _ _ _ _; rw [hw0]; exact (box_new w h _ _).alloc _
  have HU0 : Hid (Box w0 (w.heap.size + 1) h (.slice pb B.length cb) (.slice pm ys.length cm)) := by
    have h9 := box_new (w.alloc (.cells #[.int .i64 h.k, .bool h.b, .int .i64 h.i, .string ⟨h.s.toArray⟩, .slice pa A.length ca, .slice pl xs.length cl] 25)) h (.slice pb B.length cb) (.slice pm ys.length cm)
    show Box _ _ _ _ _
    rw [hw0]
    have e9 : (w.alloc (.cells #[.int .i64 h.k, .bool h.b, .int .i64 h.i, .string ⟨h.s.toArray⟩, .slice pa A.length ca, .slice pl xs.length cl] 25)).heap.size = w.heap.size + 1 := by simp
    rw [e9] at h9
    exact h9
  have HB0 : Hid (Below w.heap.size w w0) := by show Below _ _ _; rw [hw0]; exact ((Below.refl _ _).alloc (Nat.le_refl _) _).alloc (by simp) _
  rw [hE] at HEqC
  unfold maxLen at hl2 hm2
  have HL3 : Hid (∀ (i : Nat) (x : J n), xs[i]? = some x → ∃ g nm' l', pl = some ⟨g, 0, none⟩ ∧ g < w.heap.size ∧ Six w g (i * 6) (headJ n x) nm' l' ∧ RSt av w n x (rfV (headJ n x) nm' l')) := hl3
  have HM3 : Hid (∀ (i : Nat) (x : J n), ys[i]? = some x → ∃ g nm' l', pm = some ⟨g, 0, none⟩ ∧ g < w.heap.size ∧ Six w g (i * 6) (headJ n x) nm' l' ∧ RSt av' w n x (rfV (headJ n x) nm' l')) := hm3
  have HIh : Hid (xs ≠ [] → RSameOK n) := ih
  have H6 : Hid (xs.length = ys.length) := h6
  generalize partsR h h A B xs ys = res at *
  clear h5 h6 hE hA hB hL hM ha3 hb3 hl3 hm3 ih
  unfold rfV
  go_enter Tryz.func13, Tryz.ntmps13
  go_wp2_with fail
  rw [← HW0.out]
  refine Calls.mono (HEqC.out w0 HB0.out) ?_
  rintro e w1 ⟨rfl, b1⟩
  have HB1 : Hid (Below w.heap.size w w1) := HB0.out.trans (b1.mono HB0.out.size)
  have HV1 : Hid (Box w1 w.heap.size h (.slice pa A.length ca) (.slice pl xs.length cl)) := HV0.out.below b1
  have HU1 : Hid (Box w1 (w.heap.size + 1) h (.slice pb B.length cb) (.slice pm ys.length cm)) := HU0.out.below b1
  have v5 := HV1.out.c5
  have u5 := HU1.out.c5
  clear b1
  go_wp2_with fail
  go_loopw [52] (fun i wr => SLoop w xs ys h h (.slice pa A.length ca) (.slice pl xs.length cl) (.slice pb B.length cb) (.slice pm ys.length cm) i wr) (fun i _ => xs.length - (intOf i).toNat)
  case atStart => exact ⟨0, Nat.zero_le _, rfl, fun q x y hq => absurd hq (Nat.not_lt_zero _), HB1.out, HV1.out, HU1.out⟩
  case round =>
    obtain ⟨k, hk, rfl, hall, hB, hV, hU⟩ := hrel
    have HAl : Hid (∀ (q : Nat) (x y : J n), q < k → xs[q]? = some x → ys[q]? = some y → sameR n x y = true) := hall
    have HB : Hid (Below w.heap.size w wr) := hB
    have HV : Hid (Box wr w.heap.size h (.slice pa A.length ca) (.slice pl xs.length cl)) := hV
    have HU : Hid (Box wr (w.heap.size + 1) h (.slice pb B.length cb) (.slice pm ys.length cm)) := hU
    have v5 := hV.c5
    have u5 := hU.c5
    clear hall hB hV hU HV0 HU0 HB0 HW0 HB1 HV1 HU1 HEqC
    by_cases hlt : k < xs.length
    · have hkm : k < ys.length := by have := H6.out; omega
      obtain ⟨x, hxk⟩ : ∃ x, xs[k]? = some x := ⟨xs[k], List.getElem?_eq_getElem hlt⟩
      obtain ⟨y, hyk⟩ : ∃ y, ys[k]? = some y := ⟨ys[k], List.getElem?_eq_getElem hkm⟩
      obtain ⟨g', nm', l', rfl, hg', h6, hst⟩ := HL3.out k x hxk
      obtain ⟨g2, nm2, l2, rfl, hg2, h62, hst2⟩ := HM3.out k y hyk
      obtain ⟨⟨p1, k1, c1, rfl⟩, p2, k2, c2, rfl⟩ := rst_sl hst
      obtain ⟨⟨p3, k3, c3, rfl⟩, p4, k4, c4, rfl⟩ := rst_sl hst2
      obtain ⟨x0, x1, x2, x3, x4, x5⟩ := h6.keep (HB.out.block g' hg')
      obtain ⟨y0, y1, y2, y3, y4, y5⟩ := h62.keep (HB.out.block g2 hg2)
      have HCall : Hid (∀ w1, Below w.heap.size w w1 → Calls Tryz.prog 13 #[rfV (headJ n x) (.slice p1 k1 c1) (.slice p2 k2 c2), rfV (headJ n y) (.slice p3 k3 c3) (.slice p4 k4 c4)] w1 fun e w' => e = .returned (.bool (sameR n x y)) ∧ Below w1.heap.size w1 w') := fun w1 b => HIh.out (by rintro rfl; simp at hlt) av av' x y _ _ w1 (hst.below b) (hst2.below b)
      have HXk : Hid (sameR n x y = false → res = false) := HXF.out k x y hxk hyk
      have HNx : Hid (sameR n x y = true → ∀ (q : Nat) (x y : J n), q < k + 1 → xs[q]? = some x → ys[q]? = some y → sameR n x y = true) := fun hs q a b hq ha hb => by
        rcases Nat.lt_succ_iff_lt_or_eq.1 hq with h | h
        · exact HAl.out q a b h ha hb
        · subst h
          rw [hxk] at ha
          rw [hyk] at hb
          cases ha; cases hb
          exact hs
      have hkI : (k : Int) < (xs.length : Int) := by omega
      have hkJ : (k : Int) < (ys.length : Int) := by omega
      clear hst h6 hxk hst2 h62 hyk
      unfold rfV at HCall
      go_wp2_with fail
      go_region_with (go_at_call 13; refine Calls.mono (HCall.out _ HB.out.drew) ?_; rintro e w3 ⟨rfl, b3⟩)
      all_goals
        have HB3 : Hid (Below w.heap.size w w3) := HB.out.drew.trans (b3.mono HB.out.drew.size)
        have HV3 := HV.out.drew.below b3
        have HU3 := HU.out.drew.below b3
        have HV3 : Hid (Box w3 w.heap.size h (.slice pa A.length ca) (.slice (some ⟨g', 0, none⟩) xs.length cl)) := HV3
        have HU3 : Hid (Box w3 (w.heap.size + 1) h (.slice pb B.length cb) (.slice (some ⟨g2, 0, none⟩) ys.length cm)) := HU3
        clear b3 HCall
        cases hs : sameR n x y with
        | false =>
          have HXX : Hid (res = false) := HXk.out hs
          clear hs
          go_wp2_with fail
          go_ret
          exact ⟨by rw [HXX.out]; rfl, HB3.out⟩
        | true =>
          have HNN : Hid (∀ (q : Nat) (x y : J n), q < k + 1 → xs[q]? = some x → ys[q]? = some y → sameR n x y = true) := HNx.out hs
          clear hs
          go_wp2_with fail
          go_roundw
          case rel =>
            have hrelN : SLoop w xs ys h h (.slice pa A.length ca) (.slice (some ⟨g', 0, none⟩) xs.length cl) (.slice pb B.length cb) (.slice (some ⟨g2, 0, none⟩) ys.length cm) (.int .i64 ((k : Int) + 1)) w3 := ⟨k + 1, by omega, by go_num, HNN.out, HB3.out, HV3.out, HU3.out⟩
            first | exact hrelN | ((repeat apply Exists.intro); refine ⟨hrelN, ?_⟩; first | rfl | exact ⟨rfl, rfl⟩ | exact ⟨rfl, rfl, rfl⟩ | exact ⟨rfl, rfl, rfl, rfl⟩ | exact ⟨rfl, rfl, rfl, rfl, rfl⟩)
          case measure => (simp [intOf]; omega)
    · have HXX : Hid (res = true) := HXT.out (fun q x y hx hy => HAl.out q x y (by
        have := (List.getElem?_eq_some_iff.1 hx).1
        omega) hx hy)
      go_wp2_with fail
      go_ret
      exact ⟨by rw [HXX.out]; rfl, HB.out⟩
theorem rfsame_parts (n : Nat) (av av' : Nat → Prop) (h g : Hd) (A B : List Bs) (xs ys : List (J n)) (va vl ua ul : Value) (w : World) (ih : xs ≠ [] → RSameOK n) (hA : RStrs av w A va) (hB : RStrs av' w B ua) (hL : RVals av w n xs vl) (hM : RVals av' w n ys ul) :
    Calls Tryz.prog 13 #[rfV h va vl, rfV g ua ul] w fun e w' => e = .returned (.bool (partsR h g A B xs ys)) ∧ Below w.heap.size w w' := by
  by_cases h1 : h.k = g.k
  · by_cases h2 : h.b = g.b
    · by_cases h3 : h.i = g.i
      · by_cases h4 : h.s = g.s
        · have hg : h = g := by
            obtain ⟨k1, b1, i1, s1⟩ := h
            obtain ⟨k2, b2, i2, s2⟩ := g
            dsimp only at h1 h2 h3 h4
            subst h1 h2 h3 h4
            rfl
          subst hg
          by_cases h5 : A = B
          · by_cases h6 : xs.length = ys.length
            · exact rfsame_loop n av av' h A B xs ys va vl ua ul w ih hA hB hL hM h5 h6
            · exact rfsame_lens n av av' h A B xs ys va vl ua ul w trivial hA hB hL hM h5 h6
          · exact rfsame_names n av av' h A B xs ys va vl ua ul w trivial hA hB hL hM h5
        · exact rfsame_h4 n av av' h g A B xs ys va vl ua ul w hA hB hL hM h1 h2 h3 h4
      · exact rfsame_h3 n av av' h g A B xs ys va vl ua ul w hA hB hL hM h1 h2 h3
    · exact rfsame_h2 n av av' h g A B xs ys va vl ua ul w hA hB hL hM h1 h2
  · exact rfsame_h1 n av av' h g A B xs ys va vl ua ul w hA hB hL hM h1
theorem rfsame_ok : ∀ n : Nat, RSameOK n
  | 0, av, av', j, i, v, u, w, hv, hu => by
    have e : v = rfV (headL j) (.slice none 0 0) (.slice none 0 0) := hv
    have e2 : u = rfV (headL i) (.slice none 0 0) (.slice none 0 0) := hu
    subst e e2
    have h9 := rfsame_parts 0 av av' (headL j) (headL i) [] [] [] [] _ _ _ _ w (fun h => absurd rfl h) (Or.inl ⟨rfl, rfl⟩) (Or.inl ⟨rfl, rfl⟩) (Or.inl ⟨rfl, rfl⟩) (Or.inl ⟨rfl, rfl⟩)
    refine h9.mono ?_
    rintro e w1 ⟨rfl, b⟩
    refine ⟨?_, b⟩
    simp [partsR, sameR]
  | n + 1, av, av', j, i, v, u, w, hv, hu => by
    obtain ⟨nm, lv, rfl, h1, h2⟩ := hv.open
    obtain ⟨nm2, lv2, rfl, h3, h4⟩ := hu.open
    exact rfsame_parts n av av' _ _ _ _ _ _ _ _ _ _ w (fun _ => rfsame_ok n) h1 h3 h2 h4
end Go.Proofs.YtaogilpkeeigoaaGreatDoor
/- Plain facts on what goes wrong: no error is nothing; a document is never empty. -/
namespace Go.Proofs.YtaogilpkeeigoaaGreatDoor
set_option linter.unusedVariables false
set_option linter.unusedSimpArgs false
theorem leafE_err {r : Bs} {e : Nat} (h : leafE r = .error e) : e = eSyntax ∨ e = eLarge := by
  unfold leafE at h
  split at h
  · unfold word at h; split at h <;> cases h; exact Or.inl rfl
  · split at h
    · unfold word at h; split at h <;> cases h; exact Or.inl rfl
    · split at h
      · unfold word at h; split at h <;> cases h; exact Or.inl rfl
      · split at h
        · unfold textE at h
          cases hq : quoted r with
          | none => rw [hq] at h; cases h; exact Or.inl rfl
          | some p => rw [hq] at h; cases h
        · unfold number at h
          simp only [] at h
          generalize (if (hd r == 45) = true then r.tail else r) = r1 at h
          split at h
          · cases h; exact Or.inl rfl
          · split at h
            · cases h; exact Or.inl rfl
            · split at h
              · cases h; exact Or.inr rfl
              · cases h
theorem beginE_vals (n k : Nat) (r : Bs) : beginE n k r = 0 ∨ beginE n k r = eSyntax ∨ beginE n k r = eLarge ∨ beginE n k r = eDeep := by
  unfold beginE
  split
  · exact Or.inr (Or.inl rfl)
  · split
    · exact Or.inr (Or.inr (Or.inl rfl))
    · split
      · exact Or.inr (Or.inr (Or.inr rfl))
      · exact Or.inl rfl
def IsErr (e : Nat) : Prop := e = eSyntax ∨ e = eLarge ∨ e = eDeep ∨ e = eTwice
theorem rowGo_err {σ : Type} {z : UInt8} {one : σ → Nat → Bs → Except Nat (σ × Nat × Bs)} (h : ∀ s k r e, one s k r = .error e → IsErr e) : ∀ (f : Nat) (s : σ) (k : Nat) (r : Bs) (e : Nat), rowGo z one f s k r = .error e → IsErr e
  | 0, s, k, r, e, he => by
    simp [rowGo] at he
    exact Or.inl he.symm
  | f + 1, s, k, r, e, he => by
    rw [rowGo] at he
    cases ho : one s k r with
    | error er => rw [ho] at he; cases he; exact h s k r e ho
    | ok p =>
      obtain ⟨s1, k1, r1⟩ := p
      rw [ho] at he
      simp only [] at he
      split at he
      · cases he
      · split at he
        · exact rowGo_err h f s1 k1 _ e he
        · cases he; exact Or.inl rfl
theorem row_err {σ : Type} {z : UInt8} {one : σ → Nat → Bs → Except Nat (σ × Nat × Bs)} (h : ∀ s k r e, one s k r = .error e → IsErr e) (s : σ) (k : Nat) (r : Bs) (e : Nat) (he : row z one s k r = .error e) : IsErr e := by
  unfold row at he
  split at he
  · cases he
  · exact rowGo_err h _ _ _ _ _ he
theorem value_isErr : ∀ (n : Nat) (k : Nat) (r : Bs) (e : Nat), value n k r = .error e → IsErr e
  | 0, k, r, e, h => by
    rw [value] at h
    split at h
    · rename_i h0
      cases h
      rcases beginE_vals 0 k (skip r) with h1 | h1 | h1 | h1
      · exact absurd h1 h0
      · exact Or.inl h1
      · exact Or.inr (Or.inl h1)
      · exact Or.inr (Or.inr (Or.inl h1))
    · unfold leafAt at h
      cases hl : leafE (skip r) with
      | error er =>
        rw [hl] at h
        cases h
        rcases leafE_err hl with h1 | h1
        · exact Or.inl h1
        · exact Or.inr (Or.inl h1)
      | ok p => rw [hl] at h; cases h
  | n + 1, k, r, e, h => by
    rw [value] at h
    split at h
    · rename_i h0
      cases h
      rcases beginE_vals (n + 1) k (skip r) with h1 | h1 | h1 | h1
      · exact absurd h1 h0
      · exact Or.inl h1
      · exact Or.inr (Or.inl h1)
      · exact Or.inr (Or.inr (Or.inl h1))
    · split at h
      · cases hr : row 93 (oneItem (value n)) [] (k + 1) (skip r) with
        | error er =>
          rw [hr] at h
          cases h
          refine row_err (one := oneItem (value n)) (fun s k r e ho => ?_) _ _ _ _ hr
          unfold oneItem at ho
          cases hv : value n k r with
          | error er => rw [hv] at ho; cases ho; exact value_isErr n k r e hv
          | ok p => rw [hv] at ho; cases ho
        | ok p => rw [hr] at h; cases h
      · split at h
        · cases hr : row 125 (oneField (value n)) [] (k + 1) (skip r) with
          | error er =>
            rw [hr] at h
            cases h
            refine row_err (one := oneField (value n)) (fun s k r e ho => ?_) _ _ _ _ hr
            unfold oneField at ho
            cases hn : nameE s r with
            | error er =>
              rw [hn] at ho
              cases ho
              unfold nameE at hn
              cases hq : quoted (skip r) with
              | none => rw [hq] at hn; cases hn; exact Or.inl rfl
              | some p =>
                rw [hq] at hn
                simp only [] at hn
                split at hn
                · cases hn; exact Or.inr (Or.inr (Or.inr rfl))
                · split at hn
                  · cases hn
                  · cases hn; exact Or.inl rfl
            | ok p =>
              obtain ⟨nm, r1⟩ := p
              rw [hn] at ho
              simp only [] at ho
              cases hv : value n k r1 with
              | error er => rw [hv] at ho; cases ho; exact value_isErr n k r1 e hv
              | ok p => rw [hv] at ho; cases ho
          | ok p => rw [hr] at h; cases h
        · unfold leafAt at h
          cases hl : leafE (skip r) with
          | error er =>
            rw [hl] at h
            cases h
            rcases leafE_err hl with h1 | h1
            · exact Or.inl h1
            · exact Or.inr (Or.inl h1)
          | ok p => rw [hl] at h; cases h
theorem read_isErr {s : Bs} {e : Nat} (h : read s = .error e) : IsErr e := by
  unfold read at h
  split at h
  · cases h; exact Or.inr (Or.inl rfl)
  · cases hv : value 10 0 s with
    | error er => rw [hv] at h; cases h; exact value_isErr _ _ _ _ hv
    | ok p =>
      obtain ⟨j1, k1, r1⟩ := p
      rw [hv] at h
      simp only [] at h
      split at h
      · cases h
      · cases h; exact Or.inl rfl
theorem read_err {s : Bs} {e : Nat} (h : read s = .error e) : e ≠ 0 := by
  rcases read_isErr h with rfl | rfl | rfl | rfl <;> decide
theorem dec_ne (u : Nat) : Lib.decDigits u ≠ [] := by
  rw [Lib.decDigits]
  split <;> simp
theorem tellLeaf_ne (l : Leaf) : tellLeaf l ≠ [] := by
  match l with
  | none => simp [tellLeaf, nullB]
  | some (Sum.inl true) => simp [tellLeaf, trueB]
  | some (Sum.inl false) => simp [tellLeaf, falseB]
  | some (Sum.inr (Sum.inl i)) =>
    show Lib.itoa i ≠ []
    unfold Lib.itoa
    split
    · simp
    · exact dec_ne _
  | some (Sum.inr (Sum.inr s)) => simp [tellLeaf, quote]
theorem tell_ne : ∀ (n : Nat) (j : J n), tell n j ≠ []
  | 0, j => tellLeaf_ne j
  | _ + 1, Sum.inl l => tellLeaf_ne l
  | _ + 1, Sum.inr (Sum.inl xs) => List.cons_ne_nil _ _
  | _ + 1, Sum.inr (Sum.inr fs) => List.cons_ne_nil _ _
end Go.Proofs.YtaogilpkeeigoaaGreatDoor
/- Plain facts: what is told is read as it was, wherever there is room. -/
namespace Go.Proofs.YtaogilpkeeigoaaGreatDoor
set_option linter.unusedVariables false
set_option linter.unusedSimpArgs false
def noDigit (r : Bs) : Prop := isDigit (hd r) = false
theorem digit_of (m : Nat) (h : m < 10) : isDigit (UInt8.ofNat (48 + m)) = true ∧ (UInt8.ofNat (48 + m)).toNat = 48 + m := by
  have e : (UInt8.ofNat (48 + m)).toNat = 48 + m := by simp; omega
  exact ⟨(digit_iff _).2 (by omega), e⟩
theorem dec_digits : ∀ (k u : Nat), u < 10 ^ k → ∀ c ∈ Lib.decDigits u, isDigit c = true
  | 0, u, hu, c, hc => by
    have : u = 0 := by simpa using hu
    subst this
    rw [Lib.decDigits] at hc
    simp at hc
    subst hc
    decide
  | k + 1, u, hu, c, hc => by
    rw [Lib.decDigits] at hc
    split at hc
    · have hc := List.mem_singleton.1 hc
      subst hc
      exact (digit_of u (by assumption)).1
    · rcases List.mem_append.1 hc with hc | hc
      · exact dec_digits k (u / 10) (by rw [Nat.pow_succ] at hu; omega) c hc
      · have hc := List.mem_singleton.1 hc
        subst hc
        exact (digit_of (u % 10) (by omega)).1
theorem decV_snoc (ds : Bs) (c : UInt8) : decV (ds ++ [c]) = 10 * decV ds + (c.toNat - 48) := by
  unfold decV
  rw [List.foldl_append]
  rfl
theorem dec_val : ∀ (k u : Nat), u < 10 ^ k → decV (Lib.decDigits u) = u
  | 0, u, hu => by
    have : u = 0 := by simpa using hu
    subst this
    rw [Lib.decDigits]
    rfl
  | k + 1, u, hu => by
    rw [Lib.decDigits]
    split
    · rename_i h
      have := (digit_of u h).2
      show 10 * 0 + ((UInt8.ofNat (48 + u)).toNat - 48) = u
      omega
    · rw [decV_snoc, dec_val k (u / 10) (by rw [Nat.pow_succ] at hu; omega), (digit_of (u % 10) (by omega)).2]
      omega
theorem dec_first : ∀ (k u : Nat), u < 10 ^ k → 1 ≤ u → hd (Lib.decDigits u) ≠ 48
  | 0, u, hu, h1 => by simp at hu; omega
  | k + 1, u, hu, h1 => by
    rw [Lib.decDigits]
    split
    · rename_i h
      intro e
      have h2 := (digit_of u h).2
      have e' : UInt8.ofNat (48 + u) = 48 := e
      rw [e'] at h2
      have : (48 : UInt8).toNat = 48 := rfl
      omega
    · have ih := dec_first k (u / 10) (by rw [Nat.pow_succ] at hu; omega) (by omega)
      have hne := dec_ne (u / 10)
      cases hd' : Lib.decDigits (u / 10) with
      | nil => exact absurd hd' hne
      | cons c r =>
        rw [hd'] at ih
        exact ih
theorem dec_len' : ∀ (k u : Nat), 1 ≤ k → u < 10 ^ k → (Lib.decDigits u).length ≤ k
  | 0, u, h, _ => by omega
  | k + 1, u, _, hu => by
    rw [Lib.decDigits]
    split
    · simp
    · rename_i h10
      cases k with
      | zero => simp at hu; omega
      | succ k =>
        have := dec_len' (k + 1) (u / 10) (by omega) (by rw [Nat.pow_succ] at hu; omega)
        simp only [List.length_append, List.length_cons, List.length_nil]
        omega
theorem take_digits {ds r : Bs} (h : ∀ c ∈ ds, isDigit c = true) (hr : noDigit r) : (ds ++ r).takeWhile isDigit = ds ∧ (ds ++ r).dropWhile isDigit = r := by
  induction ds with
  | nil =>
    cases r with
    | nil => exact ⟨rfl, rfl⟩
    | cons c r =>
      have hc : isDigit c = false := hr
      simp [List.takeWhile_cons, List.dropWhile_cons, hc]
  | cons d ds ih =>
    have h1 := h d (by simp)
    have h2 := ih (fun c hc => h c (by simp [hc]))
    simp [List.takeWhile_cons, List.dropWhile_cons, h1, h2]
theorem number_dec (below : Bool) (u : Nat) (r : Bs) (hu : u < 10 ^ 18) (hb : below = true → 1 ≤ u) (hr : noDigit r) :
    number ((if below then [45] else []) ++ (Lib.decDigits u ++ r)) = .ok (some (Sum.inr (Sum.inl (if below then -(u : Int) else (u : Int)))), r) := by
  have hdg := dec_digits 18 u hu
  have hv := dec_val 18 u hu
  have hl := dec_len' 18 u (by decide) hu
  have hne := dec_ne u
  have htd := take_digits hdg hr
  have hfirst : hd (Lib.decDigits u) ≠ 45 ∧ (hd (Lib.decDigits u ++ r) = hd (Lib.decDigits u)) := by
    cases hd' : Lib.decDigits u with
    | nil => exact absurd hd' hne
    | cons c t =>
      have hc := (digit_iff c).1 (hdg c (by rw [hd']; simp))
      refine ⟨?_, rfl⟩
      intro e
      have e' : c = 45 := e
      rw [e'] at hc
      have : (45 : UInt8).toNat = 45 := rfl
      omega
  cases below with
  | true =>
    have h1 := hb rfl
    have hf := dec_first 18 u hu h1
    show number (45 :: (Lib.decDigits u ++ r)) = _
    unfold number
    have e1 : (hd (45 :: (Lib.decDigits u ++ r)) == 45) = true := rfl
    simp only [e1, if_true, List.tail_cons, htd.1, htd.2]
    rw [if_neg hne, if_neg (fun e => hf e.1), if_neg (by omega)]
    simp only [numVal, if_true, hv]
  | false =>
    show number (Lib.decDigits u ++ r) = _
    unfold number
    have e1 : (hd (Lib.decDigits u ++ r) == 45) = false := by
      rw [hfirst.2]
      exact beq_eq_false_iff_ne.2 hfirst.1
    simp only [e1, Bool.false_eq_true, if_false, htd.1, htd.2]
    rw [if_neg hne, if_neg, if_neg (by omega)]
    · simp only [numVal, Bool.false_eq_true, if_false, hv]
    · rintro ⟨h1, h2⟩
      rcases h2 with h2 | h2
      · cases h2
      · by_cases h0 : u = 0
        · subst h0
          rw [Lib.decDigits] at h2
          simp at h2
        · exact dec_first 18 u hu (by omega) h1
/-- how a leaf that is told begins, and that it is read -/
theorem leafE_tell (l : Leaf) (h : GoodLeaf l) (r : Bs) (hr : noDigit r) : leafE (tellLeaf l ++ r) = .ok (l, r) ∧ hd (tellLeaf l ++ r) ∈ opens ∧ blank (hd (tellLeaf l ++ r)) = false ∧ hd (tellLeaf l ++ r) ≠ 91 ∧ hd (tellLeaf l ++ r) ≠ 123 := by
  match l, h with
  | none, _ =>
    refine ⟨?_, by show (110 : UInt8) ∈ opens; decide, rfl, by show (110 : UInt8) ≠ 91; decide, by show (110 : UInt8) ≠ 123; decide⟩
    show leafE (nullB ++ r) = _
    unfold leafE
    rw [if_pos (show hd (nullB ++ r) = 110 from rfl), word, if_pos (List.isPrefixOf_iff_prefix.2 (List.prefix_append _ _))]
    simp
  | some (Sum.inl true), _ =>
    refine ⟨?_, by show (116 : UInt8) ∈ opens; decide, rfl, by show (116 : UInt8) ≠ 91; decide, by show (116 : UInt8) ≠ 123; decide⟩
    show leafE (trueB ++ r) = _
    unfold leafE
    rw [if_neg (by show (116 : UInt8) ≠ 110; decide), if_pos (show hd (trueB ++ r) = 116 from rfl), word, if_pos (List.isPrefixOf_iff_prefix.2 (List.prefix_append _ _))]
    simp
  | some (Sum.inl false), _ =>
    refine ⟨?_, by show (102 : UInt8) ∈ opens; decide, rfl, by show (102 : UInt8) ≠ 91; decide, by show (102 : UInt8) ≠ 123; decide⟩
    show leafE (falseB ++ r) = _
    unfold leafE
    rw [if_neg (by show (102 : UInt8) ≠ 110; decide), if_neg (by show (102 : UInt8) ≠ 116; decide), if_pos (show hd (falseB ++ r) = 102 from rfl), word, if_pos (List.isPrefixOf_iff_prefix.2 (List.prefix_append _ _))]
    simp
  | some (Sum.inr (Sum.inr s)), h =>
    refine ⟨?_, by show (34 : UInt8) ∈ opens; decide, rfl, by show (34 : UInt8) ≠ 91; decide, by show (34 : UInt8) ≠ 123; decide⟩
    show leafE (quote s ++ r) = _
    unfold leafE
    have e : hd (quote s ++ r) = 34 := rfl
    rw [e]
    rw [if_neg (by decide), if_neg (by decide), if_neg (by decide), if_pos rfl, textE, quoted_quote s h r]
  | some (Sum.inr (Sum.inl i)), h =>
    have h1 : -1000000000000000000 < i := h.1
    have h2 : i < 1000000000000000000 := h.2
    obtain ⟨below, u, hi, hit, hu, hb⟩ : ∃ (below : Bool) (u : Nat), i = (if below then -(u : Int) else (u : Int)) ∧ Lib.itoa i = (if below then [45] else []) ++ Lib.decDigits u ∧ u < 10 ^ 18 ∧ (below = true → 1 ≤ u) := by
      by_cases hneg : i < 0
      · exact ⟨true, i.natAbs, by simp; omega, by unfold Lib.itoa; rw [if_pos hneg]; rfl, by omega, fun _ => by omega⟩
      · exact ⟨false, i.toNat, by simp; omega, by unfold Lib.itoa; rw [if_neg hneg]; rfl, by omega, fun e => by cases e⟩
    have hn := number_dec below u r hu hb hr
    have hdg := dec_digits 18 u hu
    have hne := dec_ne u
    show leafE (Lib.itoa i ++ r) = _ ∧ hd (Lib.itoa i ++ r) ∈ opens ∧ blank (hd (Lib.itoa i ++ r)) = false ∧ hd (Lib.itoa i ++ r) ≠ 91 ∧ hd (Lib.itoa i ++ r) ≠ 123
    rw [hit, List.append_assoc]
    have hhd : hd ((if below then [45] else []) ++ (Lib.decDigits u ++ r)) = 45 ∨ (48 ≤ (hd ((if below then [45] else []) ++ (Lib.decDigits u ++ r))).toNat ∧ (hd ((if below then [45] else []) ++ (Lib.decDigits u ++ r))).toNat ≤ 57) := by
      cases below with
      | true => exact Or.inl rfl
      | false =>
        right
        cases hd' : Lib.decDigits u with
        | nil => exact absurd hd' hne
        | cons c t => exact (digit_iff c).1 (hdg c (by rw [hd']; simp))
    generalize hX : (if below then [45] else []) ++ (Lib.decDigits u ++ r) = X at *
    have hfacts : hd X ∈ opens ∧ blank (hd X) = false ∧ hd X ≠ 91 ∧ hd X ≠ 123 ∧ hd X ≠ 110 ∧ hd X ≠ 116 ∧ hd X ≠ 102 ∧ hd X ≠ 34 := by
      generalize hd X = c at hhd
      rcases hhd with rfl | ⟨ha, hb'⟩
      · decide
      · have hne' : ∀ m : Nat, m < 256 → (m < 48 ∨ 57 < m) → c ≠ UInt8.ofNat m := by
          intro m hm hm2 e
          subst e
          have : (UInt8.ofNat m).toNat = m := by simp; omega
          omega
        refine ⟨?_, ?_, hne' 91 (by decide) (by decide), hne' 123 (by decide) (by decide), hne' 110 (by decide) (by decide), hne' 116 (by decide) (by decide), hne' 102 (by decide) (by decide), hne' 34 (by decide) (by decide)⟩
        · have hall : ∀ m : Fin 10, UInt8.ofNat (48 + m.val) ∈ opens := by decide
          have hc : c = UInt8.ofNat (48 + (c.toNat - 48)) := by
            apply UInt8.toNat_inj.1
            simp
            omega
          rw [hc]
          exact hall ⟨c.toNat - 48, by omega⟩
        · have h32 := hne' 32 (by decide) (by decide)
          have h10 := hne' 10 (by decide) (by decide)
          have h9 := hne' 9 (by decide) (by decide)
          have e32 : UInt8.ofNat 32 = 32 := rfl
          have e10 : UInt8.ofNat 10 = 10 := rfl
          have e9 : UInt8.ofNat 9 = 9 := rfl
          rw [e32] at h32
          rw [e10] at h10
          rw [e9] at h9
          simp [blank, h32, h10, h9]
    refine ⟨?_, hfacts.1, hfacts.2.1, hfacts.2.2.1, hfacts.2.2.2.1⟩
    unfold leafE
    rw [if_neg hfacts.2.2.2.2.1, if_neg hfacts.2.2.2.2.2.1, if_neg hfacts.2.2.2.2.2.2.1, if_neg hfacts.2.2.2.2.2.2.2, hn, ← hi]
theorem skip_not {r : Bs} (h : blank (hd r) = false) : skip r = r := by
  cases r with
  | nil => rfl
  | cons c r =>
    have hc : blank c = false := h
    rw [skip, if_neg (by simp [hc])]
/-- what comes of reading what is told, at whatever depth and count -/
def Told (m k : Nat) (t : Bs) (many deep : Nat) (r : Bs) : Prop :=
  (∃ j' : J m, value m k (t ++ r) = .ok (j', k + many, r) ∧ tell m j' = t ∧ nodes m j' = many ∧ depth m j' = deep ∧ k + many ≤ 200 ∧ deep ≤ m) ∨
    (value m k (t ++ r) = .error 2 ∧ 200 < k + many) ∨ (value m k (t ++ r) = .error 4 ∧ m < deep)
theorem tell_leafJ (m : Nat) (l : Leaf) : tell m (leaf m l) = tellLeaf l ∧ nodes m (leaf m l) = 1 ∧ depth m (leaf m l) = 0 := by
  cases m <;> exact ⟨rfl, rfl, rfl⟩
theorem value_first {m k : Nat} {r : Bs} (hb : blank (hd r) = false) (ho : hd r ∈ opens) : (200 ≤ k → value m k r = .error 2) ∧ (k < 200 → m = 0 → (hd r = 91 ∨ hd r = 123) → value m k r = .error 4) := by
  have hsk := skip_not hb
  refine ⟨fun hk => ?_, fun hk hm hc => ?_⟩
  · have e : beginE m k (skip r) = 2 := by
      rw [hsk]
      unfold beginE
      rw [if_neg (by simpa using ho), if_pos hk]
    cases m with
    | zero => rw [value, if_pos (by rw [e]; decide), e]
    | succ m => rw [value, if_pos (by rw [e]; decide), e]
  · subst hm
    have e : beginE 0 k (skip r) = 4 := by
      rw [hsk]
      unfold beginE
      rw [if_neg (by simpa using ho), if_neg (by omega), if_pos ⟨rfl, hc⟩]
    rw [value, if_pos (by rw [e]; decide), e]
theorem told_leaf (m k : Nat) (l : Leaf) (h : GoodLeaf l) (r : Bs) (hr : noDigit r) (hk : k ≤ 200) : Told m k (tellLeaf l) 1 0 r := by
  obtain ⟨hl, ho, hb, h91, h123⟩ := leafE_tell l h r hr
  have hv := value_first (m := m) (k := k) hb ho
  have hsk := skip_not hb
  by_cases h200 : 200 ≤ k
  · exact Or.inr (Or.inl ⟨hv.1 h200, by omega⟩)
  · have e : beginE m k (skip (tellLeaf l ++ r)) = 0 := by
      rw [hsk]
      unfold beginE
      rw [if_neg (by simpa using ho), if_neg h200, if_neg]
      rintro ⟨_, h1 | h1⟩
      · exact h91 h1
      · exact h123 h1
    have hval : value m k (tellLeaf l ++ r) = .ok (leaf m l, k + 1, r) := by
      cases m with
      | zero => rw [value, if_neg (by simp [e]), leafAt, hsk, hl]
      | succ m => rw [value, if_neg (by simp [e]), hsk, if_neg h91, if_neg h123, leafAt, hl]
    have ht := tell_leafJ m l
    exact Or.inl ⟨leaf m l, hval, ht.1, ht.2.1, ht.2.2, by omega, Nat.zero_le _⟩
end Go.Proofs.YtaogilpkeeigoaaGreatDoor
/- Plain facts: lists and objects that are told are read as they were, wherever there is room; so every value. -/
namespace Go.Proofs.YtaogilpkeeigoaaGreatDoor
set_option linter.unusedVariables false
set_option linter.unusedSimpArgs false
/-- every value of depth n that is told is read so -/
def ToldAt (n : Nat) : Prop := ∀ (j : J n), Good n j → ∀ (m k : Nat) (r : Bs), noDigit r → k ≤ 200 → Told m k (tell n j) (nodes n j) (depth n j) r
theorem tell_hd : ∀ (n : Nat) (j : J n), Good n j → ∀ r, noDigit r → hd (tell n j ++ r) ∈ opens ∧ blank (hd (tell n j ++ r)) = false
  | 0, j, h, r, hr => ⟨(leafE_tell j h r hr).2.1, (leafE_tell j h r hr).2.2.1⟩
  | _ + 1, Sum.inl l, h, r, hr => ⟨(leafE_tell l h r hr).2.1, (leafE_tell l h r hr).2.2.1⟩
  | _ + 1, Sum.inr (Sum.inl xs), h, r, hr => ⟨by show (91 : UInt8) ∈ opens; decide, rfl⟩
  | _ + 1, Sum.inr (Sum.inr fs), h, r, hr => ⟨by show (123 : UInt8) ∈ opens; decide, rfl⟩
theorem commas_cons (t : Bs) (ts : List Bs) (r : Bs) : commas (t :: ts) ++ r = t ++ (match ts with | [] => r | _ :: _ => 44 :: (commas ts ++ r)) := by
  cases ts with
  | nil => rfl
  | cons u us => simp [commas]
theorem commas_ge : ∀ ts : List Bs, ts.length ≤ (commas ts).length + 1
  | [] => by simp
  | [x] => by simp
  | x :: y :: r => by
    have := commas_ge (y :: r)
    simp only [commas, List.length_append, List.length_cons] at this ⊢
    omega
/-- what comes of a row of values -/
def RowTold {σ : Type} (m : Nat) (res : Except Nat (σ × Nat × Bs)) (good : σ → Prop) (k many deep : Nat) (r : Bs) : Prop :=
  (∃ s, res = .ok (s, k + many, r) ∧ good s ∧ k + many ≤ 200 ∧ deep ≤ m) ∨ (res = .error 2 ∧ 200 < k + many) ∨ (res = .error 4 ∧ m < deep)
theorem items_told {n : Nat} (ih : ToldAt n) (m : Nat) (r : Bs) : ∀ (rest : List (J n)) (x : J n) (f : Nat) (s : List (J m)) (k : Nat), (∀ y ∈ x :: rest, Good n y) → rest.length < f → k ≤ 200 →
    RowTold m (rowGo 93 (oneItem (value m)) f s k (commas ((x :: rest).map (tell n)) ++ 93 :: r)) (fun s' => ∃ ys, s' = s ++ ys ∧ ys.map (tell m) = (x :: rest).map (tell n) ∧ ys.map (nodes m) = (x :: rest).map (nodes n) ∧ ys.map (depth m) = (x :: rest).map (depth n)) k ((x :: rest).map (nodes n)).sum (maxOf ((x :: rest).map (depth n))) r
  | [], x, 0, s, k, hG, hf, hk => by omega
  | [], x, f + 1, s, k, hG, hf, hk => by
    have h1 := ih x (hG x (by simp)) m k (93 :: r) (by show isDigit 93 = false; decide) hk
    have e : commas (([x] : List (J n)).map (tell n)) ++ 93 :: r = tell n x ++ 93 :: r := rfl
    rw [e]
    have em : (([x] : List (J n)).map (nodes n)).sum = nodes n x := by simp
    have ed : maxOf (([x] : List (J n)).map (depth n)) = depth n x := by simp [maxOf]
    rw [em, ed]
    rcases h1 with ⟨j', hv, ht, hn, hd', h200, hm⟩ | ⟨hv, h200⟩ | ⟨hv, hm⟩
    · refine Or.inl ⟨s ++ [j'], ?_, ⟨[j'], rfl, by simp [ht], by simp [hn], by simp [hd']⟩, h200, hm⟩
      rw [rowGo, oneItem, hv]
      rfl
    · refine Or.inr (Or.inl ⟨?_, h200⟩)
      rw [rowGo, oneItem, hv]
    · refine Or.inr (Or.inr ⟨?_, hm⟩)
      rw [rowGo, oneItem, hv]
  | y :: rest, x, 0, s, k, hG, hf, hk => by omega
  | y :: rest, x, f + 1, s, k, hG, hf, hk => by
    have h1 := ih x (hG x (by simp)) m k (44 :: (commas ((y :: rest).map (tell n)) ++ 93 :: r)) (by show isDigit 44 = false; decide) hk
    have e : commas ((x :: y :: rest).map (tell n)) ++ 93 :: r = tell n x ++ 44 :: (commas ((y :: rest).map (tell n)) ++ 93 :: r) := by
      simp [commas]
    rw [e]
    have em : ((x :: y :: rest).map (nodes n)).sum = nodes n x + ((y :: rest).map (nodes n)).sum := by simp
    have ed : maxOf ((x :: y :: rest).map (depth n)) = max (depth n x) (maxOf ((y :: rest).map (depth n))) := rfl
    rw [em, ed]
    rcases h1 with ⟨j', hv, ht, hn, hd', h200, hm⟩ | ⟨hv, h200⟩ | ⟨hv, hm⟩
    · have ih2 := items_told ih m r rest y f (s ++ [j']) (k + nodes n x) (fun z hz => hG z (by simp at hz ⊢; exact Or.inr hz)) (by simp at hf; omega) h200
      have hgo : rowGo 93 (oneItem (value m)) (f + 1) s k (tell n x ++ 44 :: (commas ((y :: rest).map (tell n)) ++ 93 :: r)) = rowGo 93 (oneItem (value m)) f (s ++ [j']) (k + nodes n x) (commas ((y :: rest).map (tell n)) ++ 93 :: r) := by
        rw [rowGo, oneItem, hv]
        rfl
      rw [hgo]
      rcases ih2 with ⟨s', hr, ⟨ys, rfl, h1, h2, h3⟩, h4, h5⟩ | ⟨hr, h4⟩ | ⟨hr, h4⟩
      · refine Or.inl ⟨s ++ [j'] ++ ys, ?_, ⟨j' :: ys, by simp, by simp [ht, h1], by simp [hn, h2], by simp [hd', h3]⟩, by omega, by omega⟩
        rw [hr]
        simp [Nat.add_assoc]
      · exact Or.inr (Or.inl ⟨hr, by omega⟩)
      · exact Or.inr (Or.inr ⟨hr, by omega⟩)
    · refine Or.inr (Or.inl ⟨?_, by omega⟩)
      rw [rowGo, oneItem, hv]
    · refine Or.inr (Or.inr ⟨?_, by omega⟩)
      rw [rowGo, oneItem, hv]
theorem value_row {m k : Nat} {c : UInt8} {X : Bs} (hk : k < 200) (hc : c = 91 ∨ c = 123) : beginE (m + 1) k (skip (c :: X)) = 0 ∧ skip (c :: X) = c :: X := by
  have hb : blank c = false := by rcases hc with rfl | rfl <;> rfl
  have hsk : skip (c :: X) = c :: X := by rw [skip, if_neg (by simp [hb])]
  refine ⟨?_, hsk⟩
  rw [hsk]
  unfold beginE
  have hh : hd (c :: X) = c := rfl
  rw [hh, if_neg (by rcases hc with rfl | rfl <;> decide), if_neg (by omega), if_neg (by rintro ⟨h, _⟩; omega)]
theorem told_list {n : Nat} (ih : ToldAt n) (xs : List (J n)) (hG : ∀ x ∈ xs, Good n x) (m k : Nat) (r : Bs) (hr : noDigit r) (hk : k ≤ 200) :
    Told m k (tell (n + 1) (Sum.inr (Sum.inl xs))) (nodes (n + 1) (Sum.inr (Sum.inl xs))) (depth (n + 1) (Sum.inr (Sum.inl xs))) r := by
  have et : tell (n + 1) (Sum.inr (Sum.inl xs)) = 91 :: (commas (xs.map (tell n)) ++ [93]) := rfl
  have en : nodes (n + 1) (Sum.inr (Sum.inl xs)) = 1 + (xs.map (nodes n)).sum := rfl
  have ed : depth (n + 1) (Sum.inr (Sum.inl xs)) = 1 + maxOf (xs.map (depth n)) := rfl
  have eX : tell (n + 1) (Sum.inr (Sum.inl xs)) ++ r = 91 :: (commas (xs.map (tell n)) ++ 93 :: r) := by rw [et]; simp
  unfold Told
  rw [eX, en, ed]
  have hv := value_first (m := m) (k := k) (r := 91 :: (commas (xs.map (tell n)) ++ 93 :: r)) rfl (by show (91 : UInt8) ∈ opens; decide)
  by_cases h200 : 200 ≤ k
  · exact Or.inr (Or.inl ⟨hv.1 h200, by omega⟩)
  cases m with
  | zero => exact Or.inr (Or.inr ⟨hv.2 (by omega) rfl (Or.inl rfl), by omega⟩)
  | succ m =>
    obtain ⟨hb, hsk⟩ := value_row (m := m) (k := k) (c := 91) (X := commas (xs.map (tell n)) ++ 93 :: r) (by omega) (Or.inl rfl)
    have hval : value (m + 1) k (91 :: (commas (xs.map (tell n)) ++ 93 :: r)) = match row 93 (oneItem (value m)) [] (k + 1) (91 :: (commas (xs.map (tell n)) ++ 93 :: r)) with
      | .error e => .error e
      | .ok (s, k', r') => .ok (Sum.inr (Sum.inl s), k', r') := by
      rw [value, if_neg (by simp [hb]), hsk, if_pos (show hd (91 :: (commas (xs.map (tell n)) ++ 93 :: r)) = 91 from rfl)]
      cases row 93 (oneItem (value m)) [] (k + 1) (91 :: (commas (xs.map (tell n)) ++ 93 :: r)) <;> rfl
    have hrow : RowTold m (row 93 (oneItem (value m)) [] (k + 1) (91 :: (commas (xs.map (tell n)) ++ 93 :: r))) (fun s' => s'.map (tell m) = xs.map (tell n) ∧ s'.map (nodes m) = xs.map (nodes n) ∧ s'.map (depth m) = xs.map (depth n)) (k + 1) (xs.map (nodes n)).sum (maxOf (xs.map (depth n))) r := by
      cases xs with
      | nil =>
        refine Or.inl ⟨[], ?_, ⟨rfl, rfl, rfl⟩, by simp; omega, by simp [maxOf]⟩
        rfl
      | cons x rest =>
        have hh := tell_hd n x (hG x (by simp)) (match rest.map (tell n) with | [] => 93 :: r | _ :: _ => 44 :: (commas (rest.map (tell n)) ++ 93 :: r)) (by cases rest.map (tell n) <;> rfl)
        have eC : commas ((x :: rest).map (tell n)) ++ 93 :: r = tell n x ++ (match rest.map (tell n) with | [] => 93 :: r | _ :: _ => 44 :: (commas (rest.map (tell n)) ++ 93 :: r)) := commas_cons (tell n x) (rest.map (tell n)) (93 :: r)
        rw [← eC] at hh
        have hi := items_told ih m r rest x ((91 :: (commas ((x :: rest).map (tell n)) ++ 93 :: r)).length + 1) [] (k + 1) hG (by
          have := commas_ge ((x :: rest).map (tell n))
          simp only [List.length_map, List.length_cons, List.length_append] at this ⊢
          omega) (by omega)
        have hne : hd (commas ((x :: rest).map (tell n)) ++ 93 :: r) ≠ 93 := by
          intro e
          rw [e] at hh
          exact absurd hh.1 (by decide)
        have hgo : row 93 (oneItem (value m)) [] (k + 1) (91 :: (commas ((x :: rest).map (tell n)) ++ 93 :: r)) = rowGo 93 (oneItem (value m)) ((91 :: (commas ((x :: rest).map (tell n)) ++ 93 :: r)).length + 1) [] (k + 1) (commas ((x :: rest).map (tell n)) ++ 93 :: r) := by
          rw [row, List.tail_cons, skip_not hh.2, if_neg hne]
        rw [hgo]
        rcases hi with ⟨s', h1, ⟨ys, rfl, h2, h3, h4⟩, h5, h6⟩ | h | h
        · exact Or.inl ⟨_, h1, ⟨by simpa using h2, by simpa using h3, by simpa using h4⟩, h5, h6⟩
        · exact Or.inr (Or.inl h)
        · exact Or.inr (Or.inr h)
    rw [hval]
    rcases hrow with ⟨s', h1, ⟨h2, h3, h4⟩, h5, h6⟩ | ⟨h1, h5⟩ | ⟨h1, h5⟩
    · refine Or.inl ⟨Sum.inr (Sum.inl s'), ?_, ?_, ?_, ?_, by omega, by omega⟩
      · rw [h1]
        simp only [Nat.add_assoc]
      · show 91 :: (commas (s'.map (tell m)) ++ [93]) = _
        rw [h2, et]
      · show 1 + (s'.map (nodes m)).sum = _
        rw [h3]
      · show 1 + maxOf (s'.map (depth m)) = _
        rw [h4]
    · exact Or.inr (Or.inl ⟨by rw [h1], by omega⟩)
    · exact Or.inr (Or.inr ⟨by rw [h1], by omega⟩)
/-- the text of a field -/
def fieldT (n : Nat) (f : Bs × J n) : Bs := quote f.1 ++ 58 :: tell n f.2
theorem insert_end_of {α : Type} {s : List (Bs × α)} {nm : Bs} (v : α) (h : ∀ g ∈ s, less g.1 nm = true) : insertAt s nm v = s ++ [(nm, v)] := by
  have hp : placeOfName s nm = s.length := place_of s nm s.length (Nat.le_refl _) (fun x f hx hf => h f (List.mem_of_getElem? hf)) (fun f hf => by rw [List.getElem?_eq_none (Nat.le_refl _)] at hf; cases hf)
  rw [insert_eq, hp]
  simp
theorem any_of_less {α : Type} {s : List (Bs × α)} {nm : Bs} (h : ∀ g ∈ s, less g.1 nm = true) : (s.any fun f => f.1 == nm) = false := by
  rw [List.any_eq_false]
  intro f hf e
  have e' : f.1 = nm := by simpa using e
  have := h f hf
  rw [e', less_iff, cmp_self] at this
  omega
theorem nameE_told {α : Type} {s : List (Bs × α)} {nm X : Bs} (hm : ∀ c ∈ nm, meant c = true) (h : ∀ g ∈ s, less g.1 nm = true) : nameE s (quote nm ++ 58 :: X) = .ok (nm, X) := by
  have hsk : skip (quote nm ++ 58 :: X) = quote nm ++ 58 :: X := skip_not rfl
  unfold nameE
  rw [hsk, quoted_quote nm hm]
  simp only []
  rw [if_neg (by rw [any_of_less h]; decide)]
  have e : skip (58 :: X) = 58 :: X := skip_not rfl
  rw [e, if_pos (show hd (58 :: X) = 58 from rfl)]
  rfl
theorem fields_told {n : Nat} (ih : ToldAt n) (m : Nat) (r : Bs) : ∀ (rest : List (Bs × J n)) (x : Bs × J n) (f : Nat) (s : List (Bs × J m)) (k : Nat), (∀ y ∈ x :: rest, (∀ c ∈ y.1, meant c = true) ∧ Good n y.2) → Rising (x :: rest) → (∀ g ∈ s, ∀ y ∈ x :: rest, less g.1 y.1 = true) → rest.length < f → k ≤ 200 →
    RowTold m (rowGo 125 (oneField (value m)) f s k (commas ((x :: rest).map (fieldT n)) ++ 125 :: r)) (fun s' => ∃ ys, s' = s ++ ys ∧ ys.map (fieldT m) = (x :: rest).map (fieldT n) ∧ ys.map (fun f => nodes m f.2) = (x :: rest).map (fun f => nodes n f.2) ∧ ys.map (fun f => depth m f.2) = (x :: rest).map (fun f => depth n f.2)) k ((x :: rest).map (fun f => nodes n f.2)).sum (maxOf ((x :: rest).map (fun f => depth n f.2))) r
  | [], x, 0, s, k, hG, hR, hs, hf, hk => by omega
  | [], x, f + 1, s, k, hG, hR, hs, hf, hk => by
    have hx := hG x (by simp)
    have h1 := ih x.2 hx.2 m k (125 :: r) (by show isDigit 125 = false; decide) hk
    have e : commas (([x] : List (Bs × J n)).map (fieldT n)) ++ 125 :: r = quote x.1 ++ 58 :: (tell n x.2 ++ 125 :: r) := by simp [commas, fieldT]
    have hn := nameE_told (X := tell n x.2 ++ 125 :: r) hx.1 (fun g hg => hs g hg x (by simp))
    rw [e]
    have em : (([x] : List (Bs × J n)).map (fun f => nodes n f.2)).sum = nodes n x.2 := by simp
    have ed : maxOf (([x] : List (Bs × J n)).map (fun f => depth n f.2)) = depth n x.2 := by simp [maxOf]
    rw [em, ed]
    rcases h1 with ⟨j', hv, ht, hnn, hd', h200, hm⟩ | ⟨hv, h200⟩ | ⟨hv, hm⟩
    · refine Or.inl ⟨s ++ [(x.1, j')], ?_, ⟨[(x.1, j')], rfl, by simp [ht, fieldT], by simp [hnn], by simp [hd']⟩, h200, hm⟩
      rw [rowGo, oneField, hn]
      simp only [hv]
      rw [insert_end_of j' (fun g hg => hs g hg x (by simp))]
      rfl
    · refine Or.inr (Or.inl ⟨?_, h200⟩)
      rw [rowGo, oneField, hn]
      simp only [hv]
    · refine Or.inr (Or.inr ⟨?_, hm⟩)
      rw [rowGo, oneField, hn]
      simp only [hv]
  | y :: rest, x, 0, s, k, hG, hR, hs, hf, hk => by omega
  | y :: rest, x, f + 1, s, k, hG, hR, hs, hf, hk => by
    have hx := hG x (by simp)
    have h1 := ih x.2 hx.2 m k (44 :: (commas ((y :: rest).map (fieldT n)) ++ 125 :: r)) (by show isDigit 44 = false; decide) hk
    have e : commas ((x :: y :: rest).map (fieldT n)) ++ 125 :: r = quote x.1 ++ 58 :: (tell n x.2 ++ 44 :: (commas ((y :: rest).map (fieldT n)) ++ 125 :: r)) := by simp [commas, fieldT]
    have hn := nameE_told (X := tell n x.2 ++ 44 :: (commas ((y :: rest).map (fieldT n)) ++ 125 :: r)) hx.1 (fun g hg => hs g hg x (by simp))
    rw [e]
    have em : ((x :: y :: rest).map (fun f => nodes n f.2)).sum = nodes n x.2 + ((y :: rest).map (fun f => nodes n f.2)).sum := by simp
    have ed : maxOf ((x :: y :: rest).map (fun f => depth n f.2)) = max (depth n x.2) (maxOf ((y :: rest).map (fun f => depth n f.2))) := rfl
    rw [em, ed]
    have hR' := List.pairwise_cons.1 hR
    rcases h1 with ⟨j', hv, ht, hnn, hd', h200, hm⟩ | ⟨hv, h200⟩ | ⟨hv, hm⟩
    · have ih2 := fields_told ih m r rest y f (s ++ [(x.1, j')]) (k + nodes n x.2) (fun z hz => hG z (by simp at hz ⊢; exact Or.inr hz)) hR'.2 (fun g hg z hz => by
          rcases List.mem_append.1 hg with hg | hg
          · exact hs g hg z (by simp at hz ⊢; exact Or.inr hz)
          · have hg := List.mem_singleton.1 hg
            subst hg
            exact hR'.1 z hz) (by simp at hf; omega) h200
      have hgo : rowGo 125 (oneField (value m)) (f + 1) s k (quote x.1 ++ 58 :: (tell n x.2 ++ 44 :: (commas ((y :: rest).map (fieldT n)) ++ 125 :: r))) = rowGo 125 (oneField (value m)) f (s ++ [(x.1, j')]) (k + nodes n x.2) (commas ((y :: rest).map (fieldT n)) ++ 125 :: r) := by
        rw [rowGo, oneField, hn]
        simp only [hv]
        rw [insert_end_of j' (fun g hg => hs g hg x (by simp))]
        rfl
      rw [hgo]
      rcases ih2 with ⟨s', hr, ⟨ys, rfl, h1, h2, h3⟩, h4, h5⟩ | ⟨hr, h4⟩ | ⟨hr, h4⟩
      · refine Or.inl ⟨s ++ [(x.1, j')] ++ ys, ?_, ⟨(x.1, j') :: ys, by simp, by simp [ht, h1, fieldT], by simp [hnn, h2], by simp [hd', h3]⟩, by omega, by omega⟩
        rw [hr]
        simp [Nat.add_assoc]
      · exact Or.inr (Or.inl ⟨hr, by omega⟩)
      · exact Or.inr (Or.inr ⟨hr, by omega⟩)
    · refine Or.inr (Or.inl ⟨?_, by omega⟩)
      rw [rowGo, oneField, hn]
      simp only [hv]
    · refine Or.inr (Or.inr ⟨?_, by omega⟩)
      rw [rowGo, oneField, hn]
      simp only [hv]
theorem told_object {n : Nat} (ih : ToldAt n) (fs : List (Bs × J n)) (hR : Rising fs) (hG : ∀ f ∈ fs, (∀ c ∈ f.1, meant c = true) ∧ Good n f.2) (m k : Nat) (r : Bs) (hr : noDigit r) (hk : k ≤ 200) :
    Told m k (tell (n + 1) (Sum.inr (Sum.inr fs))) (nodes (n + 1) (Sum.inr (Sum.inr fs))) (depth (n + 1) (Sum.inr (Sum.inr fs))) r := by
  have et : tell (n + 1) (Sum.inr (Sum.inr fs)) = 123 :: (commas (fs.map (fieldT n)) ++ [125]) := rfl
  have en : nodes (n + 1) (Sum.inr (Sum.inr fs)) = 1 + (fs.map (fun f => nodes n f.2)).sum := rfl
  have ed : depth (n + 1) (Sum.inr (Sum.inr fs)) = 1 + maxOf (fs.map (fun f => depth n f.2)) := rfl
  have eX : tell (n + 1) (Sum.inr (Sum.inr fs)) ++ r = 123 :: (commas (fs.map (fieldT n)) ++ 125 :: r) := by rw [et]; simp
  unfold Told
  rw [eX, en, ed]
  have hv := value_first (m := m) (k := k) (r := 123 :: (commas (fs.map (fieldT n)) ++ 125 :: r)) rfl (by show (123 : UInt8) ∈ opens; decide)
  by_cases h200 : 200 ≤ k
  · exact Or.inr (Or.inl ⟨hv.1 h200, by omega⟩)
  cases m with
  | zero => exact Or.inr (Or.inr ⟨hv.2 (by omega) rfl (Or.inr rfl), by omega⟩)
  | succ m =>
    obtain ⟨hb, hsk⟩ := value_row (m := m) (k := k) (c := 123) (X := commas (fs.map (fieldT n)) ++ 125 :: r) (by omega) (Or.inr rfl)
    have hval : value (m + 1) k (123 :: (commas (fs.map (fieldT n)) ++ 125 :: r)) = match row 125 (oneField (value m)) [] (k + 1) (123 :: (commas (fs.map (fieldT n)) ++ 125 :: r)) with
      | .error e => .error e
      | .ok (s, k', r') => .ok (Sum.inr (Sum.inr s), k', r') := by
      rw [value, if_neg (by simp [hb]), hsk, if_neg (show ¬ hd (123 :: (commas (fs.map (fieldT n)) ++ 125 :: r)) = 91 from by show ¬ (123 : UInt8) = 91; decide), if_pos (show hd (123 :: (commas (fs.map (fieldT n)) ++ 125 :: r)) = 123 from rfl)]
      cases row 125 (oneField (value m)) [] (k + 1) (123 :: (commas (fs.map (fieldT n)) ++ 125 :: r)) <;> rfl
    have hrow : RowTold m (row 125 (oneField (value m)) [] (k + 1) (123 :: (commas (fs.map (fieldT n)) ++ 125 :: r))) (fun s' => s'.map (fieldT m) = fs.map (fieldT n) ∧ s'.map (fun f => nodes m f.2) = fs.map (fun f => nodes n f.2) ∧ s'.map (fun f => depth m f.2) = fs.map (fun f => depth n f.2)) (k + 1) (fs.map (fun f => nodes n f.2)).sum (maxOf (fs.map (fun f => depth n f.2))) r := by
      cases fs with
      | nil =>
        refine Or.inl ⟨[], ?_, ⟨rfl, rfl, rfl⟩, by simp; omega, by simp [maxOf]⟩
        rfl
      | cons x rest =>
        have hi := fields_told ih m r rest x ((123 :: (commas ((x :: rest).map (fieldT n)) ++ 125 :: r)).length + 1) [] (k + 1) hG hR (fun g hg => by simp at hg) (by
          have := commas_ge ((x :: rest).map (fieldT n))
          simp only [List.length_map, List.length_cons, List.length_append] at this ⊢
          omega) (by omega)
        have hh : hd (commas ((x :: rest).map (fieldT n)) ++ 125 :: r) = 34 := by
          cases rest <;> rfl
        have hgo : row 125 (oneField (value m)) [] (k + 1) (123 :: (commas ((x :: rest).map (fieldT n)) ++ 125 :: r)) = rowGo 125 (oneField (value m)) ((123 :: (commas ((x :: rest).map (fieldT n)) ++ 125 :: r)).length + 1) [] (k + 1) (commas ((x :: rest).map (fieldT n)) ++ 125 :: r) := by
          rw [row, List.tail_cons, skip_not (by rw [hh]; rfl), if_neg (by rw [hh]; decide)]
        rw [hgo]
        rcases hi with ⟨s', h1, ⟨ys, rfl, h2, h3, h4⟩, h5, h6⟩ | h | h
        · exact Or.inl ⟨_, h1, ⟨by simpa using h2, by simpa using h3, by simpa using h4⟩, h5, h6⟩
        · exact Or.inr (Or.inl h)
        · exact Or.inr (Or.inr h)
    rw [hval]
    rcases hrow with ⟨s', h1, ⟨h2, h3, h4⟩, h5, h6⟩ | ⟨h1, h5⟩ | ⟨h1, h5⟩
    · refine Or.inl ⟨Sum.inr (Sum.inr s'), ?_, ?_, ?_, ?_, by omega, by omega⟩
      · rw [h1]
        simp only [Nat.add_assoc]
      · show 123 :: (commas (s'.map (fieldT m)) ++ [125]) = _
        rw [h2, et]
      · show 1 + (s'.map (fun f => nodes m f.2)).sum = _
        rw [h3]
      · show 1 + maxOf (s'.map (fun f => depth m f.2)) = _
        rw [h4]
    · exact Or.inr (Or.inl ⟨by rw [h1], by omega⟩)
    · exact Or.inr (Or.inr ⟨by rw [h1], by omega⟩)
theorem told_any : ∀ n, ToldAt n
  | 0 => fun j h m k r hr hk => told_leaf m k j h r hr hk
  | n + 1 => fun j h m k r hr hk => by
    have ih := told_any n
    match j, h with
    | Sum.inl l, h => exact told_leaf m k l h r hr hk
    | Sum.inr (Sum.inl xs), h => exact told_list ih xs h m k r hr hk
    | Sum.inr (Sum.inr fs), h => exact told_object ih fs h.1 h.2 m k r hr hk
end Go.Proofs.YtaogilpkeeigoaaGreatDoor
/- Plain facts: a value with room for another depth; what is told of it, how large it is, stays. -/
namespace Go.Proofs.YtaogilpkeeigoaaGreatDoor
set_option linter.unusedVariables false
set_option linter.unusedSimpArgs false
/-- the same value, with room for depth m (what is deeper is lost) -/
def lift : (n m : Nat) → J n → J m
  | 0, m, l => leaf m l
  | _ + 1, m, Sum.inl l => leaf m l
  | _ + 1, 0, Sum.inr _ => leaf 0 none
  | n + 1, m + 1, Sum.inr (Sum.inl xs) => Sum.inr (Sum.inl (xs.map (lift n m)))
  | n + 1, m + 1, Sum.inr (Sum.inr fs) => Sum.inr (Sum.inr (fs.map fun f => (f.1, lift n m f.2)))
theorem lift_leaf (n m : Nat) (l : Leaf) : lift n m (leaf n l) = leaf m l := by
  cases n <;> rfl
theorem maxOf_mem : ∀ (l : List Nat) (y : Nat), y ∈ l → y ≤ maxOf l
  | [], y, h => by simp at h
  | x :: l, y, h => by
    rcases List.mem_cons.1 h with rfl | h
    · exact Nat.le_max_left _ _
    · exact Nat.le_trans (maxOf_mem l y h) (Nat.le_max_right _ _)
theorem deep_item {n : Nat} {xs : List (J n)} {m : Nat} (h : depth (n + 1) (Sum.inr (Sum.inl xs)) ≤ m + 1) (x : J n) (hx : x ∈ xs) : depth n x ≤ m := by
  have h1 : 1 + maxOf (xs.map (depth n)) ≤ m + 1 := h
  have h2 := maxOf_mem (xs.map (depth n)) (depth n x) (List.mem_map.2 ⟨x, hx, rfl⟩)
  omega
theorem deep_field {n : Nat} {fs : List (Bs × J n)} {m : Nat} (h : depth (n + 1) (Sum.inr (Sum.inr fs)) ≤ m + 1) (f : Bs × J n) (hf : f ∈ fs) : depth n f.2 ≤ m := by
  have h1 : 1 + maxOf (fs.map fun f => depth n f.2) ≤ m + 1 := h
  have h2 := maxOf_mem (fs.map fun f => depth n f.2) (depth n f.2) (List.mem_map.2 ⟨f, hf, rfl⟩)
  omega
theorem leaf_said (m : Nat) (l : Leaf) : tell m (leaf m l) = tellLeaf l ∧ nodes m (leaf m l) = 1 ∧ depth m (leaf m l) = 0 ∧ kindJ m (leaf m l) = kindLeaf l := by
  cases m <;> exact ⟨rfl, rfl, rfl, rfl⟩
/-- what a value says is the same at every depth that it has room in -/
theorem lift_said : ∀ (n m : Nat) (j : J n), depth n j ≤ m → tell m (lift n m j) = tell n j ∧ nodes m (lift n m j) = nodes n j ∧ depth m (lift n m j) = depth n j ∧ kindJ m (lift n m j) = kindJ n j
  | 0, m, l, _ => leaf_said m l
  | _ + 1, m, Sum.inl l, _ => leaf_said m l
  | n + 1, 0, Sum.inr (Sum.inl xs), h => by
    have h1 : 1 + maxOf (xs.map (depth n)) ≤ 0 := h
    omega
  | n + 1, 0, Sum.inr (Sum.inr fs), h => by
    have h1 : 1 + maxOf (fs.map fun f => depth n f.2) ≤ 0 := h
    omega
  | n + 1, m + 1, Sum.inr (Sum.inl xs), h => by
    have ih : ∀ x ∈ xs, tell m (lift n m x) = tell n x ∧ nodes m (lift n m x) = nodes n x ∧ depth m (lift n m x) = depth n x ∧ kindJ m (lift n m x) = kindJ n x := fun x hx => lift_said n m x (deep_item h x hx)
    have e1 : (xs.map (lift n m)).map (tell m) = xs.map (tell n) := by
      rw [List.map_map]
      exact List.map_congr_left fun x hx => (ih x hx).1
    have e2 : (xs.map (lift n m)).map (nodes m) = xs.map (nodes n) := by
      rw [List.map_map]
      exact List.map_congr_left fun x hx => (ih x hx).2.1
    have e3 : (xs.map (lift n m)).map (depth m) = xs.map (depth n) := by
      rw [List.map_map]
      exact List.map_congr_left fun x hx => (ih x hx).2.2.1
    refine ⟨?_, ?_, ?_, rfl⟩
    · show 91 :: (commas ((xs.map (lift n m)).map (tell m)) ++ [93]) = 91 :: (commas (xs.map (tell n)) ++ [93])
      rw [e1]
    · show 1 + ((xs.map (lift n m)).map (nodes m)).sum = 1 + (xs.map (nodes n)).sum
      rw [e2]
    · show 1 + maxOf ((xs.map (lift n m)).map (depth m)) = 1 + maxOf (xs.map (depth n))
      rw [e3]
  | n + 1, m + 1, Sum.inr (Sum.inr fs), h => by
    have ih : ∀ f ∈ fs, tell m (lift n m f.2) = tell n f.2 ∧ nodes m (lift n m f.2) = nodes n f.2 ∧ depth m (lift n m f.2) = depth n f.2 ∧ kindJ m (lift n m f.2) = kindJ n f.2 := fun f hf => lift_said n m f.2 (deep_field h f hf)
    have e1 : (fs.map fun f => (f.1, lift n m f.2)).map (fun f => quote f.1 ++ 58 :: tell m f.2) = fs.map (fun f => quote f.1 ++ 58 :: tell n f.2) := by
      rw [List.map_map]
      refine List.map_congr_left fun f hf => ?_
      show quote f.1 ++ 58 :: tell m (lift n m f.2) = _
      rw [(ih f hf).1]
    have e2 : (fs.map fun f => (f.1, lift n m f.2)).map (fun f => nodes m f.2) = fs.map (fun f => nodes n f.2) := by
      rw [List.map_map]
      exact List.map_congr_left fun f hf => (ih f hf).2.1
    have e3 : (fs.map fun f => (f.1, lift n m f.2)).map (fun f => depth m f.2) = fs.map (fun f => depth n f.2) := by
      rw [List.map_map]
      exact List.map_congr_left fun f hf => (ih f hf).2.2.1
    refine ⟨?_, ?_, ?_, rfl⟩
    · show 123 :: (commas ((fs.map fun f => (f.1, lift n m f.2)).map (fun f => quote f.1 ++ 58 :: tell m f.2)) ++ [125]) = 123 :: (commas (fs.map (fun f => quote f.1 ++ 58 :: tell n f.2)) ++ [125])
      rw [e1]
    · show 1 + ((fs.map fun f => (f.1, lift n m f.2)).map (fun f => nodes m f.2)).sum = 1 + (fs.map (fun f => nodes n f.2)).sum
      rw [e2]
    · show 1 + maxOf ((fs.map fun f => (f.1, lift n m f.2)).map (fun f => depth m f.2)) = 1 + maxOf (fs.map (fun f => depth n f.2))
      rw [e3]
theorem depth_bound : ∀ (n : Nat) (j : J n), depth n j ≤ n
  | 0, _ => Nat.le_refl _
  | _ + 1, Sum.inl _ => Nat.zero_le _
  | n + 1, Sum.inr (Sum.inl xs) => by
    have h : ∀ l : List Nat, (∀ y ∈ l, y ≤ n) → maxOf l ≤ n := by
      intro l
      induction l with
      | nil => intro _; exact Nat.zero_le _
      | cons x l ih =>
        intro hl
        exact Nat.max_le.2 ⟨hl x (by simp), ih (fun y hy => hl y (by simp [hy]))⟩
    have h1 := h (xs.map (depth n)) (fun y hy => by
      obtain ⟨x, _, rfl⟩ := List.mem_map.1 hy
      exact depth_bound n x)
    show 1 + maxOf (xs.map (depth n)) ≤ n + 1
    omega
  | n + 1, Sum.inr (Sum.inr fs) => by
    have h : ∀ l : List Nat, (∀ y ∈ l, y ≤ n) → maxOf l ≤ n := by
      intro l
      induction l with
      | nil => intro _; exact Nat.zero_le _
      | cons x l ih =>
        intro hl
        exact Nat.max_le.2 ⟨hl x (by simp), ih (fun y hy => hl y (by simp [hy]))⟩
    have h1 := h (fs.map fun f => depth n f.2) (fun y hy => by
      obtain ⟨x, _, rfl⟩ := List.mem_map.1 hy
      exact depth_bound n x.2)
    show 1 + maxOf (fs.map fun f => depth n f.2) ≤ n + 1
    omega
theorem lift_self : ∀ (n : Nat) (j : J n), lift n n j = j
  | 0, _ => rfl
  | _ + 1, Sum.inl _ => rfl
  | n + 1, Sum.inr (Sum.inl xs) => by
    show Sum.inr (Sum.inl (xs.map (lift n n))) = (Sum.inr (Sum.inl xs) : J (n + 1))
    rw [show xs.map (lift n n) = xs from by
      rw [List.map_congr_left (g := id) (fun x _ => lift_self n x)]
      exact List.map_id _]
  | n + 1, Sum.inr (Sum.inr fs) => by
    show Sum.inr (Sum.inr (fs.map fun f => (f.1, lift n n f.2))) = (Sum.inr (Sum.inr fs) : J (n + 1))
    rw [show (fs.map fun f => (f.1, lift n n f.2)) = fs from by
      rw [List.map_congr_left (g := id) (fun f _ => by show (f.1, lift n n f.2) = f; rw [lift_self n f.2])]
      exact List.map_id _]
/-- two steps of room are one, if nothing is lost on the way -/
theorem lift_lift : ∀ (n m k : Nat) (j : J n), depth n j ≤ m → lift m k (lift n m j) = lift n k j
  | 0, m, k, l, _ => lift_leaf m k l
  | _ + 1, m, k, Sum.inl l, _ => lift_leaf m k l
  | n + 1, 0, k, Sum.inr (Sum.inl xs), h => by
    have h1 : 1 + maxOf (xs.map (depth n)) ≤ 0 := h
    omega
  | n + 1, 0, k, Sum.inr (Sum.inr fs), h => by
    have h1 : 1 + maxOf (fs.map fun f => depth n f.2) ≤ 0 := h
    omega
  | n + 1, m + 1, 0, Sum.inr (Sum.inl xs), h => rfl
  | n + 1, m + 1, 0, Sum.inr (Sum.inr fs), h => rfl
  | n + 1, m + 1, k + 1, Sum.inr (Sum.inl xs), h => by
    show (Sum.inr (Sum.inl ((xs.map (lift n m)).map (lift m k))) : J (k + 1)) = Sum.inr (Sum.inl (xs.map (lift n k)))
    rw [List.map_map]
    exact congrArg (fun l => (Sum.inr (Sum.inl l) : J (k + 1))) (List.map_congr_left fun x hx => lift_lift n m k x (deep_item h x hx))
  | n + 1, m + 1, k + 1, Sum.inr (Sum.inr fs), h => by
    show (Sum.inr (Sum.inr ((fs.map fun f => (f.1, lift n m f.2)).map fun f => (f.1, lift m k f.2))) : J (k + 1)) = Sum.inr (Sum.inr (fs.map fun f => (f.1, lift n k f.2)))
    rw [List.map_map]
    refine congrArg (fun l => (Sum.inr (Sum.inr l) : J (k + 1))) (List.map_congr_left fun f hf => ?_)
    show (f.1, lift m k (lift n m f.2)) = _
    rw [lift_lift n m k f.2 (deep_field h f hf)]
theorem rising_map {α β : Type} {fs : List (Bs × α)} (g : α → β) (h : Rising fs) : Rising (fs.map fun f => (f.1, g f.2)) := by
  unfold Rising at h ⊢
  rw [List.pairwise_map]
  exact h
theorem good_lift : ∀ (n m : Nat) (j : J n), Good n j → Good m (lift n m j)
  | 0, m, l, h => good_leaf h
  | _ + 1, m, Sum.inl l, h => good_leaf h
  | n + 1, 0, Sum.inr (Sum.inl xs), h => trivial
  | n + 1, 0, Sum.inr (Sum.inr fs), h => trivial
  | n + 1, m + 1, Sum.inr (Sum.inl xs), h => by
    intro y hy
    obtain ⟨x, hx, rfl⟩ := List.mem_map.1 hy
    exact good_lift n m x (h x hx)
  | n + 1, m + 1, Sum.inr (Sum.inr fs), h => by
    refine ⟨rising_map _ h.1, fun g hg => ?_⟩
    obtain ⟨f, hf, rfl⟩ := List.mem_map.1 hg
    exact ⟨(h.2 f hf).1, good_lift n m f.2 (h.2 f hf).2⟩
end Go.Proofs.YtaogilpkeeigoaaGreatDoor
/- Plain facts: how many values are read and how deep they lie; what is told, alone and within a list, is read so. -/
namespace Go.Proofs.YtaogilpkeeigoaaGreatDoor
set_option linter.unusedVariables false
set_option linter.unusedSimpArgs false
theorem maxOf_bound {b : Nat} : ∀ (l : List Nat), (∀ y ∈ l, y ≤ b) → maxOf l ≤ b
  | [], _ => Nat.zero_le _
  | x :: l, h => by
    have h1 := maxOf_bound l (fun z hz => h z (by simp [hz]))
    have h2 := h x (by simp)
    simp only [maxOf]
    omega
theorem depth_le : ∀ (n : Nat) (j : J n), depth n j ≤ n
  | 0, _ => Nat.le_refl _
  | _ + 1, Sum.inl _ => Nat.zero_le _
  | n + 1, Sum.inr (Sum.inl xs) => by
    have := maxOf_bound (b := n) (xs.map (depth n)) (fun y hy => by
      obtain ⟨z, _, rfl⟩ := List.mem_map.1 hy
      exact depth_le n z)
    show 1 + maxOf (xs.map (depth n)) ≤ n + 1
    omega
  | n + 1, Sum.inr (Sum.inr fs) => by
    have := maxOf_bound (b := n) (fs.map (fun f => depth n f.2)) (fun y hy => by
      obtain ⟨z, _, rfl⟩ := List.mem_map.1 hy
      exact depth_le n z.2)
    show 1 + maxOf (fs.map (fun f => depth n f.2)) ≤ n + 1
    omega
theorem rowGo_inv {σ : Type} {z : UInt8} {one : σ → Nat → Bs → Except Nat (σ × Nat × Bs)} {P : σ → Nat → Prop} (h : ∀ s k r s' k' r', P s k → one s k r = .ok (s', k', r') → P s' k') : ∀ (f : Nat) (s : σ) (k : Nat) (r : Bs) (s' : σ) (k' : Nat) (r' : Bs), P s k → rowGo z one f s k r = .ok (s', k', r') → P s' k'
  | 0, s, k, r, s', k', r', hs, e => by simp [rowGo] at e
  | f + 1, s, k, r, s', k', r', hs, e => by
    rw [rowGo] at e
    cases ho : one s k r with
    | error er => rw [ho] at e; cases e
    | ok p =>
      obtain ⟨s1, k1, r1⟩ := p
      have h1 := h s k r s1 k1 r1 hs ho
      rw [ho] at e
      simp only [] at e
      split at e
      · cases e; exact h1
      · split at e
        · exact rowGo_inv h f s1 k1 _ s' k' r' h1 e
        · cases e
theorem row_inv {σ : Type} {z : UInt8} {one : σ → Nat → Bs → Except Nat (σ × Nat × Bs)} {P : σ → Nat → Prop} (h : ∀ s k r s' k' r', P s k → one s k r = .ok (s', k', r') → P s' k') (s : σ) (k : Nat) (r : Bs) (s' : σ) (k' : Nat) (r' : Bs) (hs : P s k) (e : row z one s k r = .ok (s', k', r')) : P s' k' := by
  unfold row at e
  split at e
  · cases e; exact hs
  · exact rowGo_inv h _ _ _ _ _ _ _ hs e
theorem begin_room {n k : Nat} {r : Bs} (h : beginE n k r = 0) : k < 200 := by
  unfold beginE at h
  split at h
  · simp at h
  · split at h
    · simp at h
    · omega
theorem value_size : ∀ (n : Nat) (k : Nat) (r : Bs) (j : J n) (k' : Nat) (r' : Bs), value n k r = .ok (j, k', r') → k' = k + nodes n j ∧ k' ≤ 200
  | 0, k, r, j, k', r', e => by
    have hb := begin_room (value_cases e).1
    rcases (value_cases e).2 with ⟨l, _, _, hl, rfl, rfl⟩ | ⟨m, hm, _⟩ | ⟨m, hm, _⟩
    · exact ⟨rfl, by omega⟩
    · cases hm
    · cases hm
  | n + 1, k, r, j, k', r', e => by
    have hb := begin_room (value_cases e).1
    rcases (value_cases e).2 with ⟨l, _, _, hl, rfl, rfl⟩ | ⟨m, hm, xs, _, hr, hj⟩ | ⟨m, hm, fs, _, hr, hj⟩
    · exact ⟨rfl, by omega⟩
    · cases hm
      subst hj
      have h := row_inv (one := oneItem (value n)) (P := fun s q => q = k + 1 + (s.map (nodes n)).sum ∧ q ≤ 200) (fun s q r s' q' r' hs ho => by
        obtain ⟨v, hv, rfl⟩ := oneItem_ok ho
        obtain ⟨h1, h2⟩ := value_size n q r v q' r' hv
        refine ⟨?_, h2⟩
        simp only [List.map_append, List.sum_append, List.map_cons, List.map_nil, List.sum_cons, List.sum_nil]
        omega) _ _ _ _ _ _ ⟨by simp, by omega⟩ hr
      refine ⟨?_, h.2⟩
      show k' = k + (1 + (xs.map (nodes n)).sum)
      omega
    · cases hm
      subst hj
      have h := row_inv (one := oneField (value n)) (P := fun s q => q = k + 1 + (s.map (fun f => nodes n f.2)).sum ∧ q ≤ 200) (fun s q r s' q' r' hs ho => by
        obtain ⟨nm, v, r1, hn, hv, rfl⟩ := oneField_ok ho
        obtain ⟨h1, h2⟩ := value_size n q r1 v q' r' hv
        refine ⟨?_, h2⟩
        rw [sum_insert (fun f => nodes n f.2)]
        show q' = k + 1 + ((s.map (fun f => nodes n f.2)).sum + nodes n v)
        omega) _ _ _ _ _ _ ⟨by simp, by omega⟩ hr
      refine ⟨?_, h.2⟩
      show k' = k + (1 + (fs.map (fun f => nodes n f.2)).sum)
      omega
theorem read_val {s : Bs} {j : J 10} (h : read s = .ok j) : ∃ k r, value 10 0 s = .ok (j, k, r) ∧ skip r = [] ∧ s.length ≤ 2000 := by
  unfold read at h
  split at h
  · cases h
  · cases hv : value 10 0 s with
    | error er => rw [hv] at h; cases h
    | ok p =>
      obtain ⟨j1, k1, r1⟩ := p
      rw [hv] at h
      simp only [] at h
      split at h
      · rename_i hl hs
        cases h
        exact ⟨k1, r1, rfl, hs, by omega⟩
      · cases h
theorem nodes_one : ∀ (n : Nat) (j : J n), 1 ≤ nodes n j
  | 0, _ => Nat.le_refl _
  | _ + 1, Sum.inl _ => Nat.le_refl _
  | _ + 1, Sum.inr (Sum.inl _) => Nat.le_add_right _ _
  | _ + 1, Sum.inr (Sum.inr _) => Nat.le_add_right _ _
theorem read_size {s : Bs} {j : J 10} (h : read s = .ok j) : 1 ≤ nodes 10 j ∧ nodes 10 j ≤ 200 ∧ depth 10 j ≤ 10 := by
  obtain ⟨k, r, hv, _, _⟩ := read_val h
  obtain ⟨h1, h2⟩ := value_size _ _ _ _ _ _ hv
  exact ⟨nodes_one _ _, by omega, depth_le _ _⟩
/-- what is told of a value, read -/
theorem read_of_told {t : Bs} {many deep : Nat} (h : Told 10 0 t many deep []) (hl : t.length ≤ 2000) :
    (∃ j', read t = .ok j' ∧ tell 10 j' = t ∧ nodes 10 j' = many ∧ depth 10 j' = deep ∧ many ≤ 200 ∧ deep ≤ 10) ∨ (read t = .error 2 ∧ 200 < many) ∨ (read t = .error 4 ∧ 10 < deep) := by
  unfold Told at h
  rw [List.append_nil] at h
  unfold read
  rw [if_neg (by omega)]
  rcases h with ⟨j', hv, h1, h2, h3, h4, h5⟩ | ⟨hv, h1⟩ | ⟨hv, h1⟩
  · refine Or.inl ⟨j', ?_, h1, h2, h3, by omega, h5⟩
    rw [hv]
    rfl
  · exact Or.inr (Or.inl ⟨by rw [hv], by omega⟩)
  · exact Or.inr (Or.inr ⟨by rw [hv], h1⟩)
theorem noDigit_nil : noDigit [] := by
  show isDigit 0 = false
  decide
theorem read_again {s : Bs} {j : J 10} (h : read s = .ok j) : ∃ j', read (tell 10 j) = .ok j' ∧ tell 10 j' = tell 10 j ∧ nodes 10 j' = nodes 10 j ∧ depth 10 j' = depth 10 j := by
  obtain ⟨h1, h2, h3⟩ := read_size h
  have hs := read_short h
  rcases read_of_told (told_any 10 j (read_good h) 10 0 [] noDigit_nil (by omega)) (by omega) with ⟨j', a, b, c, d, _⟩ | ⟨_, h4⟩ | ⟨_, h4⟩
  · exact ⟨j', a, b, c, d⟩
  · omega
  · omega
theorem read_long {s : Bs} (h : 2000 < s.length) : read s = .error 2 := by
  unfold read
  rw [if_pos h]
/-- within a list -/
def wrapB (t : Bs) : Bs := 91 :: (t ++ [93])
theorem wrap_len (t : Bs) : (wrapB t).length = t.length + 2 := by simp [wrapB]
theorem read_wrap {s : Bs} {j : J 10} (h : read s = .ok j) :
    (1998 < (tell 10 j).length ∧ read (wrapB (tell 10 j)) = .error 2) ∨
    ((tell 10 j).length ≤ 1998 ∧ ((∃ j', read (wrapB (tell 10 j)) = .ok j' ∧ tell 10 j' = wrapB (tell 10 j) ∧ nodes 10 j' = nodes 10 j + 1 ∧ depth 10 j' = depth 10 j + 1 ∧ nodes 10 j < 200 ∧ depth 10 j < 10) ∨ (read (wrapB (tell 10 j)) = .error 2 ∧ nodes 10 j = 200) ∨ (read (wrapB (tell 10 j)) = .error 4 ∧ depth 10 j = 10))) := by
  obtain ⟨h1, h2, h3⟩ := read_size h
  have hw := wrap_len (tell 10 j)
  by_cases hl : 1998 < (tell 10 j).length
  · exact Or.inl ⟨hl, read_long (by omega)⟩
  · refine Or.inr ⟨by omega, ?_⟩
    have ht := told_any 11 (Sum.inr (Sum.inl [j])) (fun x hx => by
      simp only [List.mem_singleton] at hx
      rw [hx]
      exact read_good h) 10 0 [] noDigit_nil (by omega)
    have e1 : tell 11 (Sum.inr (Sum.inl [j])) = wrapB (tell 10 j) := rfl
    have e2 : nodes 11 (Sum.inr (Sum.inl [j])) = nodes 10 j + 1 := by
      show 1 + (nodes 10 j + 0) = _
      omega
    have e3 : depth 11 (Sum.inr (Sum.inl [j])) = depth 10 j + 1 := by
      show 1 + max (depth 10 j) 0 = _
      omega
    rw [e1, e2, e3] at ht
    rcases read_of_told ht (by omega) with ⟨j', a, b, c, d, e, f⟩ | ⟨a, h4⟩ | ⟨a, h4⟩
    · exact Or.inl ⟨j', a, b, c, d, by omega, by omega⟩
    · exact Or.inr (Or.inl ⟨a, by omega⟩)
    · exact Or.inr (Or.inr ⟨a, by omega⟩)
end Go.Proofs.YtaogilpkeeigoaaGreatDoor
/- Plain facts: what is told of a value is read as just that value, wherever there is room. -/
namespace Go.Proofs.YtaogilpkeeigoaaGreatDoor
set_option linter.unusedVariables false
set_option linter.unusedSimpArgs false
/-- what comes of reading what is told, at whatever depth and count -/
def ToldL (n : Nat) (j : J n) (m k : Nat) (r : Bs) : Prop :=
  (value m k (tell n j ++ r) = .ok (lift n m j, k + nodes n j, r) ∧ k + nodes n j ≤ 200 ∧ depth n j ≤ m) ∨
    (value m k (tell n j ++ r) = .error 2 ∧ 200 < k + nodes n j) ∨ (value m k (tell n j ++ r) = .error 4 ∧ m < depth n j)
def ToldLAt (n : Nat) : Prop := ∀ (j : J n), Good n j → ∀ (m k : Nat) (r : Bs), noDigit r → k ≤ 200 → ToldL n j m k r
theorem leaf_value (m k : Nat) (l : Leaf) (h : GoodLeaf l) (r : Bs) (hr : noDigit r) (hk : k ≤ 200) : (value m k (tellLeaf l ++ r) = .ok (leaf m l, k + 1, r) ∧ k + 1 ≤ 200 ∧ 0 ≤ m) ∨ (value m k (tellLeaf l ++ r) = .error 2 ∧ 200 < k + 1) ∨ (value m k (tellLeaf l ++ r) = .error 4 ∧ m < 0) := by
  obtain ⟨hl, ho, hb, h91, h123⟩ := leafE_tell l h r hr
  have hv := value_first (m := m) (k := k) hb ho
  have hsk := skip_not hb
  by_cases h200 : 200 ≤ k
  · exact Or.inr (Or.inl ⟨hv.1 h200, by omega⟩)
  · have e : beginE m k (skip (tellLeaf l ++ r)) = 0 := by
      rw [hsk]
      unfold beginE
      rw [if_neg (by simpa using ho), if_neg h200, if_neg]
      rintro ⟨_, h1 | h1⟩
      · exact h91 h1
      · exact h123 h1
    have hval : value m k (tellLeaf l ++ r) = .ok (leaf m l, k + 1, r) := by
      cases m with
      | zero => rw [value, if_neg (by simp [e]), leafAt, hsk, hl]
      | succ m => rw [value, if_neg (by simp [e]), hsk, if_neg h91, if_neg h123, leafAt, hl]
    exact Or.inl ⟨hval, by omega, Nat.zero_le _⟩
theorem items_toldL {n : Nat} (ih : ToldLAt n) (m : Nat) (r : Bs) : ∀ (rest : List (J n)) (x : J n) (f : Nat) (s : List (J m)) (k : Nat), (∀ y ∈ x :: rest, Good n y) → rest.length < f → k ≤ 200 →
    RowTold m (rowGo 93 (oneItem (value m)) f s k (commas ((x :: rest).map (tell n)) ++ 93 :: r)) (fun s' => s' = s ++ (x :: rest).map (lift n m)) k ((x :: rest).map (nodes n)).sum (maxOf ((x :: rest).map (depth n))) r
  | [], x, 0, s, k, hG, hf, hk => by omega
  | [], x, f + 1, s, k, hG, hf, hk => by
    have h1 := ih x (hG x (by simp)) m k (93 :: r) (by show isDigit 93 = false; decide) hk
    have e : commas (([x] : List (J n)).map (tell n)) ++ 93 :: r = tell n x ++ 93 :: r := rfl
    rw [e]
    have em : (([x] : List (J n)).map (nodes n)).sum = nodes n x := by simp
    have ed : maxOf (([x] : List (J n)).map (depth n)) = depth n x := by simp [maxOf]
    rw [em, ed]
    rcases h1 with ⟨hv, h200, hm⟩ | ⟨hv, h200⟩ | ⟨hv, hm⟩
    · refine Or.inl ⟨s ++ [lift n m x], ?_, rfl, h200, hm⟩
      rw [rowGo, oneItem, hv]
      rfl
    · refine Or.inr (Or.inl ⟨?_, h200⟩)
      rw [rowGo, oneItem, hv]
    · refine Or.inr (Or.inr ⟨?_, hm⟩)
      rw [rowGo, oneItem, hv]
  | y :: rest, x, 0, s, k, hG, hf, hk => by omega
  | y :: rest, x, f + 1, s, k, hG, hf, hk => by
    have h1 := ih x (hG x (by simp)) m k (44 :: (commas ((y :: rest).map (tell n)) ++ 93 :: r)) (by show isDigit 44 = false; decide) hk
    have e : commas ((x :: y :: rest).map (tell n)) ++ 93 :: r = tell n x ++ 44 :: (commas ((y :: rest).map (tell n)) ++ 93 :: r) := by
      simp [commas]
    rw [e]
    have em : ((x :: y :: rest).map (nodes n)).sum = nodes n x + ((y :: rest).map (nodes n)).sum := by simp
    have ed : maxOf ((x :: y :: rest).map (depth n)) = max (depth n x) (maxOf ((y :: rest).map (depth n))) := rfl
    rw [em, ed]
    rcases h1 with ⟨hv, h200, hm⟩ | ⟨hv, h200⟩ | ⟨hv, hm⟩
    · have ih2 := items_toldL ih m r rest y f (s ++ [lift n m x]) (k + nodes n x) (fun z hz => hG z (by simp at hz ⊢; exact Or.inr hz)) (by simp at hf; omega) h200
      have hgo : rowGo 93 (oneItem (value m)) (f + 1) s k (tell n x ++ 44 :: (commas ((y :: rest).map (tell n)) ++ 93 :: r)) = rowGo 93 (oneItem (value m)) f (s ++ [lift n m x]) (k + nodes n x) (commas ((y :: rest).map (tell n)) ++ 93 :: r) := by
        rw [rowGo, oneItem, hv]
        rfl
      rw [hgo]
      rcases ih2 with ⟨s', hr, rfl, h4, h5⟩ | ⟨hr, h4⟩ | ⟨hr, h4⟩
      · refine Or.inl ⟨_, ?_, rfl, by omega, by omega⟩
        rw [hr]
        simp [Nat.add_assoc]
      · exact Or.inr (Or.inl ⟨hr, by omega⟩)
      · exact Or.inr (Or.inr ⟨hr, by omega⟩)
    · refine Or.inr (Or.inl ⟨?_, by omega⟩)
      rw [rowGo, oneItem, hv]
    · refine Or.inr (Or.inr ⟨?_, by omega⟩)
      rw [rowGo, oneItem, hv]
theorem told_listL {n : Nat} (ih : ToldLAt n) (xs : List (J n)) (hG : ∀ x ∈ xs, Good n x) (m k : Nat) (r : Bs) (hr : noDigit r) (hk : k ≤ 200) :
    ToldL (n + 1) (Sum.inr (Sum.inl xs)) m k r := by
  have et : tell (n + 1) (Sum.inr (Sum.inl xs)) = 91 :: (commas (xs.map (tell n)) ++ [93]) := rfl
  have en : nodes (n + 1) (Sum.inr (Sum.inl xs)) = 1 + (xs.map (nodes n)).sum := rfl
  have ed : depth (n + 1) (Sum.inr (Sum.inl xs)) = 1 + maxOf (xs.map (depth n)) := rfl
  have eX : tell (n + 1) (Sum.inr (Sum.inl xs)) ++ r = 91 :: (commas (xs.map (tell n)) ++ 93 :: r) := by rw [et]; simp
  unfold ToldL
  rw [eX, en, ed]
  have hv := value_first (m := m) (k := k) (r := 91 :: (commas (xs.map (tell n)) ++ 93 :: r)) rfl (by show (91 : UInt8) ∈ opens; decide)
  by_cases h200 : 200 ≤ k
  · exact Or.inr (Or.inl ⟨hv.1 h200, by omega⟩)
  cases m with
  | zero => exact Or.inr (Or.inr ⟨hv.2 (by omega) rfl (Or.inl rfl), by omega⟩)
  | succ m =>
    obtain ⟨hb, hsk⟩ := value_row (m := m) (k := k) (c := 91) (X := commas (xs.map (tell n)) ++ 93 :: r) (by omega) (Or.inl rfl)
    have hval : value (m + 1) k (91 :: (commas (xs.map (tell n)) ++ 93 :: r)) = match row 93 (oneItem (value m)) [] (k + 1) (91 :: (commas (xs.map (tell n)) ++ 93 :: r)) with
      | .error e => .error e
      | .ok (s, k', r') => .ok (Sum.inr (Sum.inl s), k', r') := by
      rw [value, if_neg (by simp [hb]), hsk, if_pos (show hd (91 :: (commas (xs.map (tell n)) ++ 93 :: r)) = 91 from rfl)]
      cases row 93 (oneItem (value m)) [] (k + 1) (91 :: (commas (xs.map (tell n)) ++ 93 :: r)) <;> rfl
    have hrow : RowTold m (row 93 (oneItem (value m)) [] (k + 1) (91 :: (commas (xs.map (tell n)) ++ 93 :: r))) (fun s' => s' = xs.map (lift n m)) (k + 1) (xs.map (nodes n)).sum (maxOf (xs.map (depth n))) r := by
      cases xs with
      | nil =>
        refine Or.inl ⟨[], ?_, rfl, by simp; omega, by simp [maxOf]⟩
        rfl
      | cons x rest =>
        have hh := tell_hd n x (hG x (by simp)) (match rest.map (tell n) with | [] => 93 :: r | _ :: _ => 44 :: (commas (rest.map (tell n)) ++ 93 :: r)) (by cases rest.map (tell n) <;> rfl)
        have eC : commas ((x :: rest).map (tell n)) ++ 93 :: r = tell n x ++ (match rest.map (tell n) with | [] => 93 :: r | _ :: _ => 44 :: (commas (rest.map (tell n)) ++ 93 :: r)) := commas_cons (tell n x) (rest.map (tell n)) (93 :: r)
        rw [← eC] at hh
        have hi := items_toldL ih m r rest x ((91 :: (commas ((x :: rest).map (tell n)) ++ 93 :: r)).length + 1) [] (k + 1) hG (by
          have := commas_ge ((x :: rest).map (tell n))
          simp only [List.length_map, List.length_cons, List.length_append] at this ⊢
          omega) (by omega)
        have hne : hd (commas ((x :: rest).map (tell n)) ++ 93 :: r) ≠ 93 := by
          intro e
          rw [e] at hh
          exact absurd hh.1 (by decide)
        have hgo : row 93 (oneItem (value m)) [] (k + 1) (91 :: (commas ((x :: rest).map (tell n)) ++ 93 :: r)) = rowGo 93 (oneItem (value m)) ((91 :: (commas ((x :: rest).map (tell n)) ++ 93 :: r)).length + 1) [] (k + 1) (commas ((x :: rest).map (tell n)) ++ 93 :: r) := by
          rw [row, List.tail_cons, skip_not hh.2, if_neg hne]
        rw [hgo]
        rcases hi with ⟨s', h1, rfl, h5, h6⟩ | h | h
        · exact Or.inl ⟨_, h1, by simp, h5, h6⟩
        · exact Or.inr (Or.inl h)
        · exact Or.inr (Or.inr h)
    rw [hval]
    rcases hrow with ⟨s', h1, rfl, h5, h6⟩ | ⟨h1, h5⟩ | ⟨h1, h5⟩
    · refine Or.inl ⟨?_, by omega, by omega⟩
      rw [h1]
      simp only [Nat.add_assoc]
      rfl
    · exact Or.inr (Or.inl ⟨by rw [h1], by omega⟩)
    · exact Or.inr (Or.inr ⟨by rw [h1], by omega⟩)
theorem fields_toldL {n : Nat} (ih : ToldLAt n) (m : Nat) (r : Bs) : ∀ (rest : List (Bs × J n)) (x : Bs × J n) (f : Nat) (s : List (Bs × J m)) (k : Nat), (∀ y ∈ x :: rest, (∀ c ∈ y.1, meant c = true) ∧ Good n y.2) → Rising (x :: rest) → (∀ g ∈ s, ∀ y ∈ x :: rest, less g.1 y.1 = true) → rest.length < f → k ≤ 200 →
    RowTold m (rowGo 125 (oneField (value m)) f s k (commas ((x :: rest).map (fieldT n)) ++ 125 :: r)) (fun s' => s' = s ++ (x :: rest).map (fun f => (f.1, lift n m f.2))) k ((x :: rest).map (fun f => nodes n f.2)).sum (maxOf ((x :: rest).map (fun f => depth n f.2))) r
  | [], x, 0, s, k, hG, hR, hs, hf, hk => by omega
  | [], x, f + 1, s, k, hG, hR, hs, hf, hk => by
    have hx := hG x (by simp)
    have h1 := ih x.2 hx.2 m k (125 :: r) (by show isDigit 125 = false; decide) hk
    have e : commas (([x] : List (Bs × J n)).map (fieldT n)) ++ 125 :: r = quote x.1 ++ 58 :: (tell n x.2 ++ 125 :: r) := by simp [commas, fieldT]
    have hn := nameE_told (X := tell n x.2 ++ 125 :: r) hx.1 (fun g hg => hs g hg x (by simp))
    rw [e]
    have em : (([x] : List (Bs × J n)).map (fun f => nodes n f.2)).sum = nodes n x.2 := by simp
    have ed : maxOf (([x] : List (Bs × J n)).map (fun f => depth n f.2)) = depth n x.2 := by simp [maxOf]
    rw [em, ed]
    rcases h1 with ⟨hv, h200, hm⟩ | ⟨hv, h200⟩ | ⟨hv, hm⟩
    · refine Or.inl ⟨s ++ [(x.1, lift n m x.2)], ?_, rfl, h200, hm⟩
      rw [rowGo, oneField, hn]
      simp only [hv]
      rw [insert_end_of (lift n m x.2) (fun g hg => hs g hg x (by simp))]
      rfl
    · refine Or.inr (Or.inl ⟨?_, h200⟩)
      rw [rowGo, oneField, hn]
      simp only [hv]
    · refine Or.inr (Or.inr ⟨?_, hm⟩)
      rw [rowGo, oneField, hn]
      simp only [hv]
  | y :: rest, x, 0, s, k, hG, hR, hs, hf, hk => by omega
  | y :: rest, x, f + 1, s, k, hG, hR, hs, hf, hk => by
    have hx := hG x (by simp)
    have h1 := ih x.2 hx.2 m k (44 :: (commas ((y :: rest).map (fieldT n)) ++ 125 :: r)) (by show isDigit 44 = false; decide) hk
    have e : commas ((x :: y :: rest).map (fieldT n)) ++ 125 :: r = quote x.1 ++ 58 :: (tell n x.2 ++ 44 :: (commas ((y :: rest).map (fieldT n)) ++ 125 :: r)) := by simp [commas, fieldT]
    have hn := nameE_told (X := tell n x.2 ++ 44 :: (commas ((y :: rest).map (fieldT n)) ++ 125 :: r)) hx.1 (fun g hg => hs g hg x (by simp))
    rw [e]
    have em : ((x :: y :: rest).map (fun f => nodes n f.2)).sum = nodes n x.2 + ((y :: rest).map (fun f => nodes n f.2)).sum := by simp
    have ed : maxOf ((x :: y :: rest).map (fun f => depth n f.2)) = max (depth n x.2) (maxOf ((y :: rest).map (fun f => depth n f.2))) := rfl
    rw [em, ed]
    have hR' := List.pairwise_cons.1 hR
    rcases h1 with ⟨hv, h200, hm⟩ | ⟨hv, h200⟩ | ⟨hv, hm⟩
    · have ih2 := fields_toldL ih m r rest y f (s ++ [(x.1, lift n m x.2)]) (k + nodes n x.2) (fun z hz => hG z (by simp at hz ⊢; exact Or.inr hz)) hR'.2 (fun g hg z hz => by
          rcases List.mem_append.1 hg with hg | hg
          · exact hs g hg z (by simp at hz ⊢; exact Or.inr hz)
          · have hg := List.mem_singleton.1 hg
            subst hg
            exact hR'.1 z hz) (by simp at hf; omega) h200
      have hgo : rowGo 125 (oneField (value m)) (f + 1) s k (quote x.1 ++ 58 :: (tell n x.2 ++ 44 :: (commas ((y :: rest).map (fieldT n)) ++ 125 :: r))) = rowGo 125 (oneField (value m)) f (s ++ [(x.1, lift n m x.2)]) (k + nodes n x.2) (commas ((y :: rest).map (fieldT n)) ++ 125 :: r) := by
        rw [rowGo, oneField, hn]
        simp only [hv]
        rw [insert_end_of (lift n m x.2) (fun g hg => hs g hg x (by simp))]
        rfl
      rw [hgo]
      rcases ih2 with ⟨s', hr, rfl, h4, h5⟩ | ⟨hr, h4⟩ | ⟨hr, h4⟩
      · refine Or.inl ⟨_, ?_, rfl, by omega, by omega⟩
        rw [hr]
        simp [Nat.add_assoc]
      · exact Or.inr (Or.inl ⟨hr, by omega⟩)
      · exact Or.inr (Or.inr ⟨hr, by omega⟩)
    · refine Or.inr (Or.inl ⟨?_, by omega⟩)
      rw [rowGo, oneField, hn]
      simp only [hv]
    · refine Or.inr (Or.inr ⟨?_, by omega⟩)
      rw [rowGo, oneField, hn]
      simp only [hv]
theorem told_objectL {n : Nat} (ih : ToldLAt n) (fs : List (Bs × J n)) (hR : Rising fs) (hG : ∀ f ∈ fs, (∀ c ∈ f.1, meant c = true) ∧ Good n f.2) (m k : Nat) (r : Bs) (hr : noDigit r) (hk : k ≤ 200) :
    ToldL (n + 1) (Sum.inr (Sum.inr fs)) m k r := by
  have et : tell (n + 1) (Sum.inr (Sum.inr fs)) = 123 :: (commas (fs.map (fieldT n)) ++ [125]) := rfl
  have en : nodes (n + 1) (Sum.inr (Sum.inr fs)) = 1 + (fs.map (fun f => nodes n f.2)).sum := rfl
  have ed : depth (n + 1) (Sum.inr (Sum.inr fs)) = 1 + maxOf (fs.map (fun f => depth n f.2)) := rfl
  have eX : tell (n + 1) (Sum.inr (Sum.inr fs)) ++ r = 123 :: (commas (fs.map (fieldT n)) ++ 125 :: r) := by rw [et]; simp
  unfold ToldL
  rw [eX, en, ed]
  have hv := value_first (m := m) (k := k) (r := 123 :: (commas (fs.map (fieldT n)) ++ 125 :: r)) rfl (by show (123 : UInt8) ∈ opens; decide)
  by_cases h200 : 200 ≤ k
  · exact Or.inr (Or.inl ⟨hv.1 h200, by omega⟩)
  cases m with
  | zero => exact Or.inr (Or.inr ⟨hv.2 (by omega) rfl (Or.inr rfl), by omega⟩)
  | succ m =>
    obtain ⟨hb, hsk⟩ := value_row (m := m) (k := k) (c := 123) (X := commas (fs.map (fieldT n)) ++ 125 :: r) (by omega) (Or.inr rfl)
    have hval : value (m + 1) k (123 :: (commas (fs.map (fieldT n)) ++ 125 :: r)) = match row 125 (oneField (value m)) [] (k + 1) (123 :: (commas (fs.map (fieldT n)) ++ 125 :: r)) with
      | .error e => .error e
      | .ok (s, k', r') => .ok (Sum.inr (Sum.inr s), k', r') := by
      rw [value, if_neg (by simp [hb]), hsk, if_neg (show ¬ hd (123 :: (commas (fs.map (fieldT n)) ++ 125 :: r)) = 91 from by show ¬ (123 : UInt8) = 91; decide), if_pos (show hd (123 :: (commas (fs.map (fieldT n)) ++ 125 :: r)) = 123 from rfl)]
      cases row 125 (oneField (value m)) [] (k + 1) (123 :: (commas (fs.map (fieldT n)) ++ 125 :: r)) <;> rfl
    have hrow : RowTold m (row 125 (oneField (value m)) [] (k + 1) (123 :: (commas (fs.map (fieldT n)) ++ 125 :: r))) (fun s' => s' = fs.map (fun f => (f.1, lift n m f.2))) (k + 1) (fs.map (fun f => nodes n f.2)).sum (maxOf (fs.map (fun f => depth n f.2))) r := by
      cases fs with
      | nil =>
        refine Or.inl ⟨[], ?_, rfl, by simp; omega, by simp [maxOf]⟩
        rfl
      | cons x rest =>
        have hi := fields_toldL ih m r rest x ((123 :: (commas ((x :: rest).map (fieldT n)) ++ 125 :: r)).length + 1) [] (k + 1) hG hR (fun g hg => by simp at hg) (by
          have := commas_ge ((x :: rest).map (fieldT n))
          simp only [List.length_map, List.length_cons, List.length_append] at this ⊢
          omega) (by omega)
        have hh : hd (commas ((x :: rest).map (fieldT n)) ++ 125 :: r) = 34 := by
          cases rest <;> rfl
        have hgo : row 125 (oneField (value m)) [] (k + 1) (123 :: (commas ((x :: rest).map (fieldT n)) ++ 125 :: r)) = rowGo 125 (oneField (value m)) ((123 :: (commas ((x :: rest).map (fieldT n)) ++ 125 :: r)).length + 1) [] (k + 1) (commas ((x :: rest).map (fieldT n)) ++ 125 :: r) := by
          rw [row, List.tail_cons, skip_not (by rw [hh]; rfl), if_neg (by rw [hh]; decide)]
        rw [hgo]
        rcases hi with ⟨s', h1, rfl, h5, h6⟩ | h | h
        · exact Or.inl ⟨_, h1, by simp, h5, h6⟩
        · exact Or.inr (Or.inl h)
        · exact Or.inr (Or.inr h)
    rw [hval]
    rcases hrow with ⟨s', h1, rfl, h5, h6⟩ | ⟨h1, h5⟩ | ⟨h1, h5⟩
    · refine Or.inl ⟨?_, by omega, by omega⟩
      rw [h1]
      simp only [Nat.add_assoc]
      rfl
    · exact Or.inr (Or.inl ⟨by rw [h1], by omega⟩)
    · exact Or.inr (Or.inr ⟨by rw [h1], by omega⟩)
theorem told_anyL : ∀ n, ToldLAt n
  | 0 => fun j h m k r hr hk => leaf_value m k j h r hr hk
  | n + 1 => fun j h m k r hr hk => by
    have ih := told_anyL n
    match j, h with
    | Sum.inl l, h => exact leaf_value m k l h r hr hk
    | Sum.inr (Sum.inl xs), h => exact told_listL ih xs h m k r hr hk
    | Sum.inr (Sum.inr fs), h => exact told_objectL ih fs h.1 h.2 m k r hr hk
/-- what is told of a value within the limits is read as that value -/
theorem read_told {n : Nat} {j : J n} (hg : Good n j) (hn : nodes n j ≤ 200) (hd' : depth n j ≤ 10) (hl : (tell n j).length ≤ 2000) : read (tell n j) = .ok (lift n 10 j) := by
  have h := told_anyL n j hg 10 0 [] noDigit_nil (by omega)
  unfold ToldL at h
  rw [List.append_nil] at h
  unfold read
  rw [if_neg (by omega)]
  rcases h with ⟨hv, h1, h2⟩ | ⟨hv, h1⟩ | ⟨hv, h1⟩
  · rw [hv]
    rfl
  · omega
  · omega
end Go.Proofs.YtaogilpkeeigoaaGreatDoor
/- Plain: two values are the same, as the reference asks it, just if they are told alike. -/
namespace Go.Proofs.YtaogilpkeeigoaaGreatDoor
open Go.RowKit
set_option linter.unusedVariables false
set_option linter.unusedSimpArgs false
theorem hdEq_eq {h g : Hd} (e : hdEq h g = true) : h = g := by
  obtain ⟨k1, b1, i1, s1⟩ := h
  obtain ⟨k2, b2, i2, s2⟩ := g
  simp only [hdEq, Bool.and_eq_true, decide_eq_true_eq] at e
  obtain ⟨rfl, rfl, rfl, rfl⟩ := e
  rfl
theorem hdEq_self (h : Hd) : hdEq h h = true := by simp [hdEq]
theorem headL_inj {a b : Leaf} (e : headL a = headL b) : a = b := by
  rcases a with _ | a | a | a <;> rcases b with _ | b | b | b <;> simp [headL] at e ⊢ <;> exact e
theorem headL_k (a : Leaf) : (headL a).k ≤ 4 := by rcases a with _ | a | a | a <;> simp [headL]
theorem zip_all_eq {α : Type} {f : α → α → Bool} (hf : ∀ x y, f x y = true → x = y) : ∀ (xs ys : List α), xs.length = ys.length → ((xs.zip ys).all fun p => f p.1 p.2) = true → xs = ys
  | [], [], _, _ => rfl
  | [], _ :: _, h, _ => by simp at h
  | _ :: _, [], h, _ => by simp at h
  | x :: xs, y :: ys, h, e => by
    simp only [List.zip_cons_cons, List.all_cons, Bool.and_eq_true] at e
    rw [hf x y e.1, zip_all_eq hf xs ys (by simpa using h) e.2]
theorem zip_all_self {α : Type} {f : α → α → Bool} (hf : ∀ x, f x x = true) : ∀ (xs : List α), ((xs.zip xs).all fun p => f p.1 p.2) = true
  | [] => rfl
  | x :: xs => by simp only [List.zip_cons_cons, List.all_cons, hf x, zip_all_self hf xs, Bool.and_true]
theorem pairs_eq {α β : Type} : ∀ (xs ys : List (α × β)), xs.map (fun f => f.1) = ys.map (fun f => f.1) → xs.map (fun f => f.2) = ys.map (fun f => f.2) → xs = ys
  | [], [], _, _ => rfl
  | [], _ :: _, h, _ => by simp at h
  | _ :: _, [], h, _ => by simp at h
  | (a, b) :: xs, (c, d) :: ys, h1, h2 => by
    simp only [List.map_cons, List.cons.injEq] at h1 h2
    rw [h1.1, h2.1, pairs_eq xs ys h1.2 h2.2]
theorem sameR_self : ∀ (n : Nat) (j : J n), sameR n j j = true
  | 0, j => hdEq_self _
  | n + 1, j => by
    have := zip_all_self (sameR_self n) (kids j)
    simp only [sameR, hdEq_self, this, decide_true, Bool.and_true]
theorem sameR_eq : ∀ (n : Nat) (j i : J n), sameR n j i = true → j = i
  | 0, j, i, h => headL_inj (hdEq_eq h)
  | n + 1, j, i, h => by
    simp only [sameR, Bool.and_eq_true, decide_eq_true_eq] at h
    obtain ⟨h1, h2, h3, h4⟩ := h
    have hk := zip_all_eq (sameR_eq n) _ _ h3 h4
    have hh := hdEq_eq h1
    match j, i with
    | Sum.inl a, Sum.inl b => exact congrArg Sum.inl (headL_inj hh)
    | Sum.inl a, Sum.inr (Sum.inl b) => exact absurd (congrArg Hd.k hh) (by have := headL_k a; simp only [headJ]; omega)
    | Sum.inl a, Sum.inr (Sum.inr b) => exact absurd (congrArg Hd.k hh) (by have := headL_k a; simp only [headJ]; omega)
    | Sum.inr (Sum.inl a), Sum.inl b => exact absurd (congrArg Hd.k hh) (by have := headL_k b; simp only [headJ]; omega)
    | Sum.inr (Sum.inr a), Sum.inl b => exact absurd (congrArg Hd.k hh) (by have := headL_k b; simp only [headJ]; omega)
    | Sum.inr (Sum.inl a), Sum.inr (Sum.inr b) => exact absurd (congrArg Hd.k hh) (by simp [headJ])
    | Sum.inr (Sum.inr a), Sum.inr (Sum.inl b) => exact absurd (congrArg Hd.k hh) (by simp [headJ])
    | Sum.inr (Sum.inl a), Sum.inr (Sum.inl b) => exact congrArg (fun x => Sum.inr (Sum.inl x)) hk
    | Sum.inr (Sum.inr a), Sum.inr (Sum.inr b) => exact congrArg (fun x => Sum.inr (Sum.inr x)) (pairs_eq a b h2 hk)
/-- two values that were read are told alike just if they are the same -/
theorem same_told {s t : Bs} {j i : J 10} (hj : read s = .ok j) (hi : read t = .ok i) : (tell 10 j == tell 10 i) = sameR 10 j i := by
  cases h : sameR 10 j i with
  | true => rw [sameR_eq 10 j i h]; simp
  | false =>
    rw [beq_eq_false_iff_ne]
    intro e
    obtain ⟨a1, a2, a3⟩ := read_size hj
    obtain ⟨b1, b2, b3⟩ := read_size hi
    have a4 := read_short hj
    have b4 := read_short hi
    have h1 := read_told (read_good hj) (by omega) (by omega) (by omega)
    have h2 := read_told (read_good hi) (by omega) (by omega) (by omega)
    rw [e, h2] at h1
    have h3 : lift 10 10 i = lift 10 10 j := Except.ok.inj h1
    rw [lift_self, lift_self] at h3
    rw [h3, sameR_self] at h
    cases h
end Go.Proofs.YtaogilpkeeigoaaGreatDoor
