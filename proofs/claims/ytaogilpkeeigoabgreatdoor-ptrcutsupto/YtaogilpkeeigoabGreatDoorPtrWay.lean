/- Contracts over this translation: which place a step is, what a step leads to, what several lead to. -/
import Derived.Test.YtaogilpkeeigoabGreatDoorPtrTop
import Derived.Test.YtaogilpkeeigoabGreatDoorPtrPlain
import Derived.Test.YtaogilpkeeigoabGreatDoorTop
import Derived.Test.YtaogilpkeeigoabGreatDoorDocErr
import Derived.Lib.AtoiErrMem
namespace Go.Proofs.YtaogilpkeeigoabGreatDoor
open Go.RowKit
set_option linter.unusedVariables false
set_option linter.unusedSimpArgs false
/-- the library's two errors are some errors, or none -/
def Errs (w : World) : Prop := ∃ e1 e2 : Value, (1 < w.heap.size ∧ w.cell? ⟨1, 0, none⟩ = some e1 ∧ (e1 = .nilIface ∨ ∃ te pe, e1 = .iface te pe)) ∧
  2 < w.heap.size ∧ w.cell? ⟨2, 0, none⟩ = some e2 ∧ (e2 = .nilIface ∨ ∃ te pe, e2 = .iface te pe)
/-- what stands of the library's variables -/
structure Env (w : World) : Prop where
  room : Room w
  errs : Errs w
  tab : Tab w.heap.size w
theorem Env.below {w w' : World} (h : Env w) (hb : Below w.heap.size w w') : Env w' := by
  obtain ⟨e1, e2, ⟨a1, a2, a3⟩, b1, b2, b3⟩ := h.errs
  have hs := hb.size
  exact ⟨h.room.below hb, ⟨e1, e2, ⟨by omega, by rw [hb.cell (p := ⟨1, 0, none⟩) a1]; exact a2, a3⟩, by omega, by rw [hb.cell (p := ⟨2, 0, none⟩) b1]; exact b2, b3⟩, (h.tab.below hb).mono hs⟩
theorem bytes_below {w w' : World} {e : TypeId} (h : w' = w ∨ ∃ t, w' = Lib.bytesWorld w e t) : Below w.heap.size w w' := by
  rcases h with rfl | ⟨t, rfl⟩
  · exact Below.refl _ _
  · exact Lib.bytesWorld_below _ _ _
theorem grow_below (w : World) (q : Nat) (os : Array Obj) : Below w.heap.size w (Sort.grow (w.drewN q) os) :=
  ⟨rfl, rfl, rfl, by simp [Sort.grow, World.drewN], fun k hk => by simp [Sort.grow, World.drewN, Array.getElem?_append, hk]⟩
/-- what is known of the answer on a place -/
def PlacePost (s : Bs) (w : World) (e : Ending) (w' : World) : Prop :=
  Below w.heap.size w w' ∧ ((∃ i : Nat, placeP s = some i ∧ (i : Int) ≤ 9223372036854775807 ∧ e = .returned (.tuple #[.int .i64 i, .bool true])) ∨ ∃ n : Int, placeP s = none ∧ e = .returned (.tuple #[.int .i64 n, .bool false]))
set_option maxRecDepth 100000 in
set_option maxHeartbeats 2000000 in
theorem place_any (s : ByteArray) (w : World) (hs : s.size ≤ 8000000) (hE : Env w) :
    Calls Tryz.prog 56 #[.string s] w (PlacePost s.data.toList w) := by
  cases hat : Lib.atoiAll s.data.toList with
  | ok v =>
    have hA := Tryz.strconv_Atoi_ok s (by omega) v hat w
    have HA : Hid (Calls Tryz.prog 99 #[.string s] w fun e w' => e = .returned (.tuple #[.int .i64 v, .nilIface]) ∧ Below w.heap.size w w') := by
      refine hA.mono ?_
      rintro e w1 ⟨rfl, h1⟩
      exact ⟨rfl, bytes_below h1⟩
    obtain ⟨hv1, hv2⟩ := Lib.atoiAll_bounds hat
    have HP : Hid (placeP s.data.toList = if 0 ≤ v ∧ Lib.itoa v = s.data.toList then some v.toNat else none) := by
      show placeP _ = _
      unfold placeP
      rw [hat]
    clear hA hat
    by_cases h0 : 0 ≤ v
    · have HI : Hid (∀ w1, Below w.heap.size w w1 → Calls Tryz.prog 100 #[.int .i64 v] w1 fun e w' => e = .returned (.string ⟨(Lib.itoa v).toArray⟩) ∧ Below w1.heap.size w1 w') := by
        intro w1 hb
        refine (Tryz.strconv_Itoa v hv1 hv2 w1 (hE.below hb).tab.here).mono ?_
        rintro e w2 ⟨rfl, k, os, rfl⟩
        exact ⟨rfl, grow_below _ _ _⟩
      have HEq : Hid (((⟨(Lib.itoa v).toArray⟩ : ByteArray).toList == s.toList) = decide (Lib.itoa v = s.data.toList)) := by
        show _ = _
        rw [ByteArray.toList_eq, ByteArray.toList_eq, Bool.eq_iff_iff, beq_iff_eq, decide_eq_true_iff]
      by_cases he : Lib.itoa v = s.data.toList
      · have HX : Hid (placeP s.data.toList = some v.toNat) := by
          show _ = _
          rw [HP.out, if_pos ⟨h0, he⟩]
        have hq : (((⟨(Lib.itoa v).toArray⟩ : ByteArray).toList == s.toList)) = true := by rw [HEq.out]; exact decide_eq_true he
        clear he
        generalize (⟨(Lib.itoa v).toArray⟩ : ByteArray) = y at *
        go_enter Tryz.func56, Tryz.ntmps56
        go_wp2_with fail
        refine Calls.mono HA.out ?_
        rintro e w1 ⟨rfl, b1⟩
        have HB1 : Hid (Below w.heap.size w w1) := b1
        clear b1
        go_wp2_with fail
        refine Calls.mono (HI.out w1 HB1.out) ?_
        rintro e w2 ⟨rfl, b2⟩
        have HB2 : Hid (Below w.heap.size w w2) := HB1.out.trans (b2.mono HB1.out.size)
        clear b2
        go_wp2_with fail
        go_ret2
        refine ⟨HB2.out, Or.inl ⟨v.toNat, HX.out, by omega, ?_⟩⟩
        rw [Int.toNat_of_nonneg h0]
        rfl
      · have HX : Hid (placeP s.data.toList = none) := by
          show _ = _
          rw [HP.out, if_neg (fun h => he h.2)]
        have hq : (((⟨(Lib.itoa v).toArray⟩ : ByteArray).toList == s.toList)) = false := by rw [HEq.out]; exact decide_eq_false he
        clear he
        generalize (⟨(Lib.itoa v).toArray⟩ : ByteArray) = y at *
        go_enter Tryz.func56, Tryz.ntmps56
        go_wp2_with fail
        refine Calls.mono HA.out ?_
        rintro e w1 ⟨rfl, b1⟩
        have HB1 : Hid (Below w.heap.size w w1) := b1
        clear b1
        go_wp2_with fail
        refine Calls.mono (HI.out w1 HB1.out) ?_
        rintro e w2 ⟨rfl, b2⟩
        have HB2 : Hid (Below w.heap.size w w2) := HB1.out.trans (b2.mono HB1.out.size)
        clear b2
        go_wp2_with fail
        go_ret2
        exact ⟨HB2.out, Or.inr ⟨_, HX.out, rfl⟩⟩
    · have HX : Hid (placeP s.data.toList = none) := by
        show _ = _
        rw [HP.out, if_neg (fun h => h0 h.1)]
      have hd0 : decide (0 ≤ v) = false := decide_eq_false h0
      clear h0
      go_enter Tryz.func56, Tryz.ntmps56
      go_wp2_with fail
      refine Calls.mono HA.out ?_
      rintro e w1 ⟨rfl, b1⟩
      have HB1 : Hid (Below w.heap.size w w1) := b1
      clear b1
      go_wp2_with fail
      go_ret2
      exact ⟨HB1.out, Or.inr ⟨_, HX.out, rfl⟩⟩
  | «syntax» =>
    obtain ⟨e1, e2, ⟨a1, a2, a3⟩, b1, b2, b3⟩ := hE.errs
    have hA := Tryz.strconv_Atoi_syntax s (by omega) hat e1 w a2 a3
    have HA : Hid (Calls Tryz.prog 99 #[.string s] w fun e w' => ∃ T x n, e = .returned (.tuple #[.int .i64 n, .iface T x]) ∧ Below w.heap.size w w') := by
      refine hA.mono ?_
      rintro e w1 ⟨N, rfl, _, _, h1⟩
      exact ⟨_, _, _, rfl, h1⟩
    have HX : Hid (placeP s.data.toList = none) := by
      show placeP _ = _
      unfold placeP
      rw [hat]
    clear hA hat a1 a2 a3 b1 b2 b3
    go_enter Tryz.func56, Tryz.ntmps56
    go_wp2_with fail
    refine Calls.mono HA.out ?_
    rintro e w1 ⟨T, x, n, rfl, b1⟩
    have HB1 : Hid (Below w.heap.size w w1) := b1
    clear b1
    go_wp2_with fail
    go_ret2
    exact ⟨HB1.out, Or.inr ⟨_, HX.out, rfl⟩⟩
  | range =>
    obtain ⟨e1, e2, ⟨a1, a2, a3⟩, b1, b2, b3⟩ := hE.errs
    have hA := Tryz.strconv_Atoi_range s (by omega) hat e2 w b2 b3
    have HA : Hid (Calls Tryz.prog 99 #[.string s] w fun e w' => ∃ T x n, e = .returned (.tuple #[.int .i64 n, .iface T x]) ∧ Below w.heap.size w w') := by
      refine hA.mono ?_
      rintro e w1 ⟨N, rfl, _, _, h1⟩
      exact ⟨_, _, _, rfl, h1⟩
    have HX : Hid (placeP s.data.toList = none) := by
      show placeP _ = _
      unfold placeP
      rw [hat]
    clear hA hat a1 a2 a3 b1 b2 b3
    go_enter Tryz.func56, Tryz.ntmps56
    go_wp2_with fail
    refine Calls.mono HA.out ?_
    rintro e w1 ⟨T, x, n, rfl, b1⟩
    have HB1 : Hid (Below w.heap.size w w1) := b1
    clear b1
    go_wp2_with fail
    go_ret2
    exact ⟨HB1.out, Or.inr ⟨_, HX.out, rfl⟩⟩
end Go.Proofs.YtaogilpkeeigoabGreatDoor
