/- Contracts over this translation of json.Kind at every text, and of the reference's Rest. -/
import Derived.Test.YtaogilpkeeigoabGreatDoorTop
namespace Go.Proofs.YtaogilpkeeigoabGreatDoor
open Go.RowKit
set_option linter.unusedVariables false
set_option linter.unusedSimpArgs false
set_option maxRecDepth 100000 in
set_option maxHeartbeats 1000000 in
theorem kindOf_leaf (l : Leaf) (w : World) :
    Calls Tryz.prog 24 #[leafV l] w fun e w' => e = .returned (.int .i64 (kindLeaf l)) ∧ w' = w := by
  match l with
  | none =>
    obtain ⟨a1, a2, a3, a4, a5, a6⟩ := tas_Null
    unfold leafV
    go_enter Tryz.func24, Tryz.ntmps24
    go_wp2_with fail
    go_ret
    exact ⟨rfl, rfl⟩
  | some (Sum.inl b) =>
    obtain ⟨a1, a2, a3, a4, a5, a6⟩ := tas_Bool
    unfold leafV
    go_enter Tryz.func24, Tryz.ntmps24
    go_wp2_with fail
    go_ret
    exact ⟨rfl, rfl⟩
  | some (Sum.inr (Sum.inl i)) =>
    obtain ⟨a1, a2, a3, a4, a5, a6⟩ := tas_Number
    unfold leafV
    go_enter Tryz.func24, Tryz.ntmps24
    go_wp2_with fail
    go_ret
    exact ⟨rfl, rfl⟩
  | some (Sum.inr (Sum.inr s)) =>
    obtain ⟨a1, a2, a3, a4, a5, a6⟩ := tas_Text
    unfold leafV
    go_enter Tryz.func24, Tryz.ntmps24
    go_wp2_with fail
    go_ret
    exact ⟨rfl, rfl⟩
set_option maxRecDepth 100000 in
set_option maxHeartbeats 1000000 in
theorem kindOf_list (x : Value) (w : World) :
    Calls Tryz.prog 24 #[.iface 78 x] w fun e w' => e = .returned (.int .i64 5) ∧ w' = w := by
  obtain ⟨a1, a2, a3, a4, a5, a6⟩ := tas_List
  go_enter Tryz.func24, Tryz.ntmps24
  go_wp2_with fail
  go_ret
  exact ⟨rfl, rfl⟩
set_option maxRecDepth 100000 in
set_option maxHeartbeats 1000000 in
theorem kindOf_object (x : Value) (w : World) :
    Calls Tryz.prog 24 #[.iface 80 x] w fun e w' => e = .returned (.int .i64 6) ∧ w' = w := by
  obtain ⟨a1, a2, a3, a4, a5, a6⟩ := tas_Object
  go_enter Tryz.func24, Tryz.ntmps24
  go_wp2_with fail
  go_ret
  exact ⟨rfl, rfl⟩
theorem kindOf_any : ∀ (n : Nat) (av : Nat → Prop) (j : J n) (x : Value) (w : World), St av w n j x → Calls Tryz.prog 24 #[x] w fun e w' => e = .returned (.int .i64 (kindJ n j)) ∧ w' = w
  | 0, av, j, x, w, h => by
    have e : x = leafV j := h
    subst e
    exact kindOf_leaf j w
  | n + 1, av, Sum.inl l, x, w, h => by
    have e : x = leafV l := h
    subst e
    exact kindOf_leaf l w
  | n + 1, av, Sum.inr (Sum.inl xs), x, w, h => by
    obtain ⟨p, g, cap, vs, rfl, _⟩ := h.list
    exact kindOf_list _ w
  | n + 1, av, Sum.inr (Sum.inr fs), x, w, h => by
    obtain ⟨p, g, cap, vs, rfl, _⟩ := h.obj
    exact kindOf_object _ w
def kindE (s : Bs) : Array Value :=
  match read s with
  | .error e => #[.int .i64 0, .int .i64 e]
  | .ok j => #[.int .i64 (kindJ 10 j), .int .i64 0]
set_option maxRecDepth 100000 in
set_option maxHeartbeats 2000000 in
theorem kind_any (t : ByteArray) (w : World) (hs : t.size ≤ maxLen) :
    Calls Tryz.prog 9 #[.string t] w fun e w' => e = .returned (.tuple (kindE t.data.toList)) ∧ Below w.heap.size w w' := by
  go_enter Tryz.func9, Tryz.ntmps9
  go_wp2_with fail
  refine (read_any t _ hs).mono ?_
  rintro e w1 ⟨b1, h1⟩
  have HB1 : Hid (Below w.heap.size w w1) := b1
  clear b1
  rcases h1 with ⟨er, hr, her, her2, rfl⟩ | ⟨j, v, hr, rfl, hone, hst⟩
  · have HE : Hid (kindE t.data.toList = #[.int .i64 0, .int .i64 er]) := by
      show kindE t.data.toList = _
      rw [kindE, hr]
    have hbe : ((er : Int) != 0) = true := by rw [bne_iff_ne]; omega
    clear hr
    go_wp2_with fail
    go_ret2
    exact ⟨by rw [HE.out]; rfl, HB1.out⟩
  · have HE : Hid (kindE t.data.toList = #[.int .i64 (kindJ 10 j), .int .i64 0]) := by
      show kindE t.data.toList = _
      rw [kindE, hr]
    have hx := kindOf_any 10 _ j v w1 hst
    have HX : Hid (Calls Tryz.prog 24 #[v] w1 fun e w' => e = .returned (.int .i64 (kindJ 10 j)) ∧ w' = w1) := hx
    clear hr hst hx
    go_wp2_with fail
    refine Calls.mono HX.out ?_
    rintro e w2 ⟨rfl, rfl⟩
    go_wp2_with fail
    go_ret2
    exact ⟨by rw [HE.out]; rfl, HB1.out⟩
end Go.Proofs.YtaogilpkeeigoabGreatDoor
