/- Contracts over this translation of json.Kind at every text, and of the reference's Rest. -/
import Derived.Test.YtjcdklbimaclkaaDoorTop
namespace Go.Proofs.YtjcdklbimaclkaaDoor
open Go.RowKit
set_option linter.unusedVariables false
set_option linter.unusedSimpArgs false
set_option maxRecDepth 100000 in
set_option maxHeartbeats 1000000 in
theorem kindOf_leaf (l : Leaf) (w : World) :
    Calls Tryd.prog 24 #[leafV l] w fun e w' => e = .returned (.int .i64 (kindLeaf l)) ∧ w' = w := by
  match l with
  | none =>
    obtain ⟨a1, a2, a3, a4, a5, a6⟩ := tas_Null
    unfold leafV
    go_enter Tryd.func24, Tryd.ntmps24
    go_wp2_with fail
    go_ret
    exact ⟨rfl, rfl⟩
  | some (Sum.inl b) =>
    obtain ⟨a1, a2, a3, a4, a5, a6⟩ := tas_Bool
    unfold leafV
    go_enter Tryd.func24, Tryd.ntmps24
    go_wp2_with fail
    go_ret
    exact ⟨rfl, rfl⟩
  | some (Sum.inr (Sum.inl i)) =>
    obtain ⟨a1, a2, a3, a4, a5, a6⟩ := tas_Number
    unfold leafV
    go_enter Tryd.func24, Tryd.ntmps24
    go_wp2_with fail
    go_ret
    exact ⟨rfl, rfl⟩
  | some (Sum.inr (Sum.inr s)) =>
    obtain ⟨a1, a2, a3, a4, a5, a6⟩ := tas_Text
    unfold leafV
    go_enter Tryd.func24, Tryd.ntmps24
    go_wp2_with fail
    go_ret
    exact ⟨rfl, rfl⟩
set_option maxRecDepth 100000 in
set_option maxHeartbeats 1000000 in
theorem kindOf_list (x : Value) (w : World) :
    Calls Tryd.prog 24 #[.iface 66 x] w fun e w' => e = .returned (.int .i64 5) ∧ w' = w := by
  obtain ⟨a1, a2, a3, a4, a5, a6⟩ := tas_List
  go_enter Tryd.func24, Tryd.ntmps24
  go_wp2_with fail
  go_ret
  exact ⟨rfl, rfl⟩
set_option maxRecDepth 100000 in
set_option maxHeartbeats 1000000 in
theorem kindOf_object (x : Value) (w : World) :
    Calls Tryd.prog 24 #[.iface 36 x] w fun e w' => e = .returned (.int .i64 6) ∧ w' = w := by
  obtain ⟨a1, a2, a3, a4, a5, a6⟩ := tas_Object
  go_enter Tryd.func24, Tryd.ntmps24
  go_wp2_with fail
  go_ret
  exact ⟨rfl, rfl⟩
theorem kindOf_any : ∀ (n : Nat) (av : Nat → Prop) (j : J n) (x : Value) (w : World), St av w n j x → Calls Tryd.prog 24 #[x] w fun e w' => e = .returned (.int .i64 (kindJ n j)) ∧ w' = w
  | 0, av, j, x, w, h => by
    have e : x = leafV j := h
    subst e
    exact kindOf_leaf j w
  | n + 1, av, Sum.inl l, x, w, h => by
    have e : x = leafV l := h
    subst e
    exact kindOf_leaf l w
  | n + 1, av, Sum.inr (Sum.inl xs), x, w, h => by
    obtain ⟨p, g, cap, vs, rfl, _⟩ := h.list
    exact kindOf_list _ w
  | n + 1, av, Sum.inr (Sum.inr fs), x, w, h => by
    obtain ⟨p, g, cap, vs, rfl, _⟩ := h.obj
    exact kindOf_object _ w
def kindE (s : Bs) : Array Value :=
  match read s with
  | .error e => #[.int .i64 0, .int .i64 e]
  | .ok j => #[.int .i64 (kindJ 10 j), .int .i64 0]
end Go.Proofs.YtjcdklbimaclkaaDoor
