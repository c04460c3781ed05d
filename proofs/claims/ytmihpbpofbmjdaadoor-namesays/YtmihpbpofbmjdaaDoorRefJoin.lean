/- Contracts of the document's answers over this translation: NameJoin. -/
import Derived.Test.YtmihpbpofbmjdaaDoorRefKeys
namespace Go.Proofs.YtmihpbpofbmjdaaDoor
open Go.RowKit
theorem three_cells (w : World) (a b c : ByteArray) (t : TypeId) (k : Nat) (hk : k < 3) :
    (w.alloc (.cells #[.string a, .string b, .string c] t)).cell? ⟨w.heap.size, k, none⟩ = some (.string ([a, b, c].getD k ByteArray.empty)) :=
  texts_cells w [a, b, c] t k hk
/-- what NameJoin answers, where f is the place of the first of the three texts that is no name (3: none) -/
def joinV (a b : ByteArray) (f : Nat) : Value :=
  if f < 3 then .tuple #[.string { data := #[] }, .int .i64 (checkI ([a, b, a ++ { data := #[45] } ++ b].getD f ByteArray.empty))] else .tuple #[.string (a ++ { data := #[45] } ++ b), .int .i64 0]
theorem ret_val {a b : Value} (h : a = b) : Ending.returned a = .returned b := by rw [h]
set_option maxHeartbeats 2000000 in
theorem joinR_gen (a b : ByteArray) (w : World) (ha : a.size ≤ 140737488351232) (hb : b.size ≤ 140737488351232) (f : Nat) (hf : f ≤ 3)
    (hok : ∀ j, j < f → checkI ([a, b, a ++ { data := #[45] } ++ b].getD j ByteArray.empty) = 0)
    (hbad : f < 3 → checkI ([a, b, a ++ { data := #[45] } ++ b].getD f ByteArray.empty) ≠ 0) :
    Calls Tryd.prog 6 #[.string a, .string b] w fun e w' => e = .returned (joinV a b f) ∧ Below w.heap.size w w' := by
  have hz := size_join a b
  have HS : Hid (∀ k, k < 3 → ([a, b, a ++ { data := #[45] } ++ b].getD k ByteArray.empty).size ≤ maxLen) := fun k hk => by
    show _ ≤ maxLen
    unfold maxLen
    match k, hk with
    | 0, _ => show a.size ≤ _; omega
    | 1, _ => show b.size ≤ _; omega
    | 2, _ => show (a ++ { data := #[45] } ++ b).size ≤ _; omega
  have HO : Hid (∀ j, j < f → checkI ([a, b, a ++ { data := #[45] } ++ b].getD j ByteArray.empty) = 0) := hok
  have HB : Hid (f < 3 → checkI ([a, b, a ++ { data := #[45] } ++ b].getD f ByteArray.empty) ≠ 0) := hbad
  clear hok hbad hz
  go_enter Tryd.func6, Tryd.ntmps6
  go_wp2_with fail
  have HC : Hid (∀ k, k < 3 → (w.alloc (.cells #[.string a, .string b, .string (a ++ { data := #[45] } ++ b)] 9)).cell? ⟨w.heap.size, k, none⟩ = some (.string ([a, b, a ++ { data := #[45] } ++ b].getD k ByteArray.empty))) :=
    three_cells w a b _ 9
  have HW : Below w.heap.size w (w.alloc (.cells #[.string a, .string b, .string (a ++ { data := #[45] } ++ b)] 9)) := (Below.refl _ _).alloc (Nat.le_refl _) _
  have HV : Hid (f < 3 → joinV a b f = .tuple #[.string { data := #[] }, .int .i64 (checkI ([a, b, a ++ { data := #[45] } ++ b].getD f ByteArray.empty))]) := fun h => if_pos h
  have HV3 : Hid (¬ f < 3 → joinV a b f = .tuple #[.string (a ++ { data := #[45] } ++ b), .int .i64 0]) := fun h => if_neg h
  generalize w.alloc (.cells #[.string a, .string b, .string (a ++ { data := #[45] } ++ b)] 9) = w1 at HC HW ⊢
  generalize [a, b, a ++ { data := #[45] } ++ b] = l at HS HO HB HC HV
  go_loop [17] (fun i => ∃ k : Nat, k ≤ f ∧ i = .int .i64 k) (fun i => 3 - (intOf i).toNat)
  case atStart => exact ⟨0, Nat.zero_le _, rfl⟩
  case round =>
    obtain ⟨k, hk, rfl⟩ := hrel
    by_cases hlt : k < 3
    · have hck := HC.out k hlt
      have hzk := HS.out k hlt
      by_cases hkf : k < f
      · have h0 := HO.out k hkf
        generalize l.getD k ByteArray.empty = x at hck hzk h0
        go_wp2_with fail
        refine (nameR_any _ _ hzk).mono ?_; rintro e w' ⟨rfl, rfl⟩
        go_wp2_with fail
        go_round
        case rel => exact ⟨k + 1, by omega, by go_num⟩
        case measure => simp [intOf]; omega
      · have e : k = f := by omega
        subst e
        have h0 := HB.out hlt
        have hv : Hid (joinV a b k = .tuple #[.string { data := #[] }, .int .i64 (checkI (l.getD k ByteArray.empty))]) := HV.out hlt
        generalize l.getD k ByteArray.empty = x at hck hzk h0 hv
        have h1 : (checkI x != 0) = true := by simpa using h0
        clear h0
        go_wp2_with fail
        refine (nameR_any _ _ hzk).mono ?_; rintro e w' ⟨rfl, rfl⟩
        go_wp2_with fail
        go_ret2
        exact ⟨ret_val hv.out.symm, HW⟩
    · have hv : Hid (joinV a b f = .tuple #[.string (a ++ { data := #[45] } ++ b), .int .i64 0]) := HV3.out (by omega)
      go_wp2_with fail
      go_ret2
      exact ⟨ret_val hv.out.symm, HW⟩
theorem joinR_a (a b : ByteArray) (w : World) (ha : a.size ≤ 140737488351232) (hb : b.size ≤ 140737488351232) (h : checkI a ≠ 0) :
    Calls Tryd.prog 6 #[.string a, .string b] w fun e w' => e = .returned (.tuple #[.string { data := #[] }, .int .i64 (checkI a)]) ∧ Below w.heap.size w w' :=
  joinR_gen a b w ha hb 0 (by omega) (fun j hj => absurd hj (Nat.not_lt_zero _)) (fun _ => h)
theorem joinR_b (a b : ByteArray) (w : World) (ha : a.size ≤ 140737488351232) (hb : b.size ≤ 140737488351232) (h : checkI a = 0) (g : checkI b ≠ 0) :
    Calls Tryd.prog 6 #[.string a, .string b] w fun e w' => e = .returned (.tuple #[.string { data := #[] }, .int .i64 (checkI b)]) ∧ Below w.heap.size w w' :=
  joinR_gen a b w ha hb 1 (by omega) (fun j hj => by obtain rfl : j = 0 := by omega
                                                     exact h) (fun _ => g)
theorem joinR_c (a b : ByteArray) (w : World) (ha : a.size ≤ 140737488351232) (hb : b.size ≤ 140737488351232) (h : checkI a = 0) (g : checkI b = 0) (f : checkI (a ++ { data := #[45] } ++ b) ≠ 0) :
    Calls Tryd.prog 6 #[.string a, .string b] w fun e w' => e = .returned (.tuple #[.string { data := #[] }, .int .i64 (checkI (a ++ { data := #[45] } ++ b))]) ∧ Below w.heap.size w w' :=
  joinR_gen a b w ha hb 2 (by omega) (fun j hj => by
    rcases (show j = 0 ∨ j = 1 by omega) with rfl | rfl
    · exact h
    · exact g) (fun _ => f)
theorem joinR_d (a b : ByteArray) (w : World) (ha : a.size ≤ 140737488351232) (hb : b.size ≤ 140737488351232) (h : checkI a = 0) (g : checkI b = 0) (f : checkI (a ++ { data := #[45] } ++ b) = 0) :
    Calls Tryd.prog 6 #[.string a, .string b] w fun e w' => e = .returned (.tuple #[.string (a ++ { data := #[45] } ++ b), .int .i64 0]) ∧ Below w.heap.size w w' :=
  joinR_gen a b w ha hb 3 (by omega) (fun j hj => by
    rcases (show j = 0 ∨ j = 1 ∨ j = 2 by omega) with rfl | rfl | rfl
    · exact h
    · exact g
    · exact f) (fun h => absurd h (by omega))
end Go.Proofs.YtmihpbpofbmjdaaDoor
