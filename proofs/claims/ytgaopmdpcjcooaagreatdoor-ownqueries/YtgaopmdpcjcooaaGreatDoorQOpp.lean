/- Contract over this translation: query.opposite. -/
import Derived.Test.YtgaopmdpcjcooaaGreatDoorQHolds
namespace Go.Proofs.YtgaopmdpcjcooaaGreatDoor
open Go.RowKit
set_option linter.unusedVariables false
set_option linter.unusedSimpArgs false
theorem oppK_1 : oppK 1 = 2 := rfl
theorem oppK_2 : oppK 2 = 1 := rfl
theorem oppK_3 : oppK 3 = 4 := rfl
theorem oppK_4 : oppK 4 = 3 := rfl
theorem oppK_no {k : Int} (h1 : ¬ k = 1) (h2 : ¬ k = 2) (h3 : ¬ k = 3) (h4 : ¬ k = 4) : oppK k = k := by
  unfold oppK
  rw [if_neg (by omega), if_neg (by omega)]
set_option maxHeartbeats 2000000 in
theorem opp_1 (a : ByteArray) (p : Option Addr) (n c : Nat) (w : World) :
    Calls Tryz.prog 25 #[.agg #[.string a, .int .i64 1, .slice p n c]] w fun e w' => e = .returned (.agg #[.string a, .int .i64 2, .slice p n c]) ∧ Below w.heap.size w w' := by
  go_enter Tryz.func25, Tryz.ntmps25
  go_wp2_with fail
  exact bodyPost_ret (v := .agg #[.string a, .int .i64 2, .slice p n c]) (by simp [results, Tryz.results25, go_sem]) rfl ⟨rfl, ((Below.refl _ _).alloc (Nat.le_refl _) _).alloc (by simp) _⟩
set_option maxHeartbeats 2000000 in
theorem opp_2 (a : ByteArray) (p : Option Addr) (n c : Nat) (w : World) :
    Calls Tryz.prog 25 #[.agg #[.string a, .int .i64 2, .slice p n c]] w fun e w' => e = .returned (.agg #[.string a, .int .i64 1, .slice p n c]) ∧ Below w.heap.size w w' := by
  go_enter Tryz.func25, Tryz.ntmps25
  go_wp2_with fail
  exact bodyPost_ret (v := .agg #[.string a, .int .i64 1, .slice p n c]) (by simp [results, Tryz.results25, go_sem]) rfl ⟨rfl, ((Below.refl _ _).alloc (Nat.le_refl _) _).alloc (by simp) _⟩
set_option maxHeartbeats 2000000 in
theorem opp_3 (a : ByteArray) (p : Option Addr) (n c : Nat) (w : World) :
    Calls Tryz.prog 25 #[.agg #[.string a, .int .i64 3, .slice p n c]] w fun e w' => e = .returned (.agg #[.string a, .int .i64 4, .slice p n c]) ∧ Below w.heap.size w w' := by
  go_enter Tryz.func25, Tryz.ntmps25
  go_wp2_with fail
  exact bodyPost_ret (v := .agg #[.string a, .int .i64 4, .slice p n c]) (by simp [results, Tryz.results25, go_sem]) rfl ⟨rfl, ((Below.refl _ _).alloc (Nat.le_refl _) _).alloc (by simp) _⟩
set_option maxHeartbeats 2000000 in
theorem opp_4 (a : ByteArray) (p : Option Addr) (n c : Nat) (w : World) :
    Calls Tryz.prog 25 #[.agg #[.string a, .int .i64 4, .slice p n c]] w fun e w' => e = .returned (.agg #[.string a, .int .i64 3, .slice p n c]) ∧ Below w.heap.size w w' := by
  go_enter Tryz.func25, Tryz.ntmps25
  go_wp2_with fail
  exact bodyPost_ret (v := .agg #[.string a, .int .i64 3, .slice p n c]) (by simp [results, Tryz.results25, go_sem]) rfl ⟨rfl, ((Below.refl _ _).alloc (Nat.le_refl _) _).alloc (by simp) _⟩
set_option maxHeartbeats 2000000 in
theorem opp_no (a : ByteArray) (kd : Int) (p : Option Addr) (n c : Nat) (w : World) (g1 : ¬ kd = 1) (g2 : ¬ kd = 2) (g3 : ¬ kd = 3) (g4 : ¬ kd = 4) :
    Calls Tryz.prog 25 #[.agg #[.string a, .int .i64 kd, .slice p n c]] w fun e w' => e = .returned (.agg #[.string a, .int .i64 kd, .slice p n c]) ∧ Below w.heap.size w w' := by
  have e1 : (kd == 1) = false := by simpa using g1
  have e2 : (kd == 2) = false := by simpa using g2
  have e3 : (kd == 3) = false := by simpa using g3
  have e4 : (kd == 4) = false := by simpa using g4
  go_enter Tryz.func25, Tryz.ntmps25
  go_wp2_with fail
  exact bodyPost_ret (v := .agg #[.string a, .int .i64 kd, .slice p n c]) (by simp [results, Tryz.results25, go_sem]) rfl ⟨rfl, ((Below.refl _ _).alloc (Nat.le_refl _) _).alloc (by simp) _⟩
theorem opp_any (r : Rq) (p : Option Addr) (n c : Nat) (w : World) :
    Calls Tryz.prog 25 #[.agg #[.string (Ba r.1), .int .i64 r.2.1, .slice p n c]] w fun e w' => e = .returned (.agg #[.string (Ba r.1), .int .i64 (oppR r).2.1, .slice p n c]) ∧ Below w.heap.size w w' := by
  obtain ⟨key, kd, vs⟩ := r
  show Calls _ _ #[.agg #[.string (Ba key), .int .i64 kd, .slice p n c]] w fun e w' => e = .returned (.agg #[.string (Ba key), .int .i64 (oppK kd), .slice p n c]) ∧ _
  by_cases h1 : kd = 1
  · subst h1; exact opp_1 _ p n c w
  by_cases h2 : kd = 2
  · subst h2; exact opp_2 _ p n c w
  by_cases h3 : kd = 3
  · subst h3; exact opp_3 _ p n c w
  by_cases h4 : kd = 4
  · subst h4; exact opp_4 _ p n c w
  rw [oppK_no h1 h2 h3 h4]
  exact opp_no _ kd p n c w h1 h2 h3 h4
end Go.Proofs.YtgaopmdpcjcooaaGreatDoor
