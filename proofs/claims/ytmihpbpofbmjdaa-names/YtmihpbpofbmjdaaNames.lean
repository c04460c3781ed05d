/-
  What is proved: the closed law Names returns true, that is: the numbers of the errors and the limits in package api are those of the document. No condition. (The frame is the guide's own shell.)
-/
import Derived.Test.YtmihpbpofbmjdaaRows
import Derived.Test.YtmihpbpofbmjdaaEq
import Derived.WalkSpells
import Derived.WalkKit
import Derived.ProofKit
import Derived.OpenShut
import Derived.ShutString
namespace Go.Proofs.Ytmihpbpofbmjdaa.names
open Go.ChangeShapes Go.WideShapes Go.ChangeAt Go.RowKit
open Go.ChangeMaps (open_string shut_string)
set_option linter.unusedVariables false

theorem own : ownKnob Try.prog.godebug = none := by kernel_rfl

theorem row_cells (w : World) (zs : List Int) (t : TypeId) (k : Nat) (hk : k < zs.length) :
    (w.alloc (.cells (zs.map (Value.int .i64)).toArray t)).cell? ⟨w.heap.size, k, none⟩ = some (.int .i64 (zs.getD k 0)) := by
  rw [World.cell?_alloc_at _ _ _ _ rfl]
  simp [hk]
def limits : List Int := [2000, 200, 10, 10, 40, 63, 30, 8, 10, 8, 8, 300, 6, 64, 20, 6, 1099511627776, 8, 6, 12, 12, 60, 1099511627776, 50, 8, 6, 1099511627776, 8, 4, 4]
def more : List Int := [8, 6, 10, 1000, 64, 2520, 4, 64, 200, 40, 200, 60, 300]
theorem eq_lits (zs : List Int) (A : Array Value) (hA : A = (zs.map (Value.int .i64)).toArray) (n : Nat) (hn : n = zs.length) (hm : n ≤ 1000) (W : World) (t : TypeId) :
    Calls Try.prog 5 #[.slice (some ⟨W.heap.size, 0, none⟩) n n, .slice (some ⟨W.heap.size + 1, 0, none⟩) n n] ((W.alloc (.cells A t)).alloc (.cells A t))
      fun e w' => e = .returned (.bool true) ∧ w' = (W.alloc (.cells A t)).alloc (.cells A t) := by
  subst hA
  refine eq_same _ _ n zs _ hm (fun k hk => ?_) (fun k hk => ?_)
  · rw [World.cell?_alloc_past _ _ _ (by simp)]
    exact row_cells W zs t k (by omega)
  · have h := row_cells (W.alloc (.cells (zs.map (Value.int .i64)).toArray t)) zs t k (by omega)
    have e : (W.alloc (.cells (zs.map (Value.int .i64)).toArray t)).heap.size = W.heap.size + 1 := by simp
    rw [e] at h
    exact h
theorem up_to (k : Nat) (hk : k < 23) : ([0, 1, 2, 3, 4, 5, 6, 7, 8, 9, 10, 11, 12, 13, 14, 15, 16, 17, 18, 19, 20, 21, 22] : List Int).getD k 0 = k := by
  have h : ∀ k : Fin 23, ([0, 1, 2, 3, 4, 5, 6, 7, 8, 9, 10, 11, 12, 13, 14, 15, 16, 17, 18, 19, 20, 21, 22] : List Int).getD k.val 0 = k.val := by decide
  exact h ⟨k, hk⟩

set_option maxHeartbeats 2000000 in
theorem walk  (w : World) :
    Calls Try.prog 3 #[] w fun e w' => e = .returned (.bool true) ∧ Grown w w' := by
  go_enter Try.func3, Try.ntmps3
  go_wp2
  generalize hw : w.alloc _ = w1
  have hc : ∀ k, k < 23 → w1.cell? ⟨w.heap.size, k, none⟩ = some (.int .i64 k) := by
    subst hw
    intro k hk
    have h := row_cells w [0, 1, 2, 3, 4, 5, 6, 7, 8, 9, 10, 11, 12, 13, 14, 15, 16, 17, 18, 19, 20, 21, 22] 22 k (by simpa using hk)
    rw [up_to k hk] at h
    exact h
  have hg : Grown w w1 := by subst hw; exact (Grown.refl _).alloc _ _
  clear hw
  go_loop [9] (fun i => ∃ k : Nat, k ≤ 23 ∧ i = .int .i64 k) (fun i => 23 - (intOf i).toNat)
  case atStart => exact ⟨0, Nat.zero_le _, rfl⟩
  case round =>
    obtain ⟨k, hk, rfl⟩ := hrel
    by_cases hlt : k < 23
    · have c1 := hc k hlt
      clear hc
      go_wp2
      go_round
      case rel => exact ⟨k + 1, by omega, by go_num⟩
      case measure => simp [intOf]; omega
    · clear hc
      go_wp2_with fail
      refine (eq_lits limits _ (by rfl) 30 (by rfl) (by omega) w1 3).mono ?_
      rintro e w' ⟨rfl, rfl⟩
      have hg2 : Grown w ((w1.alloc (.cells (limits.map (Value.int .i64)).toArray 3)).alloc (.cells (limits.map (Value.int .i64)).toArray 3)) := (hg.alloc _ _).alloc _ _
      generalize hw2 : (w1.alloc _).alloc _ = w2
      have hg3 : Grown w w2 := by subst hw2; exact hg2
      clear hw2 hg2 hg
      go_wp2_with fail
      refine (eq_lits more _ (by rfl) 13 (by rfl) (by omega) w2 3).mono ?_
      rintro e w' ⟨rfl, rfl⟩
      go_wp2_with fail
      go_ret
      exact ⟨rfl, (hg3.alloc _ _).alloc _ _⟩

set_option maxRecDepth 100000 in
theorem lifted (os : Os) (started : os.Started) (H : Type) (enc : TypeId × Value → H) :
    ReturnsInHanded {} Try.checked os 3 .any (Rows.namesSpec.pre6 enc Try.prog Try.f3 Rows.namesRow.domain false) (Rows.namesSpec.post enc Try.prog Try.f3 false true false false) := by
  refine returnsInHanded_of_change (C := Try.checked) own started (by kernel_rfl) Try.func3
    (ChangeSpec.witness6 (enc := enc) (C := Try.checked) false ⟨#[], #[], []⟩ 8 (by kernel_rfl) (by kernel_rfl) (by kernel_rfl) (by kernel_rfl)) ?_
  intro W base args ds gs before hval0 hW hcnd _
  have hval : ∀ (j : Nat) t v, Try.f3.params[j]? = some t → args[j]? = some v → Value.okWide Try.prog W .any base t v := hval0
  have hW' := hW
  obtain ⟨p, q, hA0, hV, rfl, hfz, hnd⟩ := hW
  have hA : DataW.TrodAll enc Try.prog W 0 (fun _ => true) true Try.f3.params.toList args.toList ds p := hA0
  rw [Try.params3] at hA hval
  obtain ⟨rfl, rfl, rfl⟩ := trodAll_none hA
  obtain ⟨rfl, rfl⟩ := trodVars_none hV
  clear hA0 hval0
  simp only [List.append_nil] at hW'
  refine (walk  W).mono fun e W' ⟨he, hg⟩ => ?_
  subst he
  exact ⟨_, rfl, post_of_same (pa := []) (pv := []) hW' (fun _ _ _ => (trodAll_cons_mk (shut_bool Try.underlying4 _) trodAll_mk0)) (fun sp _ => rfl) (fun _ _ => rfl) rfl
    (hg.frame _) hg.2.1 (ok_one (by kernel_rfl) rfl (okWide_bool_mk Try.underlying4 _))⟩

theorem over : Rows.namesRow.holds Try.pinned (OpenSpec.ofChange Rows.namesSpec) :=
  OpenClaim.holds_of_wide 3 Try.f3 rfl rfl rfl rfl rfl rfl rfl ⟨rfl, rfl, rfl, rfl, rfl⟩ rfl rfl rfl rfl rfl (by kernel_rfl) Try.func3 (by kernel_rfl)
    (of_decide_eq_true (by kernel_rfl)) (by unfold Func.isWrapper; first | (rw [if_pos (by decide +kernel)]; kernel_rfl) | (rw [if_neg (by decide +kernel)]; exact ⟨rfl, rfl⟩))
    (fun os started H enc _ => lifted os started H enc)

end Go.Proofs.Ytmihpbpofbmjdaa.names
namespace Go.Proofs.Ytmihpbpofbmjdaa
theorem names_holds : Rows.NamesSaid :=
  names.over
#print axioms names_holds
end Go.Proofs.Ytmihpbpofbmjdaa
