/- Contracts over this translation: query.allHold, query.firstOf. -/
import Derived.Test.YtgaopmdpcjcooaaGreatDoorQIdxA
import Derived.Test.YtgaopmdpcjcooaaGreatDoorQSolve
namespace Go.Proofs.YtgaopmdpcjcooaaGreatDoor
open Go.RowKit
set_option linter.unusedVariables false
set_option linter.unusedSimpArgs false
theorem all_any_not (l : List Rq) (o : Option Bs) : (!l.any fun r => !holdsB r o) = allH l o := by
  unfold allH
  rw [List.any_eq_not_all_not]
  simp
set_option maxHeartbeats 1000000 in
theorem allHold_any (v : Value) (l : List Rq) (o : Option Bs) (w : World) (hv : Reqs w v l) :
    Calls Tryz.prog 35 #[v, .agg #[.bool o.isSome, .string (Ba (o.getD []))]] w fun e w' => e = .returned (.bool (allH l o)) ∧ Below w.heap.size w w' := by
  have hb0 : Below w.heap.size w (w.alloc (.cells #[.bool o.isSome, .string (Ba (o.getD []))] 65)) := (Below.refl _ _).alloc (Nat.le_refl _) _
  have HF : Hid (Calls Tryz.prog 47 #[v, .func (.func 63) #[] #[.pointer (some ⟨w.heap.size, 0, none⟩)]] (w.alloc (.cells #[.bool o.isSome, .string (Ba (o.getD []))] 65)) fun e w' => e = .returned (.bool (l.any fun r => !holdsB r o)) ∧ Below (w.alloc (.cells #[.bool o.isSome, .string (Ba (o.getD []))] 65)).heap.size (w.alloc (.cells #[.bool o.isSome, .string (Ba (o.getD []))] 65)) w') := by
    refine al_containsFunc _ v l w.heap.size _ (hv.below hb0) fun w1 hb r _ u hu => ?_
    obtain ⟨a, b⟩ := box2 hb
    exact allClos_any r u o w.heap.size w1 hu (by have := hb.size; simp at this; omega) a b
  have HB0 : Hid (Below w.heap.size w (w.alloc (.cells #[.bool o.isSome, .string (Ba (o.getD []))] 65))) := hb0
  obtain ⟨p, c, rfl, hn, hcell⟩ := hv.open
  clear hv hcell hb0
  rw [← all_any_not]
  generalize (l.any fun r => !holdsB r o) = res at *
  generalize l.length = nl at *
  generalize o.isSome = b1 at *
  generalize Ba (o.getD []) = b2 at *
  go_enter Tryz.func35, Tryz.ntmps35
  go_wp2_with fail
  refine Calls.mono HF.out ?_
  rintro e w1 ⟨rfl, b⟩
  have HB : Hid (Below w.heap.size w w1) := HB0.out.trans (b.mono HB0.out.size)
  clear b
  go_wp2_with fail
  go_ret
  exact ⟨rfl, HB.out⟩
def firstV (o : Option Bs) : Value := .tuple #[.string (Ba (o.getD [])), .bool o.isSome]
theorem first_step {vals : List Bs} {ab : List Rq} {k : Nat} (hk : k < vals.length) (h : allH ab (some vals[k]) = false) : firstP (vals.drop k) ab = firstP (vals.drop (k + 1)) ab := by
  rw [List.drop_eq_getElem_cons hk, firstP, List.find?_cons_of_neg (by simp [h])]
  rfl
theorem first_hit {vals : List Bs} {ab : List Rq} {k : Nat} (hk : k < vals.length) (h : allH ab (some vals[k]) = true) : firstP (vals.drop k) ab = some vals[k] := by
  rw [List.drop_eq_getElem_cons hk, firstP, List.find?_cons_of_pos (by simp [h])]
theorem first_end {vals : List Bs} {ab : List Rq} {k : Nat} (hk : vals.length ≤ k) : firstP (vals.drop k) ab = none := by
  rw [List.drop_eq_nil_of_le hk]
  rfl
set_option maxHeartbeats 2000000 in
theorem firstOf_any (u v : Value) (vals : List Bs) (ab : List Rq) (w : World) (hu : Strs w u vals) (hv : Reqs w v ab) :
    Calls Tryz.prog 36 #[u, v] w fun e w' => e = .returned (firstV (firstP vals ab)) ∧ Below w.heap.size w w' := by
  obtain ⟨p, c, rfl, hn, hcell⟩ := hu.open
  have HC : Hid (∀ k (hk : k < vals.length), ∃ g o, p = some ⟨g, o, none⟩ ∧ vals.length ≤ c ∧ ∀ w1, Below w.heap.size w w1 → w1.cell? ⟨g, o + k, none⟩ = some (.string (Ba vals[k]))) := hcell
  have HQ : Hid (∀ w1 s, Below w.heap.size w w1 → Calls Tryz.prog 35 #[v, .agg #[.bool true, .string (Ba s)]] w1 fun e w' => e = .returned (.bool (allH ab (some s))) ∧ Below w1.heap.size w1 w') := fun w1 s hb => allHold_any v ab (some s) w1 (hv.below hb)
  have HX : Hid (firstV (firstP vals ab) = firstV (firstP (vals.drop 0) ab)) := rfl
  obtain ⟨p2, c2, rfl, hn2, hcell2⟩ := hv.open
  clear hcell hu hv hcell2
  generalize firstV (firstP vals ab) = res at *
  generalize ab.length = nab at *
  unfold maxLen at hn
  go_enter Tryz.func36, Tryz.ntmps36
  go_wp2_with fail
  go_loopw [10] (fun i wr => ∃ k : Nat, k ≤ vals.length ∧ i = .int .i64 k ∧ firstP (vals.drop 0) ab = firstP (vals.drop k) ab ∧ Below w.heap.size w wr) (fun i _ => vals.length - (intOf i).toNat)
  case atStart => exact ⟨0, Nat.zero_le _, rfl, rfl, Below.refl _ _⟩
  case round =>
    obtain ⟨k, hk, rfl, hall, hbel⟩ := hrel
    have HA : Hid (firstP (vals.drop 0) ab = firstP (vals.drop k) ab) := hall
    have HB : Hid (Below w.heap.size w wr) := hbel
    clear hall hbel
    by_cases hlt : k < vals.length
    · obtain ⟨g, o, rfl, hlc, hc0⟩ := HC.out k hlt
      have c1 := hc0 wr HB.out
      have HQk : Hid (Calls Tryz.prog 35 #[.slice p2 nab c2, .agg #[.bool true, .string (Ba vals[k])]] wr fun e w' => e = .returned (.bool (allH ab (some vals[k]))) ∧ Below wr.heap.size wr w') := HQ.out wr vals[k] HB.out
      clear hc0
      cases hx : allH ab (some vals[k]) with
      | false =>
        have HS : Hid (firstP (vals.drop k) ab = firstP (vals.drop (k + 1)) ab) := first_step hlt hx
        rw [hx] at HQk
        clear hx
        generalize Ba vals[k] = y at *
        go_wp2_with fail
        refine Calls.mono HQk.out ?_
        rintro e w1 ⟨rfl, b⟩
        have HB1 : Hid (Below w.heap.size w w1) := HB.out.trans (b.mono HB.out.size)
        clear b
        go_wp2_with fail
        go_roundw
        case rel => exact ⟨k + 1, by omega, by go_num, HA.out.trans HS.out, HB1.out⟩
        case measure => simp [intOf]; omega
      | true =>
        have HX2 : Hid (res = .tuple #[.string (Ba vals[k]), .bool true]) := by show _ = _; rw [HX.out, HA.out, first_hit hlt hx]; rfl
        rw [hx] at HQk
        clear hx
        generalize Ba vals[k] = y at *
        go_wp2_with fail
        refine Calls.mono HQk.out ?_
        rintro e w1 ⟨rfl, b⟩
        have HB1 : Hid (Below w.heap.size w w1) := HB.out.trans (b.mono HB.out.size)
        clear b
        go_wp2_with fail
        go_ret2
        exact ⟨by rw [HX2.out]; rfl, HB1.out⟩
    · have HX2 : Hid (res = .tuple #[.string ⟨#[]⟩, .bool false]) := by show _ = _; rw [HX.out, HA.out, first_end (by omega)]; rfl
      go_wp2_with fail
      go_ret2
      exact ⟨by rw [HX2.out]; rfl, HB.out⟩
end Go.Proofs.YtgaopmdpcjcooaaGreatDoor
