/- Contracts over this translation: slices.IndexFunc and ContainsFunc at one function that is handed down. -/
import Derived.Test.YtgaopmdpcjcooaaGreatDoorQAll
namespace Go.Proofs.YtgaopmdpcjcooaaGreatDoor
open Go.RowKit
set_option linter.unusedVariables false
set_option linter.unusedSimpArgs false
theorem al_any_hit {F : Rq → Bool} {l : List Rq} {k : Nat} (hk : k < l.length) (h : F l[k] = true) : (l.drop k).any F = true := by
  rw [List.drop_eq_getElem_cons hk, List.any_cons, h]
  rfl
theorem al_any_step {F : Rq → Bool} {l : List Rq} {k : Nat} (hk : k < l.length) (h : F l[k] = false) : (l.drop k).any F = (l.drop (k + 1)).any F := by
  rw [List.drop_eq_getElem_cons hk, List.any_cons, h]
  rfl
theorem al_any_end {F : Rq → Bool} {l : List Rq} {k : Nat} (hk : l.length ≤ k) : (l.drop k).any F = false := by
  rw [List.drop_eq_nil_of_le hk]
  rfl
set_option maxHeartbeats 2000000 in
theorem al_indexFunc (F : Rq → Bool) (v : Value) (l : List Rq) (cb : Nat) (w : World) (hv : Reqs w v l)
    (hF : ∀ w1, Below w.heap.size w w1 → ∀ r ∈ l, ∀ u, Strs w1 u r.2.2 → Calls Tryz.prog 63 #[.agg #[.string (Ba r.1), .int .i64 r.2.1, u], .pointer (some ⟨cb, 0, none⟩)] w1 fun e w' => e = .returned (.bool (F r)) ∧ Below w1.heap.size w1 w') :
    Calls Tryz.prog 73 #[v, .func (.func 63) #[] #[.pointer (some ⟨cb, 0, none⟩)]] w fun e w' => (∃ n : Int, e = .returned (.int .i64 n) ∧ decide (0 ≤ n) = l.any F) ∧ Below w.heap.size w w' := by
  obtain ⟨p, c, rfl, hn, hcell⟩ := hv.open
  have HC : Hid (∀ k (hk : k < l.length), ∃ g o q d, p = some ⟨g, o, none⟩ ∧ l.length ≤ c ∧ ∀ w1, Below w.heap.size w w1 → w1.cell? ⟨g, o + k * 3, none⟩ = some (.string (Ba l[k].1)) ∧ w1.cell? ⟨g, o + k * 3 + 1, none⟩ = some (.int .i64 l[k].2.1) ∧ w1.cell? ⟨g, o + k * 3 + 2, none⟩ = some (.slice q l[k].2.2.length d) ∧
      Calls Tryz.prog 63 #[.agg #[.string (Ba l[k].1), .int .i64 l[k].2.1, .slice q l[k].2.2.length d], .pointer (some ⟨cb, 0, none⟩)] w1 fun e w' => e = .returned (.bool (F l[k])) ∧ Below w1.heap.size w1 w') := by
    intro k hk
    obtain ⟨g, o, q, d, h1, h2, h3⟩ := hcell k hk
    refine ⟨g, o, q, d, h1, h2, fun w1 hb => ?_⟩
    obtain ⟨c1, c2, c3, c4⟩ := h3 w1 hb
    exact ⟨c1, c2, c3, hF w1 hb _ (List.getElem_mem hk) _ c4⟩
  have HX : Hid (l.any F = (l.drop 0).any F) := rfl
  clear hcell hF hv
  generalize l.any F = res at *
  unfold maxLen at hn
  go_enter Tryz.func73, Tryz.ntmps73
  go_wp2_with fail
  go_loopw [8] (fun i wr => ∃ k : Nat, k ≤ l.length ∧ i = .int .i64 k ∧ (l.drop 0).any F = (l.drop k).any F ∧ Below w.heap.size w wr) (fun i _ => l.length - (intOf i).toNat)
  case atStart => exact ⟨0, Nat.zero_le _, rfl, rfl, Below.refl _ _⟩
  case round =>
    obtain ⟨k, hk, rfl, hall, hbel⟩ := hrel
    have HA : Hid ((l.drop 0).any F = (l.drop k).any F) := hall
    have HB : Hid (Below w.heap.size w wr) := hbel
    clear hall hbel
    by_cases hlt : k < l.length
    · obtain ⟨g, o, q, d, rfl, hlc, hc0⟩ := HC.out k hlt
      obtain ⟨c1, c2, c3, hcall⟩ := hc0 wr HB.out
      have HP : Hid (Calls Tryz.prog 63 #[.agg #[.string (Ba l[k].1), .int .i64 l[k].2.1, .slice q l[k].2.2.length d], .pointer (some ⟨cb, 0, none⟩)] wr fun e w' => e = .returned (.bool (F l[k])) ∧ Below wr.heap.size wr w') := hcall
      have HS : Hid (F l[k] = false → (l.drop k).any F = (l.drop (k + 1)).any F) := fun h => al_any_step hlt h
      have HT : Hid (F l[k] = true → (l.drop k).any F = true) := fun h => al_any_hit hlt h
      clear hc0 hcall
      generalize F l[k] = fr at HP HS HT
      generalize l[k] = x at c1 c2 c3 HP
      obtain ⟨xk, xd, xv⟩ := x
      dsimp only at c1 c2 c3 HP
      generalize xv.length = nv at c3 HP
      cases fr with
      | false =>
        go_wp2_with fail
        refine Calls.mono HP.out ?_
        rintro e w1 ⟨rfl, b1⟩
        have HB1 : Hid (Below w.heap.size w w1) := HB.out.trans (b1.mono HB.out.size)
        clear b1
        go_wp2_with fail
        go_roundw
        case rel => exact ⟨k + 1, by omega, by go_num, HA.out.trans (HS.out (by trivial)), HB1.out⟩
        case measure => simp [intOf]; omega
      | true =>
        have HX2 : Hid (res = true) := by show _ = _; rw [HX.out, HA.out, HT.out (by trivial)]
        go_wp2_with fail
        refine Calls.mono HP.out ?_
        rintro e w1 ⟨rfl, b1⟩
        have HB1 : Hid (Below w.heap.size w w1) := HB.out.trans (b1.mono HB.out.size)
        clear b1
        go_wp2_with fail
        go_ret
        exact ⟨⟨k, rfl, by rw [HX2.out]; simp⟩, HB1.out⟩
    · have HX2 : Hid (res = false) := by show _ = _; rw [HX.out, HA.out, al_any_end (by omega)]
      go_wp2_with fail
      go_ret
      exact ⟨⟨-1, rfl, by rw [HX2.out]; rfl⟩, HB.out⟩
set_option maxHeartbeats 1000000 in
theorem al_containsFunc (F : Rq → Bool) (v : Value) (l : List Rq) (cb : Nat) (w : World) (hv : Reqs w v l)
    (hF : ∀ w1, Below w.heap.size w w1 → ∀ r ∈ l, ∀ u, Strs w1 u r.2.2 → Calls Tryz.prog 63 #[.agg #[.string (Ba r.1), .int .i64 r.2.1, u], .pointer (some ⟨cb, 0, none⟩)] w1 fun e w' => e = .returned (.bool (F r)) ∧ Below w1.heap.size w1 w') :
    Calls Tryz.prog 47 #[v, .func (.func 63) #[] #[.pointer (some ⟨cb, 0, none⟩)]] w fun e w' => e = .returned (.bool (l.any F)) ∧ Below w.heap.size w w' := by
  have HI : Hid (Calls Tryz.prog 73 #[v, .func (.func 63) #[] #[.pointer (some ⟨cb, 0, none⟩)]] w fun e w' => (∃ n : Int, e = .returned (.int .i64 n) ∧ decide (0 ≤ n) = l.any F) ∧ Below w.heap.size w w') := al_indexFunc F v l cb w hv hF
  obtain ⟨p, c, rfl, hn, hcell⟩ := hv.open
  clear hv hF hcell
  generalize l.any F = r at *
  generalize l.length = nl at *
  go_enter Tryz.func47, Tryz.ntmps47
  go_wp2_with fail
  refine Calls.mono HI.out ?_
  rintro e w1 ⟨⟨n, rfl, hn⟩, b⟩
  have HB : Hid (Below w.heap.size w w1) := b
  clear b
  go_wp2_with fail
  go_ret
  exact ⟨by rw [← hn]; rfl, HB.out⟩
end Go.Proofs.YtgaopmdpcjcooaaGreatDoor
