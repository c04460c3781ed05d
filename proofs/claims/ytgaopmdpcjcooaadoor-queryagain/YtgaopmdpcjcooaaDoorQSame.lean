/- Contracts over this translation: the document's SameReq and SameAll, at parts that are the same. -/
import Derived.Test.YtgaopmdpcjcooaaDoorQEq
import Derived.Test.YtgaopmdpcjcooaaDoorQMem
import Derived.RegionTactic
import Derived.BigRegion
namespace Go.Proofs.YtgaopmdpcjcooaaDoor
open Go.RowKit
set_option linter.unusedVariables false
set_option linter.unusedSimpArgs false
set_option maxRecDepth 100000 in
set_option maxHeartbeats 2000000 in
theorem sameReq_yes (r : Rq) (p1 p2 : Option Addr) (n1 n2 c1 c2 : Nat) (w : World) (h1 : Strs w (.slice p1 n1 c1) r.2.2) (h2 : Strs w (.slice p2 n2 c2) r.2.2) :
    Calls Tryd.prog 10 #[.agg #[.string (Ba r.1), .int .i64 r.2.1, .slice p1 n1 c1], .agg #[.string (Ba r.1), .int .i64 r.2.1, .slice p2 n2 c2]] w fun e w' => e = .returned (.bool true) ∧ Below w.heap.size w w' := by
  obtain ⟨rk, rd, rv⟩ := r
  dsimp only at *
  have hba : Below w.heap.size w ((w.alloc (.cells #[.string (Ba rk), .int .i64 rd, .slice p1 n1 c1] 33)).alloc (.cells #[.string (Ba rk), .int .i64 rd, .slice p2 n2 c2] 33)) := ((Below.refl _ _).alloc (Nat.le_refl _) _).alloc (by simp) _
  have HB : Hid (Below w.heap.size w ((w.alloc (.cells #[.string (Ba rk), .int .i64 rd, .slice p1 n1 c1] 33)).alloc (.cells #[.string (Ba rk), .int .i64 rd, .slice p2 n2 c2] 33))) := hba
  have HE : Hid (∀ w1, Below w.heap.size w w1 → Calls Tryd.prog 14 #[.slice p1 n1 c1, .slice p2 n2 c2] w1 fun e w' => e = .returned (.bool true) ∧ Below w1.heap.size w1 w') := fun w1 hb => by
    have := rfeq_any _ _ rv rv w1 (h1.below hb) (h2.below hb)
    rw [beq_self_eq_true] at this
    exact this
  clear h1 h2 hba
  generalize Ba rk = z at *
  go_enter Tryd.func10, Tryd.ntmps10
  go_wp2_with (go_at_call 14; refine (HE.out _ HB.out).mono ?_; rintro e w' ⟨rfl, hbb⟩)
  go_ret
  exact ⟨rfl, HB.out.trans (hbb.mono HB.out.size)⟩
set_option maxRecDepth 100000 in
set_option maxHeartbeats 2000000 in
theorem sameAll_yes (a b : Value) (l : List Rq) (w : World) (ha : Reqs w a l) (hb : Reqs w b l) :
    Calls Tryd.prog 9 #[a, b, .func (.func 10) #[] #[]] w fun e w' => e = .returned (.bool true) ∧ Below w.heap.size w w' := by
  obtain ⟨p, c, rfl, hn, hca⟩ := ha.open
  obtain ⟨p2, c2, rfl, hn2, hcb⟩ := hb.open
  have HA : Hid (∀ k (hk : k < l.length), ∃ g o q d, p = some ⟨g, o, none⟩ ∧ l.length ≤ c ∧ ∀ w1, Below w.heap.size w w1 → w1.cell? ⟨g, o + k * 3, none⟩ = some (.string (Ba l[k].1)) ∧ w1.cell? ⟨g, o + k * 3 + 1, none⟩ = some (.int .i64 l[k].2.1) ∧ w1.cell? ⟨g, o + k * 3 + 2, none⟩ = some (.slice q l[k].2.2.length d) ∧ Strs w1 (.slice q l[k].2.2.length d) l[k].2.2) := hca
  have HB : Hid (∀ k (hk : k < l.length), ∃ g o q d, p2 = some ⟨g, o, none⟩ ∧ l.length ≤ c2 ∧ ∀ w1, Below w.heap.size w w1 → w1.cell? ⟨g, o + k * 3, none⟩ = some (.string (Ba l[k].1)) ∧ w1.cell? ⟨g, o + k * 3 + 1, none⟩ = some (.int .i64 l[k].2.1) ∧ w1.cell? ⟨g, o + k * 3 + 2, none⟩ = some (.slice q l[k].2.2.length d) ∧ Strs w1 (.slice q l[k].2.2.length d) l[k].2.2) := hcb
  clear hca hcb ha hb
  unfold maxLen at hn
  go_enter Tryd.func9, Tryd.ntmps9
  go_wp2_with fail
  go_loopw [15] (fun i wr => ∃ k : Nat, k ≤ l.length ∧ i = .int .i64 k ∧ Below w.heap.size w wr) (fun i _ => l.length - (intOf i).toNat)
  case atStart => exact ⟨0, Nat.zero_le _, rfl, Below.refl _ _⟩
  case round =>
    obtain ⟨k, hk, rfl, hbel⟩ := hrel
    have HBe : Hid (Below w.heap.size w wr) := hbel
    clear hbel
    by_cases hlt : k < l.length
    · obtain ⟨g, o, q, d, rfl, hlc, hc0⟩ := HA.out k hlt
      obtain ⟨g2, o2, q2, d2, rfl, hlc2, hc02⟩ := HB.out k hlt
      obtain ⟨c1, c2', c3, c4⟩ := hc0 wr HBe.out
      obtain ⟨e1, e2', e3, e4⟩ := hc02 wr HBe.out
      have HCall : Hid (∀ w1, Below wr.heap.size wr w1 → Calls Tryd.prog 10 #[.agg #[.string (Ba l[k].1), .int .i64 l[k].2.1, .slice q l[k].2.2.length d], .agg #[.string (Ba l[k].1), .int .i64 l[k].2.1, .slice q2 l[k].2.2.length d2]] w1 fun e w' => e = .returned (.bool true) ∧ Below w1.heap.size w1 w') := fun w1 hb => sameReq_yes _ _ _ _ _ _ _ w1 (c4.below hb) (e4.below hb)
      clear hc0 hc02 c4 e4
      generalize l[k] = x at *
      obtain ⟨xk, xd, xv⟩ := x
      dsimp only at *
      generalize xv.length = nv at *
      generalize Ba xk = z at *
      go_wp2_with fail
      go_region_with (go_at_call 10; refine Calls.mono (HCall.out _ (Below.refl _ _).drew) ?_; rintro e w3 ⟨rfl, b3⟩)
      all_goals
        have HB3 : Hid (Below w.heap.size w w3) := HBe.out.drew.trans (b3.mono HBe.out.drew.size)
        clear b3
        go_wp2_with fail
        go_roundw
        case rel => exact ⟨k + 1, by omega, by go_num, HB3.out⟩
        case measure => simp [intOf]; omega
    · go_wp2_with fail
      go_ret
      exact ⟨rfl, HBe.out⟩
end Go.Proofs.YtgaopmdpcjcooaaDoor
