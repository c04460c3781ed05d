/- Contracts over this translation: what seal.sumOf and seal.Sum answer. -/
import Derived.Test.YtmbpjbghhimedaaGreatDoorSlSum
namespace Go.Proofs.YtmbpjbghhimedaaGreatDoor
open Go.RowKit
set_option linter.unusedVariables false
set_option linter.unusedSimpArgs false
/-- a list of texts in memory -/
def Strs (w : World) (v : Value) (l : List Bs) : Prop :=
  (l = [] ∧ ∃ p c, v = .slice p 0 c) ∨ ∃ g o cap, v = .slice (some ⟨g, o, none⟩) l.length cap ∧ l.length ≤ cap ∧ cap ≤ maxLen ∧ g < w.heap.size ∧ ∀ (i : Nat) (s : Bs), l[i]? = some s → w.cell? ⟨g, o + i, none⟩ = some (.string (Ba s))
theorem Strs.below {w w' : World} {v : Value} {l : List Bs} (h : Strs w v l) (hb : Below w.heap.size w w') : Strs w' v l := by
  rcases h with h | ⟨g, o, cap, hv, h1, h2, h3, h4⟩
  · exact Or.inl h
  · refine Or.inr ⟨g, o, cap, hv, h1, h2, by have := hb.size; omega, fun i s hs => ?_⟩
    rw [hb.cell (p := ⟨g, o + i, none⟩) h3]
    exact h4 i s hs
theorem Strs.form {w : World} {v : Value} {l : List Bs} (h : Strs w v l) : ∃ p c, v = .slice p l.length c ∧ l.length ≤ maxLen := by
  rcases h with ⟨rfl, p, c, h⟩ | ⟨g, o, cap, h, h1, h2, _⟩
  · exact ⟨p, c, h, Nat.zero_le _⟩
  · exact ⟨_, _, h, Nat.le_trans h1 h2⟩
/-- .. taken apart: where its cells are, in all worlds that have grown -/
theorem Strs.open {w : World} {v : Value} {l : List Bs} (h : Strs w v l) : ∃ p c, v = .slice p l.length c ∧ l.length ≤ maxLen ∧ ∀ k (hk : k < l.length), ∃ g o, p = some ⟨g, o, none⟩ ∧ l.length ≤ c ∧ ∀ w1, Below w.heap.size w w1 → w1.cell? ⟨g, o + k, none⟩ = some (.string (Ba l[k])) := by
  rcases h with ⟨rfl, p, c, h⟩ | ⟨g, o, cap, h, h1, h2, h3, h4⟩
  · exact ⟨p, c, h, Nat.zero_le _, fun k hk => by simp at hk⟩
  · exact ⟨_, cap, h, Nat.le_trans h1 h2, fun k hk => ⟨g, o, rfl, h1, fun w1 hb => by rw [hb.cell (p := ⟨g, o + k, none⟩) h3]; exact h4 k _ (List.getElem?_eq_getElem hk)⟩⟩
/-- the Sum of a text -/
def sumP (s : Bs) : Bs := sumH (feedP newP s)
set_option maxRecDepth 100000 in
set_option maxHeartbeats 8000000 in
theorem sumOf_any (v : Value) (l : List Bs) (w : World) (hv : Strs w v l) (hl : ∀ x ∈ l, x.length ≤ maxLen) (hc : Cub w) :
    Calls Tryz.prog 60 #[v] w fun e w' => e = .returned (.string (Ba (sumP l.flatten))) ∧ Below w.heap.size w w' := by
  obtain ⟨p, c, rfl, hn, hcell⟩ := hv.open
  have HC : Hid (∀ k (hk : k < l.length), ∃ g o, p = some ⟨g, o, none⟩ ∧ l.length ≤ c ∧ ∀ w1, Below w.heap.size w w1 → w1.cell? ⟨g, o + k, none⟩ = some (.string (Ba l[k]))) := hcell
  have HLn : Hid (∀ k (hk : k < l.length), l[k].length ≤ maxLen) := fun k hk => hl _ (List.getElem_mem hk)
  have HT : Hid (∀ k (hk : k < l.length), (l.take (k + 1)).flatten = (l.take k).flatten ++ l[k]) := fun k hk => by
    show _ = _
    rw [List.take_succ_eq_append_getElem hk, List.flatten_append]
    simp
  have hgk := hc.1
  have HCub : Hid (Cub w) := hc
  have HNew : Hid (Calls Tryz.prog 88 #[] w fun e w' => ∃ b, w.heap.size ≤ b ∧ e = .returned (.pointer (some ⟨b, 0, none⟩)) ∧ HashAt b newP w' ∧ Below w.heap.size w w') := new_any w
  unfold maxLen at hn
  clear hcell hv hl hc
  go_enter Tryz.func60, Tryz.ntmps60
  go_wp2_with fail
  refine Calls.mono HNew.out ?_
  rintro e w1 ⟨b, hb, rfl, a1, b1⟩
  have HA1 : Hid (HashAt b (feedP newP (l.take 0).flatten) w1) := a1
  have HB1 : Hid (Below w.heap.size w w1) := b1
  have hbne : b ≠ 6 := by omega
  clear a1 b1
  go_wp2_with fail
  go_loopw [9] (fun i wr => ∃ k : Nat, k ≤ l.length ∧ i = .int .i64 k ∧ HashAt b (feedP newP (l.take k).flatten) wr ∧ Below w.heap.size w wr) (fun i _ => l.length - (intOf i).toNat)
  case atStart => exact ⟨0, Nat.zero_le _, rfl, HA1.out, HB1.out⟩
  case round =>
    obtain ⟨k, hk, rfl, hat, hbel⟩ := hrel
    have HB : Hid (Below w.heap.size w wr) := hbel
    have HA : Hid (HashAt b (feedP newP (l.take k).flatten) wr) := hat
    clear hbel hat
    by_cases hlt : k < l.length
    · obtain ⟨g, o, rfl, hlc, hc0⟩ := HC.out k hlt
      have ck := hc0 wr HB.out
      have HW : Hid (∀ w2, HashAt b (feedP newP (l.take k).flatten) w2 → Below w.heap.size w w2 → Calls Tryz.prog 89 #[.pointer (some ⟨b, 0, none⟩), .string (Ba l[k])] w2 fun e w' => e = .returned (.tuple #[]) ∧ HashAt b (feedP newP (l.take (k + 1)).flatten) w' ∧ Cub w' ∧ G b w2 w') := fun w2 ha hbw => by
        have h := write_any b (feedP newP (l.take k).flatten) l[k] w2 (feedP_ok _ newP_ok) ha (HCub.out.below hbw) hbne (HLn.out k hlt)
        rw [← feedP_append, ← HT.out k hlt] at h
        exact h
      clear hc0
      generalize Ba l[k] = sk at *
      go_wp2_with fail
      refine Calls.mono (HW.out _ HA.out HB.out) ?_
      rintro e w2 ⟨rfl, a2, c2, g2⟩
      have HA2 : Hid (HashAt b (feedP newP (l.take (k + 1)).flatten) w2) := a2
      have HB2 : Hid (Below w.heap.size w w2) := HB.out.trans (g2.below hb HB.out.size)
      clear a2 c2 g2
      go_wp2_with fail
      go_roundw
      case rel => exact ⟨k + 1, by omega, by go_num, HA2.out, HB2.out⟩
      case measure => simp [intOf]; omega
    · have hke : k = l.length := by omega
      have HS : Hid (Calls Tryz.prog 90 #[.pointer (some ⟨b, 0, none⟩)] wr fun e w' => e = .returned (.string (Ba (sumP l.flatten))) ∧ Below wr.heap.size wr w') := by
        have h := hsum_any b _ wr (feedP_ok _ newP_ok) HA.out (HCub.out.below HB.out)
        rw [hke, List.take_length] at h
        exact h
      clear hke
      go_wp2_with fail
      refine Calls.mono HS.out ?_
      rintro e w5 ⟨rfl, b5⟩
      have HB5 : Hid (Below w.heap.size w w5) := HB.out.trans (b5.mono HB.out.size)
      clear b5
      go_wp2_with fail
      go_ret
      exact ⟨rfl, HB5.out⟩
set_option maxRecDepth 100000 in
set_option maxHeartbeats 4000000 in
theorem sum_any (s : Bs) (w : World) (hs : s.length ≤ maxLen) (hc : Cub w) :
    Calls Tryz.prog 59 #[.string (Ba s)] w fun e w' => e = .returned (.string (Ba (sumP s))) ∧ Below w.heap.size w w' := by
  have hB : Below w.heap.size w (w.alloc (.cells #[.string (Ba s)] 9)) := (Below.refl _ _).alloc (Nat.le_refl _) _
  have hS : Strs (w.alloc (.cells #[.string (Ba s)] 9)) (.slice (some ⟨w.heap.size, 0, none⟩) 1 1) [s] := by
    refine Or.inr ⟨w.heap.size, 0, 1, rfl, Nat.le_refl _, by unfold maxLen; decide, by simp, fun i x hx => ?_⟩
    match i, hx with
    | 0, hx =>
      simp only [List.getElem?_cons_zero, Option.some.injEq] at hx
      subst hx
      exact cell_at (heap_alloc_new w _) rfl
  have HSm : Hid (Calls Tryz.prog 60 #[.slice (some ⟨w.heap.size, 0, none⟩) 1 1] (w.alloc (.cells #[.string (Ba s)] 9)) fun e w' => e = .returned (.string (Ba (sumP s))) ∧ Below (w.alloc (.cells #[.string (Ba s)] 9)).heap.size (w.alloc (.cells #[.string (Ba s)] 9)) w') := by
    have h := sumOf_any _ [s] _ hS (fun x hx => by simp at hx; rw [hx]; exact hs) (hc.below hB)
    rw [show [s].flatten = s by simp] at h
    exact h
  have HB : Hid (_) := hB
  clear hS hB
  generalize Ba s = sB at *
  go_enter Tryz.func59, Tryz.ntmps59
  go_wp2_with fail
  refine Calls.mono HSm.out ?_
  rintro e w1 ⟨rfl, b1⟩
  have HB1 : Hid (Below w.heap.size w w1) := HB.out.trans (b1.mono HB.out.size)
  clear b1
  go_wp2_with fail
  go_ret
  exact ⟨rfl, HB1.out⟩
end Go.Proofs.YtmbpjbghhimedaaGreatDoor
