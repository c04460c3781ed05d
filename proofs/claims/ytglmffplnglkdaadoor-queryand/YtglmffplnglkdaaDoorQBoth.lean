/- Two selectors behind each other, of one's own: Match of them, slices.Reverse of them. -/
import Derived.Test.YtglmffplnglkdaaDoorQRev
import Derived.Test.YtglmffplnglkdaaDoorQMatch
namespace Go.Proofs.YtglmffplnglkdaaDoor
open Go.RowKit
set_option linter.unusedVariables false
set_option linter.unusedSimpArgs false
theorem RowAt.below {w w' : World} {g : Nat} {L : List (Rq × Value)} (h : RowAt w g L) (hb : Below w.heap.size w w') : RowAt w' g L := by
  obtain ⟨hg, hc⟩ := h
  refine ⟨Nat.lt_of_lt_of_le hg hb.size, fun i p hp => ?_⟩
  obtain ⟨⟨c0, c1, c2⟩, f0, f1, f2⟩ := hc i p hp
  rw [hb.cell (p := ⟨g, i * 3, none⟩) hg, hb.cell (p := ⟨g, i * 3 + 1, none⟩) hg, hb.cell (p := ⟨g, i * 3 + 2, none⟩) hg]
  rw [hb.frozen (p := ⟨g, i * 3, none⟩) hg, hb.frozen (p := ⟨g, i * 3 + 1, none⟩) hg, hb.frozen (p := ⟨g, i * 3 + 2, none⟩) hg]
  exact ⟨⟨c0, c1, c2⟩, f0, f1, f2⟩
theorem RowAt.reqs {w : World} {g : Nat} {L : List (Rq × Value)} {cap : Nat} (h : RowAt w g L) (hlc : L.length ≤ cap) (hcm : cap ≤ maxLen) (hS : ∀ p ∈ L, Strs w p.2 p.1.2.2) : Reqs w (.slice (some ⟨g, 0, none⟩) L.length cap) (L.map (·.1)) := by
  obtain ⟨hg, hc⟩ := h
  refine Or.inr ⟨g, 0, cap, by rw [List.length_map], by rw [List.length_map]; exact hlc, hcm, hg, fun i r hr => ?_⟩
  rw [List.getElem?_map] at hr
  obtain ⟨p, hp, rfl⟩ := Option.map_eq_some_iff.1 hr
  obtain ⟨⟨h1, h2, h3⟩, _⟩ := hc i p hp
  rw [Nat.zero_add]
  exact ⟨h1, h2, p.2, h3, hS p (List.mem_of_getElem? hp)⟩
/-- a row of one's own may be written -/
theorem owns_row {w : World} {B : Nat} {v : Value} {L : List (Rq × Value)} (h : w.ownsRow B 37 3 v L.length (flatR L)) : (v = .slice none 0 0 ∧ L = []) ∨ ∃ g cap, v = .slice (some ⟨g, 0, none⟩) L.length cap ∧ B ≤ g ∧ L.length ≤ cap ∧ cap ≤ maxLen ∧ RowAt w g L := by
  have h' := h
  obtain ⟨hl, ⟨rfl, h0⟩ | ⟨g, cap, cur, rfl, hB, hg, hc, hm, hs, ht⟩⟩ := h
  · exact Or.inl ⟨rfl, List.eq_nil_of_length_eq_zero h0⟩
  · rcases owns_at h' with ⟨h1, _⟩ | ⟨g', cap', he, _, hg', _, _, hcell⟩
    · cases h1
    · have : g = g' := by injection he with h1; injection h1 with h1; injection h1
      subst this
      refine Or.inr ⟨g, cap, rfl, hB, hc, hm, hg', fun i p hp => ?_⟩
      obtain ⟨h1, h2, h3⟩ := flatR_at L i p hp
      exact ⟨⟨hcell _ _ h1, hcell _ _ h2, hcell _ _ h3⟩, frozen_of_row w g _ cur _ hg, frozen_of_row w g _ cur _ hg, frozen_of_row w g _ cur _ hg⟩
set_option maxHeartbeats 1000000 in
theorem rev_none (w : World) : Calls Tryd.prog 22 #[.slice none 0 0] w fun e w' => e = .returned (.tuple #[]) ∧ Below w.heap.size w w' := by
  go_enter Tryd.func22, Tryd.ntmps22
  go_wp2_with fail
  go_loopw [2, 3] (fun x y wr => x = .int .i64 0 ∧ y = .int .i64 (-1) ∧ Below w.heap.size w wr) (fun x _ _ => 0)
  case atStart => exact ⟨rfl, by go_num, Below.refl _ _⟩
  case round =>
    obtain ⟨rfl, rfl, hbel⟩ := hrel
    have HBr : Hid (Below w.heap.size w wr) := hbel
    clear hbel
    go_wp2_with fail
    go_end0
    exact ⟨rfl, HBr.out⟩
theorem strs_slice {w : World} {v : Value} {vs : List Bs} (h : Strs w v vs) : ∃ q n c, v = .slice q n c := by
  obtain ⟨p, c, rfl, _⟩ := h.open
  exact ⟨_, _, _, rfl⟩
/-- what is known of the two behind each other: Match of them -/
def BM (w2 : World) (bv vl : Value) (x : Bool) (e : Int) : Prop := ∀ w3, Below w2.heap.size w2 w3 → Calls Tryd.prog 8 #[bv, vl] w3 fun en w' => en = .returned (.tuple #[.bool x, .int .i64 e]) ∧ Below w3.heap.size w3 w'
/-- .. and Reverse, with Match behind it -/
def BR (w w2 : World) (bv vl : Value) (x : Bool) (e : Int) : Prop := ∀ w3, Below w2.heap.size w2 w3 → Calls Tryd.prog 22 #[bv] w3 fun en w' => en = .returned (.tuple #[]) ∧ Below w.heap.size w w' ∧ Calls Tryd.prog 8 #[bv, vl] w' fun en w'' => en = .returned (.tuple #[.bool x, .int .i64 e]) ∧ Below w'.heap.size w' w''
theorem both_of (w w2 : World) (bv vl : Value) (l : List Rq) (ls : List Lb) (hO : OwnR w w.heap.size w2 bv l) (hb : Below w.heap.size w w2) (hf : ∀ r ∈ l, Fit r) (hl : Labs w vl ls) (hfl : FitL ls) (hR : Room w) :
    (∃ q c, bv = .slice q l.length c) ∧ BM w2 bv vl (matchE l ls).1 (matchE l ls).2 ∧ BR w w2 bv vl (matchE l.reverse ls).1 (matchE l.reverse ls).2 := by
  have hq := hO.reqs hb
  refine ⟨?_, fun w3 h3 => ?_, fun w3 h3 => ?_⟩
  · obtain ⟨p, c, rfl, _⟩ := hq.open
    exact ⟨p, c, rfl⟩
  · have hw3 : Below w.heap.size w w3 := hb.trans (h3.mono hb.size)
    exact match_any bv vl l ls w3 (hq.below h3) hf (hl.below hw3) hfl (hR.below hw3)
  · have hw3 : Below w.heap.size w w3 := hb.trans (h3.mono hb.size)
    have hfr : ∀ r ∈ l.reverse, Fit r := fun r hr => hf r (by simpa using hr)
    obtain ⟨L, hL, hS, hown⟩ := hO
    rcases owns_row hown with ⟨rfl, rfl⟩ | ⟨g, cap, rfl, hB, hlc, hcm, hrow⟩
    · refine (rev_none w3).mono ?_
      rintro en w4 ⟨rfl, b4⟩
      have hw4 : Below w.heap.size w w4 := hw3.trans (b4.mono hw3.size)
      refine ⟨rfl, hw4, ?_⟩
      have : l = [] := by rw [← hL]; rfl
      subst this
      exact match_any _ vl [] ls w4 (Or.inl ⟨rfl, _, _, rfl⟩) (fun r hr => by simp at hr) (hl.below hw4) hfl (hR.below hw4)
    · refine (rev_any w.heap.size g cap L w3 w (hrow.below h3) (fun p hp => strs_slice (hS p hp)) hlc hcm hB hw3).mono ?_
      rintro en w4 ⟨rfl, hr4, hw4⟩
      refine ⟨rfl, hw4, ?_⟩
      have hr5 := hr4.reqs (cap := cap) (by simpa using hlc) hcm (fun p hp => (hS p (by simpa using hp)).below hw4)
      rw [List.map_reverse, hL, List.length_reverse] at hr5
      exact match_any _ vl l.reverse ls w4 hr5 hfr (hl.below hw4) hfl (hR.below hw4)
end Go.Proofs.YtglmffplnglkdaaDoor
