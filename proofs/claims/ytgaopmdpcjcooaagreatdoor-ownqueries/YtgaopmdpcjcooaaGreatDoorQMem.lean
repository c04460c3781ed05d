/- How selectors and labels lie in memory; contracts of what looks at keys and values, at lists of bytes. -/
import Derived.Test.YtgaopmdpcjcooaaGreatDoorKeys
import Derived.Test.YtgaopmdpcjcooaaGreatDoorQPlain
namespace Go.Proofs.YtgaopmdpcjcooaaGreatDoor
open Go.RowKit
set_option linter.unusedVariables false
set_option linter.unusedSimpArgs false
abbrev Ba (s : Bs) : ByteArray := ⟨s.toArray⟩
theorem ba_size (s : Bs) : (Ba s).size = s.length := by simp [Ba, ByteArray.size]
theorem ba_list (s : Bs) : (Ba s).toList = s := by rw [ByteArray.toList_eq]
theorem ba_data (s : Bs) : (Ba s).data.toList = s := by simp [Ba]
def Room (w : World) : Prop := 0 < w.heap.size ∧ ∃ m, w.cell? ⟨0, 0, none⟩ = some (.int .i64 m)
theorem Room.below {w w' : World} (h : Room w) (hb : Below w.heap.size w w') : Room w' := by
  obtain ⟨h0, m, hm⟩ := h
  exact ⟨by have := hb.size; omega, m, by rw [hb.cell (p := ⟨0, 0, none⟩) h0]; exact hm⟩
theorem Room.of {w : World} {m : Int} (h : w.cell? ⟨0, 0, none⟩ = some (.int .i64 m)) : Room w := by
  refine ⟨?_, m, h⟩
  rcases Nat.eq_zero_or_pos w.heap.size with h0 | h0
  · simp [World.cell?, h0] at h
  · exact h0
/-- a list of texts in memory -/
def Strs (w : World) (v : Value) (l : List Bs) : Prop :=
  (l = [] ∧ ∃ p c, v = .slice p 0 c) ∨ ∃ g o cap, v = .slice (some ⟨g, o, none⟩) l.length cap ∧ l.length ≤ cap ∧ cap ≤ maxLen ∧ g < w.heap.size ∧ ∀ (i : Nat) (s : Bs), l[i]? = some s → w.cell? ⟨g, o + i, none⟩ = some (.string (Ba s))
theorem Strs.below {w w' : World} {v : Value} {l : List Bs} (h : Strs w v l) (hb : Below w.heap.size w w') : Strs w' v l := by
  rcases h with h | ⟨g, o, cap, hv, h1, h2, h3, h4⟩
  · exact Or.inl h
  · refine Or.inr ⟨g, o, cap, hv, h1, h2, by have := hb.size; omega, fun i s hs => ?_⟩
    rw [hb.cell (p := ⟨g, o + i, none⟩) h3]
    exact h4 i s hs
theorem Strs.form {w : World} {v : Value} {l : List Bs} (h : Strs w v l) : ∃ p c, v = .slice p l.length c ∧ l.length ≤ maxLen := by
  rcases h with ⟨rfl, p, c, h⟩ | ⟨g, o, cap, h, h1, h2, _⟩
  · exact ⟨p, c, h, Nat.zero_le _⟩
  · exact ⟨_, _, h, Nat.le_trans h1 h2⟩
/-- .. taken apart: where its cells are, in all worlds that have grown -/
theorem Strs.open {w : World} {v : Value} {l : List Bs} (h : Strs w v l) : ∃ p c, v = .slice p l.length c ∧ l.length ≤ maxLen ∧ ∀ k (hk : k < l.length), ∃ g o, p = some ⟨g, o, none⟩ ∧ l.length ≤ c ∧ ∀ w1, Below w.heap.size w w1 → w1.cell? ⟨g, o + k, none⟩ = some (.string (Ba l[k])) := by
  rcases h with ⟨rfl, p, c, h⟩ | ⟨g, o, cap, h, h1, h2, h3, h4⟩
  · exact ⟨p, c, h, Nat.zero_le _, fun k hk => by simp at hk⟩
  · exact ⟨_, cap, h, Nat.le_trans h1 h2, fun k hk => ⟨g, o, rfl, h1, fun w1 hb => by rw [hb.cell (p := ⟨g, o + k, none⟩) h3]; exact h4 k _ (List.getElem?_eq_getElem hk)⟩⟩
/-- is all of a part short enough to lie in memory? -/
def Fit (r : Rq) : Prop := r.1.length ≤ maxLen ∧ ∀ v ∈ r.2.2, v.length ≤ maxLen
/-- selectors in memory -/
def Reqs (w : World) (v : Value) (l : List Rq) : Prop :=
  (l = [] ∧ ∃ p c, v = .slice p 0 c) ∨ ∃ g o cap, v = .slice (some ⟨g, o, none⟩) l.length cap ∧ l.length ≤ cap ∧ cap ≤ maxLen ∧ g < w.heap.size ∧ ∀ (i : Nat) (r : Rq), l[i]? = some r →
    w.cell? ⟨g, o + i * 3, none⟩ = some (.string (Ba r.1)) ∧ w.cell? ⟨g, o + i * 3 + 1, none⟩ = some (.int .i64 r.2.1) ∧ ∃ v, w.cell? ⟨g, o + i * 3 + 2, none⟩ = some v ∧ Strs w v r.2.2
theorem Reqs.below {w w' : World} {v : Value} {l : List Rq} (h : Reqs w v l) (hb : Below w.heap.size w w') : Reqs w' v l := by
  rcases h with h | ⟨g, o, cap, hv, h1, h2, h3, h4⟩
  · exact Or.inl h
  · refine Or.inr ⟨g, o, cap, hv, h1, h2, by have := hb.size; omega, fun i s hs => ?_⟩
    rw [hb.cell (p := ⟨g, o + i * 3, none⟩) h3, hb.cell (p := ⟨g, o + i * 3 + 1, none⟩) h3, hb.cell (p := ⟨g, o + i * 3 + 2, none⟩) h3]
    obtain ⟨a, b, u, c, d⟩ := h4 i s hs
    exact ⟨a, b, u, c, d.below hb⟩
theorem Reqs.open {w : World} {v : Value} {l : List Rq} (h : Reqs w v l) : ∃ p c, v = .slice p l.length c ∧ l.length ≤ maxLen ∧ ∀ k (hk : k < l.length), ∃ g o q d, p = some ⟨g, o, none⟩ ∧ l.length ≤ c ∧ ∀ w1, Below w.heap.size w w1 →
    w1.cell? ⟨g, o + k * 3, none⟩ = some (.string (Ba l[k].1)) ∧ w1.cell? ⟨g, o + k * 3 + 1, none⟩ = some (.int .i64 l[k].2.1) ∧ w1.cell? ⟨g, o + k * 3 + 2, none⟩ = some (.slice q l[k].2.2.length d) ∧ Strs w1 (.slice q l[k].2.2.length d) l[k].2.2 := by
  rcases h with ⟨rfl, p, c, h⟩ | ⟨g, o, cap, h, h1, h2, h3, h4⟩
  · exact ⟨p, c, h, Nat.zero_le _, fun k hk => by simp at hk⟩
  · refine ⟨_, cap, h, Nat.le_trans h1 h2, fun k hk => ?_⟩
    obtain ⟨a, b, u, c, d⟩ := h4 k _ (List.getElem?_eq_getElem hk)
    obtain ⟨q, e, rfl, _⟩ := d.form
    refine ⟨g, o, q, e, rfl, h1, fun w1 hb => ?_⟩
    rw [hb.cell (p := ⟨g, o + k * 3, none⟩) h3, hb.cell (p := ⟨g, o + k * 3 + 1, none⟩) h3, hb.cell (p := ⟨g, o + k * 3 + 2, none⟩) h3]
    exact ⟨a, b, c, d.below hb⟩
/-- labels in memory -/
def Labs (w : World) (v : Value) (l : List Lb) : Prop :=
  (l = [] ∧ ∃ p c, v = .slice p 0 c) ∨ ∃ g o cap, v = .slice (some ⟨g, o, none⟩) l.length cap ∧ l.length ≤ cap ∧ cap ≤ maxLen ∧ g < w.heap.size ∧ ∀ (i : Nat) (r : Lb), l[i]? = some r →
    w.cell? ⟨g, o + i * 2, none⟩ = some (.string (Ba r.1)) ∧ w.cell? ⟨g, o + i * 2 + 1, none⟩ = some (.string (Ba r.2))
theorem Labs.below {w w' : World} {v : Value} {l : List Lb} (h : Labs w v l) (hb : Below w.heap.size w w') : Labs w' v l := by
  rcases h with h | ⟨g, o, cap, hv, h1, h2, h3, h4⟩
  · exact Or.inl h
  · refine Or.inr ⟨g, o, cap, hv, h1, h2, by have := hb.size; omega, fun i s hs => ?_⟩
    rw [hb.cell (p := ⟨g, o + i * 2, none⟩) h3, hb.cell (p := ⟨g, o + i * 2 + 1, none⟩) h3]
    exact h4 i s hs
theorem Labs.open {w : World} {v : Value} {l : List Lb} (h : Labs w v l) : ∃ p c, v = .slice p l.length c ∧ l.length ≤ maxLen ∧ ∀ k (hk : k < l.length), ∃ g o, p = some ⟨g, o, none⟩ ∧ l.length ≤ c ∧ ∀ w1, Below w.heap.size w w1 →
    ∀ j (hj : j < l.length), w1.cell? ⟨g, o + j * 2, none⟩ = some (.string (Ba l[j].1)) ∧ w1.cell? ⟨g, o + j * 2 + 1, none⟩ = some (.string (Ba l[j].2)) := by
  rcases h with ⟨rfl, p, c, h⟩ | ⟨g, o, cap, h, h1, h2, h3, h4⟩
  · exact ⟨p, c, h, Nat.zero_le _, fun k hk => by simp at hk⟩
  · refine ⟨_, cap, h, Nat.le_trans h1 h2, fun k hk => ⟨g, o, rfl, h1, fun w1 hb j hj => ?_⟩⟩
    rw [hb.cell (p := ⟨g, o + j * 2, none⟩) h3, hb.cell (p := ⟨g, o + j * 2 + 1, none⟩) h3]
    exact h4 j _ (List.getElem?_eq_getElem hj)
theorem box3 {w w1 : World} {a b c : Value} {t : TypeId} (h : Below (w.alloc (.cells #[a, b, c] t)).heap.size (w.alloc (.cells #[a, b, c] t)) w1) :
    w1.cell? ⟨w.heap.size, 0, none⟩ = some a ∧ w1.cell? ⟨w.heap.size, 1, none⟩ = some b ∧ w1.cell? ⟨w.heap.size, 2, none⟩ = some c := by
  rw [h.cell (p := ⟨w.heap.size, 0, none⟩) (by simp), h.cell (p := ⟨w.heap.size, 1, none⟩) (by simp), h.cell (p := ⟨w.heap.size, 2, none⟩) (by simp)]
  rw [World.cell?_alloc_at _ _ _ _ rfl, World.cell?_alloc_at _ _ _ _ rfl, World.cell?_alloc_at _ _ _ _ rfl]
  exact ⟨rfl, rfl, rfl⟩
theorem box2 {w w1 : World} {a b : Value} {t : TypeId} (h : Below (w.alloc (.cells #[a, b] t)).heap.size (w.alloc (.cells #[a, b] t)) w1) :
    w1.cell? ⟨w.heap.size, 0, none⟩ = some a ∧ w1.cell? ⟨w.heap.size, 1, none⟩ = some b := by
  rw [h.cell (p := ⟨w.heap.size, 0, none⟩) (by simp), h.cell (p := ⟨w.heap.size, 1, none⟩) (by simp)]
  rw [World.cell?_alloc_at _ _ _ _ rfl, World.cell?_alloc_at _ _ _ _ rfl]
  exact ⟨rfl, rfl⟩
theorem box1 {w w1 : World} {a : Value} {t : TypeId} (h : Below (w.alloc (.cells #[a] t)).heap.size (w.alloc (.cells #[a] t)) w1) :
    w1.cell? ⟨w.heap.size, 0, none⟩ = some a := by
  rw [h.cell (p := ⟨w.heap.size, 0, none⟩) (by simp)]
  rw [World.cell?_alloc_at _ _ _ _ rfl]
  rfl
theorem kI_any (s : Bs) (w : World) (hs : s.length ≤ maxLen) (hR : Room w) : Calls Tryz.prog 58 #[.string (Ba s)] w fun e w' => e = .returned (.int .i64 (kI s)) ∧ Below w.heap.size w w' := by
  obtain ⟨_, m, hm⟩ := hR
  exact key_any (Ba s) m w (by rw [ba_size]; exact hs) hm
theorem vI_any (s : Bs) (w : World) (hs : s.length ≤ maxLen) : Calls Tryz.prog 60 #[.string (Ba s)] w fun e w' => e = .returned (.int .i64 (vI s)) ∧ w' = w :=
  val_any (Ba s) w (by rw [ba_size]; exact hs)
theorem vI_cases (s : Bs) : vI s = 0 ∨ vI s = 2 ∨ vI s = 6 := by
  unfold vI valI
  split
  · simp
  · split <;> simp
end Go.Proofs.YtgaopmdpcjcooaaGreatDoor
