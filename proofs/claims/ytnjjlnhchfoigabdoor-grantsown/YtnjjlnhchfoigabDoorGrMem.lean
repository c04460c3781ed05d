/- How grants lie in memory; what looks into lists of texts. -/
import Derived.Test.YtnjjlnhchfoigabDoorGrPlain
import Derived.Test.YtnjjlnhchfoigabDoorTkName
namespace Go.Proofs.YtnjjlnhchfoigabDoor
open Go.RowKit
set_option linter.unusedVariables false
set_option linter.unusedSimpArgs false
/-- a list of texts in memory -/
def Strs (w : World) (v : Value) (l : List Bs) : Prop :=
  (l = [] ∧ ∃ p c, v = .slice p 0 c) ∨ ∃ g o cap, v = .slice (some ⟨g, o, none⟩) l.length cap ∧ l.length ≤ cap ∧ cap ≤ maxLen ∧ g < w.heap.size ∧ ∀ (i : Nat) (s : Bs), l[i]? = some s → w.cell? ⟨g, o + i, none⟩ = some (.string (Ba s))
theorem Strs.below {w w' : World} {v : Value} {l : List Bs} (h : Strs w v l) (hb : Below w.heap.size w w') : Strs w' v l := by
  rcases h with h | ⟨g, o, cap, hv, h1, h2, h3, h4⟩
  · exact Or.inl h
  · refine Or.inr ⟨g, o, cap, hv, h1, h2, by have := hb.size; omega, fun i s hs => ?_⟩
    rw [hb.cell (p := ⟨g, o + i, none⟩) h3]
    exact h4 i s hs
theorem Strs.form {w : World} {v : Value} {l : List Bs} (h : Strs w v l) : ∃ p c, v = .slice p l.length c ∧ l.length ≤ maxLen := by
  rcases h with ⟨rfl, p, c, h⟩ | ⟨g, o, cap, h, h1, h2, _⟩
  · exact ⟨p, c, h, Nat.zero_le _⟩
  · exact ⟨_, _, h, Nat.le_trans h1 h2⟩
/-- .. taken apart: where its cells are, in all worlds that have grown -/
theorem Strs.open {w : World} {v : Value} {l : List Bs} (h : Strs w v l) : ∃ p c, v = .slice p l.length c ∧ l.length ≤ maxLen ∧ ∀ k (hk : k < l.length), ∃ g o, p = some ⟨g, o, none⟩ ∧ l.length ≤ c ∧ ∀ w1, Below w.heap.size w w1 → w1.cell? ⟨g, o + k, none⟩ = some (.string (Ba l[k])) := by
  rcases h with ⟨rfl, p, c, h⟩ | ⟨g, o, cap, h, h1, h2, h3, h4⟩
  · exact ⟨p, c, h, Nat.zero_le _, fun k hk => by simp at hk⟩
  · exact ⟨_, cap, h, Nat.le_trans h1 h2, fun k hk => ⟨g, o, rfl, h1, fun w1 hb => by rw [hb.cell (p := ⟨g, o + k, none⟩) h3]; exact h4 k _ (List.getElem?_eq_getElem hk)⟩⟩
theorem Strs.take {w : World} {p : Option Addr} {n c : Nat} {l : List Bs} (h : Strs w (.slice p n c) l) {k : Nat} (hk : k ≤ l.length) : Strs w (.slice p k c) (l.take k) := by
  rcases h with ⟨rfl, p', c', h⟩ | ⟨g, o, cap, h, h1, h2, h3, h4⟩
  · have : k = 0 := by simpa using hk
    subst this
    exact Or.inl ⟨rfl, _, _, rfl⟩
  · injection h with e1 e2 e3
    subst e1 e3
    have hl : (l.take k).length = k := by rw [List.length_take]; omega
    refine Or.inr ⟨g, o, c, by rw [hl], by omega, h2, h3, fun i s hs => h4 i s ?_⟩
    rw [List.getElem?_take] at hs
    split at hs
    · exact hs
    · cases hs
/-- are all of them short enough to lie in memory? -/
def FitS (l : List Bs) : Prop := ∀ s ∈ l, s.length ≤ maxLen
def FitR (r : Rl) : Prop := FitS r.1 ∧ FitS r.2.1 ∧ FitS r.2.2
def FitO (r : Ro) : Prop := r.1.length ≤ maxLen ∧ r.2.1.length ≤ maxLen ∧ ∀ x ∈ r.2.2, FitR x
def FitB (b : Bi) : Prop := b.1.length ≤ maxLen ∧ b.2.1.length ≤ maxLen ∧ b.2.2.1.length ≤ maxLen ∧ FitS b.2.2.2.2.1 ∧ FitS b.2.2.2.2.2
/-- a row of things of some cells each -/
def Sq {α : Type} (st : Nat) (P : World → Nat → Nat → α → Prop) (w : World) (v : Value) (l : List α) : Prop :=
  (l = [] ∧ ∃ p c, v = .slice p 0 c ∧ (p = none → c = 0)) ∨ ∃ g o cap, v = .slice (some ⟨g, o, none⟩) l.length cap ∧ l.length ≤ cap ∧ cap ≤ maxLen ∧ g < w.heap.size ∧ ∀ (i : Nat) (x : α), l[i]? = some x → P w g (o + i * st) x
/-- what is said of a block stays so while that block and older ones stay -/
def Stays {α : Type} (P : World → Nat → Nat → α → Prop) : Prop := ∀ (w w' : World) (g o : Nat) (x : α), g < w.heap.size → Below w.heap.size w w' → P w g o x → P w' g o x
theorem Sq.below {α : Type} {st : Nat} {P : World → Nat → Nat → α → Prop} (hP : Stays P) {w w' : World} {v : Value} {l : List α} (h : Sq st P w v l) (hb : Below w.heap.size w w') : Sq st P w' v l := by
  rcases h with h | ⟨g, o, cap, hv, h1, h2, h3, h4⟩
  · exact Or.inl h
  · exact Or.inr ⟨g, o, cap, hv, h1, h2, by have := hb.size; omega, fun i x hx => hP w w' g _ x h3 hb (h4 i x hx)⟩
theorem Sq.form {α : Type} {st : Nat} {P : World → Nat → Nat → α → Prop} {w : World} {v : Value} {l : List α} (h : Sq st P w v l) : ∃ p c, v = .slice p l.length c ∧ l.length ≤ maxLen := by
  rcases h with ⟨rfl, p, c, h, _⟩ | ⟨g, o, cap, h, h1, h2, _⟩
  · exact ⟨p, c, h, Nat.zero_le _⟩
  · exact ⟨_, _, h, Nat.le_trans h1 h2⟩
theorem Sq.open {α : Type} {st : Nat} {P : World → Nat → Nat → α → Prop} (hP : Stays P) {w : World} {v : Value} {l : List α} (h : Sq st P w v l) :
    ∃ p c, v = .slice p l.length c ∧ l.length ≤ maxLen ∧ ∀ k (hk : k < l.length), ∃ g o, p = some ⟨g, o, none⟩ ∧ l.length ≤ c ∧ g < w.heap.size ∧ ∀ w1, Below w.heap.size w w1 → P w1 g (o + k * st) l[k] := by
  rcases h with ⟨rfl, p, c, h, _⟩ | ⟨g, o, cap, h, h1, h2, h3, h4⟩
  · exact ⟨p, c, h, Nat.zero_le _, fun k hk => by simp at hk⟩
  · exact ⟨_, cap, h, Nat.le_trans h1 h2, fun k hk => ⟨g, o, rfl, h1, h3, fun w1 hb => hP w w1 g _ _ h3 hb (h4 k _ (List.getElem?_eq_getElem hk))⟩⟩
theorem Sq.take {α : Type} {st : Nat} {P : World → Nat → Nat → α → Prop} {w : World} {p : Option Addr} {n c : Nat} {l : List α} (h : Sq st P w (.slice p n c) l) {k : Nat} (hk : k ≤ l.length) : Sq st P w (.slice p k c) (l.take k) := by
  rcases h with ⟨rfl, p', c', h, hp⟩ | ⟨g, o, cap, h, h1, h2, h3, h4⟩
  · have : k = 0 := by simpa using hk
    subst this
    injection h with e1 e2 e3
    exact Or.inl ⟨rfl, p, c, rfl, fun e => by rw [e3]; exact hp (e1 ▸ e)⟩
  · injection h with e1 e2 e3
    subst e1 e3
    have hl : (l.take k).length = k := by rw [List.length_take]; omega
    refine Or.inr ⟨g, o, c, by rw [hl], by omega, h2, h3, fun i s hs => h4 i s ?_⟩
    rw [List.getElem?_take] at hs
    split at hs
    · exact hs
    · cases hs
/-- a rule at three cells -/
def RlAt (w : World) (g o : Nat) (r : Rl) : Prop :=
  ∃ a b c, w.cell? ⟨g, o, none⟩ = some a ∧ w.cell? ⟨g, o + 1, none⟩ = some b ∧ w.cell? ⟨g, o + 2, none⟩ = some c ∧ Strs w a r.1 ∧ Strs w b r.2.1 ∧ Strs w c r.2.2
theorem rlAt_stays : Stays RlAt := by
  rintro w w' g o r hg hb ⟨a, b, c, h1, h2, h3, s1, s2, s3⟩
  refine ⟨a, b, c, ?_, ?_, ?_, s1.below hb, s2.below hb, s3.below hb⟩
  · rw [hb.cell (p := ⟨g, o, none⟩) hg]; exact h1
  · rw [hb.cell (p := ⟨g, o + 1, none⟩) hg]; exact h2
  · rw [hb.cell (p := ⟨g, o + 2, none⟩) hg]; exact h3
abbrev Rls (w : World) (v : Value) (l : List Rl) : Prop := Sq 3 RlAt w v l
/-- a role at three cells -/
def RoAt (w : World) (g o : Nat) (r : Ro) : Prop :=
  w.cell? ⟨g, o, none⟩ = some (.string (Ba r.1)) ∧ w.cell? ⟨g, o + 1, none⟩ = some (.string (Ba r.2.1)) ∧ ∃ c, w.cell? ⟨g, o + 2, none⟩ = some c ∧ Rls w c r.2.2
theorem roAt_stays : Stays RoAt := by
  rintro w w' g o r hg hb ⟨h1, h2, c, h3, s3⟩
  refine ⟨?_, ?_, c, ?_, Sq.below rlAt_stays s3 hb⟩
  · rw [hb.cell (p := ⟨g, o, none⟩) hg]; exact h1
  · rw [hb.cell (p := ⟨g, o + 1, none⟩) hg]; exact h2
  · rw [hb.cell (p := ⟨g, o + 2, none⟩) hg]; exact h3
abbrev Ros (w : World) (v : Value) (l : List Ro) : Prop := Sq 3 RoAt w v l
/-- a bind at six cells -/
def BiAt (w : World) (g o : Nat) (b : Bi) : Prop :=
  w.cell? ⟨g, o, none⟩ = some (.string (Ba b.1)) ∧ w.cell? ⟨g, o + 1, none⟩ = some (.string (Ba b.2.1)) ∧ w.cell? ⟨g, o + 2, none⟩ = some (.string (Ba b.2.2.1)) ∧ w.cell? ⟨g, o + 3, none⟩ = some (.bool b.2.2.2.1) ∧
  ∃ u v, w.cell? ⟨g, o + 4, none⟩ = some u ∧ w.cell? ⟨g, o + 5, none⟩ = some v ∧ Strs w u b.2.2.2.2.1 ∧ Strs w v b.2.2.2.2.2
theorem biAt_stays : Stays BiAt := by
  rintro w w' g o r hg hb ⟨h1, h2, h3, h4, u, v, h5, h6, s5, s6⟩
  refine ⟨?_, ?_, ?_, ?_, u, v, ?_, ?_, s5.below hb, s6.below hb⟩
  · rw [hb.cell (p := ⟨g, o, none⟩) hg]; exact h1
  · rw [hb.cell (p := ⟨g, o + 1, none⟩) hg]; exact h2
  · rw [hb.cell (p := ⟨g, o + 2, none⟩) hg]; exact h3
  · rw [hb.cell (p := ⟨g, o + 3, none⟩) hg]; exact h4
  · rw [hb.cell (p := ⟨g, o + 4, none⟩) hg]; exact h5
  · rw [hb.cell (p := ⟨g, o + 5, none⟩) hg]; exact h6
abbrev Bis (w : World) (v : Value) (l : List Bi) : Prop := Sq 6 BiAt w v l
theorem ba_beq (a b : Bs) : ((Ba a).toList == (Ba b).toList) = decide (a = b) := by
  rw [ba_list, ba_list, Bool.eq_iff_iff, beq_iff_eq, decide_eq_true_iff]
set_option maxHeartbeats 1000000 in
theorem index_of (v : Value) (l : List Bs) (s : Bs) (w : World) (hv : Strs w v l) :
    Calls Tryd.prog 69 #[v, .string (Ba s)] w fun e w' => (∃ n : Int, e = .returned (.int .i64 n) ∧ decide (0 ≤ n) = decide (s ∈ l)) ∧ w' = w := by
  obtain ⟨p, c, rfl, hn, hcell⟩ := hv.open
  have HC : Hid (∀ k (hk : k < l.length), ∃ g o, p = some ⟨g, o, none⟩ ∧ l.length ≤ c ∧ w.cell? ⟨g, o + k, none⟩ = some (.string (Ba l[k]))) := fun k hk => by
    obtain ⟨g, o, h1, h2, h3⟩ := hcell k hk
    exact ⟨g, o, h1, h2, h3 w (Below.refl _ _)⟩
  have HT : Hid (∀ k (hk : k < l.length), s = l[k] → ∀ n : Int, 0 ≤ n → decide (0 ≤ n) = decide (s ∈ l)) := fun k hk h n h0 => by
    have : s ∈ l := by rw [h]; exact List.getElem_mem hk
    simp [this, h0]
  have HF : Hid ((∀ k (hk : k < l.length), s ≠ l[k]) → decide (0 ≤ (-1 : Int)) = decide (s ∈ l)) := fun h => by
    have : s ∉ l := fun hm => by
      obtain ⟨k, hk, he⟩ := List.getElem_of_mem hm
      exact h k hk he.symm
    simp [this]
  clear hcell hv
  generalize hr : decide (s ∈ l) = r at *
  clear hr
  unfold maxLen at hn
  go_enter Tryd.func69, Tryd.ntmps69
  go_wp2_with fail
  go_loop [8] (fun i => ∃ k : Nat, k ≤ l.length ∧ i = .int .i64 k ∧ ∀ j (hj : j < l.length), j < k → s ≠ l[j]) (fun i => l.length - (intOf i).toNat)
  case atStart => exact ⟨0, Nat.zero_le _, rfl, fun j _ h => absurd h (Nat.not_lt_zero _)⟩
  case round =>
    obtain ⟨k, hk, rfl, hall⟩ := hrel
    have HA : Hid (∀ j (hj : j < l.length), j < k → s ≠ l[j]) := hall
    clear hall
    by_cases hlt : k < l.length
    · obtain ⟨g, o, rfl, hlc, hc⟩ := HC.out k hlt
      have hb := ba_beq s l[k]
      by_cases hx : s = l[k]
      · have HX : Hid (∀ n : Int, 0 ≤ n → decide (0 ≤ n) = r) := HT.out k hlt hx
        rw [decide_eq_true hx] at hb
        clear hx HA HF HT
        generalize Ba l[k] = y at *
        generalize Ba s = z at *
        go_wp2_with fail
        go_ret
        exact ⟨⟨k, rfl, HX.out k (by omega)⟩, rfl⟩
      · have HX : Hid (s ≠ l[k]) := hx
        rw [decide_eq_false hx] at hb
        clear hx HF HT
        generalize Ba l[k] = y at *
        generalize Ba s = z at *
        go_wp2_with fail
        go_round
        case rel => exact ⟨k + 1, by omega, by go_num, (fun j hj h => by
          rcases Nat.lt_succ_iff_lt_or_eq.1 h with h | h
          · exact HA.out j hj h
          · subst h; exact HX.out)⟩
        case measure => simp [intOf]; omega
    · have HX : Hid (decide (0 ≤ (-1 : Int)) = r) := HF.out (fun j hj => HA.out j hj (by omega))
      go_wp2_with fail
      go_ret
      exact ⟨⟨-1, rfl, HX.out⟩, rfl⟩
set_option maxHeartbeats 1000000 in
theorem contains_of (v : Value) (l : List Bs) (s : Bs) (w : World) (hv : Strs w v l) :
    Calls Tryd.prog 54 #[v, .string (Ba s)] w fun e w' => e = .returned (.bool (decide (s ∈ l))) ∧ w' = w := by
  have HI : Hid (Calls Tryd.prog 69 #[v, .string (Ba s)] w fun e w' => (∃ n : Int, e = .returned (.int .i64 n) ∧ decide (0 ≤ n) = decide (s ∈ l)) ∧ w' = w) := index_of v l s w hv
  obtain ⟨p, c, rfl, _⟩ := hv.form
  clear hv
  generalize decide (s ∈ l) = r at *
  go_enter Tryd.func54, Tryd.ntmps54
  go_wp2_with fail
  refine Calls.mono HI.out ?_
  rintro e w1 ⟨⟨n, rfl, hn⟩, rfl⟩
  go_wp2_with fail
  go_ret
  exact ⟨by rw [← hn]; rfl, rfl⟩
theorem box2 {w w1 : World} {a b : Value} {t : TypeId} (h : Below (w.alloc (.cells #[a, b] t)).heap.size (w.alloc (.cells #[a, b] t)) w1) :
    w1.cell? ⟨w.heap.size, 0, none⟩ = some a ∧ w1.cell? ⟨w.heap.size, 1, none⟩ = some b := by
  rw [h.cell (p := ⟨w.heap.size, 0, none⟩) (by simp), h.cell (p := ⟨w.heap.size, 1, none⟩) (by simp)]
  rw [World.cell?_alloc_at _ _ _ _ rfl, World.cell?_alloc_at _ _ _ _ rfl]
  exact ⟨rfl, rfl⟩
set_option maxHeartbeats 800000 in
theorem nm_any (s : Bs) (w : World) (hs : s.length ≤ maxLen) : Calls Tryd.prog 66 #[.string (Ba s)] w fun e w' => e = .returned (.int .i64 (nmI s)) ∧ w' = w := by
  have HC : Hid (∀ w, Calls Tryd.prog 53 #[.string (Ba s)] w fun e w' => e = .returned (.int .i64 (checkI (Ba s))) ∧ w' = w) := fun w => check_any (Ba s) w (by rw [ba_size]; exact hs)
  have hsz : (Ba s).size = s.length := ba_size s
  have HE : Hid (nmI s = if checkI (Ba s) ≠ 0 then checkI (Ba s) else if 20 < s.length then 2 else 0) := rfl
  generalize nmI s = res at *
  unfold maxLen at hs
  generalize checkI (Ba s) = c at *
  by_cases h1 : c = 0
  · have hn1 : (c != 0) = false := by simp [h1]
    by_cases h2 : 20 < s.length
    · have HX : Hid (res = 2) := by show _ = _; rw [HE.out, if_neg (by simp [h1]), if_pos h2]
      have hI : (20 : Int) < (s.length : Int) := by omega
      clear HE
      go_enter Tryd.func66, Tryd.ntmps66
      go_wp2_with fail
      refine Calls.mono (HC.out _) ?_
      rintro e w1 ⟨rfl, rfl⟩
      go_wp2_with fail
      go_ret
      exact ⟨by rw [HX.out]; rfl, rfl⟩
    · have HX : Hid (res = 0) := by show _ = _; rw [HE.out, if_neg (by simp [h1]), if_neg h2]
      have hI : ¬ (20 : Int) < (s.length : Int) := by omega
      clear HE
      go_enter Tryd.func66, Tryd.ntmps66
      go_wp2_with fail
      refine Calls.mono (HC.out _) ?_
      rintro e w1 ⟨rfl, rfl⟩
      go_wp2_with fail
      go_ret
      exact ⟨by rw [HX.out]; rfl, rfl⟩
  · have hn1 : (c != 0) = true := by simp [h1]
    have HX : Hid (res = c) := by show _ = _; rw [HE.out, if_pos h1]
    clear HE
    go_enter Tryd.func66, Tryd.ntmps66
    go_wp2_with fail
    refine Calls.mono (HC.out _) ?_
    rintro e w1 ⟨rfl, rfl⟩
    go_wp2_with fail
    go_ret
    exact ⟨by rw [HX.out]; rfl, rfl⟩
end Go.Proofs.YtnjjlnhchfoigabDoor
