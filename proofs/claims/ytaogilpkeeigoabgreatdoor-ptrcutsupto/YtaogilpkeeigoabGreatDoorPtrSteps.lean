/- Contracts over this translation of ptr.Steps and ptr.Join. -/
import Derived.Test.YtaogilpkeeigoabGreatDoorPtrWords
import Derived.Lib.Replace
namespace Go.Proofs.YtaogilpkeeigoabGreatDoor
open Go.RowKit
set_option linter.unusedVariables false
set_option linter.unusedSimpArgs false
theorem rep_le (old new : Bs) (h0 : old ≠ []) (h : new.length ≤ old.length) : ∀ (k : Nat) (s : Bs), s.length ≤ k → (rep old new s).length ≤ s.length
  | _, [], _ => by rw [rep_nil _ _ h0]; exact Nat.le_refl _
  | 0, c :: r, hk => by simp at hk
  | k + 1, c :: r, hk => by
    cases hp : old.isPrefixOf (c :: r) with
    | true =>
      rw [rep_hit _ _ _ h0 hp, List.length_append]
      have hl := (List.isPrefixOf_iff_prefix.1 hp).length_le
      have ho : 1 ≤ old.length := by
        cases old with
        | nil => exact absurd rfl h0
        | cons _ _ => simp
      have ih := rep_le old new h0 h k ((c :: r).drop old.length) (by rw [List.length_drop]; omega)
      rw [List.length_drop] at ih
      omega
    | false =>
      rw [rep_miss _ _ _ _ h0 hp, List.length_cons]
      have ih := rep_le old new h0 h k r (by simp at hk; omega)
      simp only [List.length_cons]
      omega
theorem esc_two (c : UInt8) : (esc c).length ≤ 2 := by
  unfold esc
  split
  · simp
  · split <;> simp
theorem written_len : ∀ s : Bs, (written s).length ≤ 2 * s.length
  | [] => by simp [written]
  | c :: s => by
    have := written_len s
    have h := esc_two c
    have e : written (c :: s) = esc c ++ written s := rfl
    rw [e, List.length_append, List.length_cons]
    omega
theorem rep_one_len (c : UInt8) (new : Bs) (hn : new.length ≤ 2) : ∀ s : Bs, (rep [c] new s).length ≤ 2 * s.length := by
  intro s
  rw [rep_one]
  induction s with
  | nil => simp
  | cons b s ih =>
    rw [List.flatMap_cons, List.length_append, List.length_cons]
    have : (if b = c then new else [b]).length ≤ 2 := by split <;> simp [hn]
    omega
theorem meantB_len : ∀ (k : Nat) (s : Bs), s.length ≤ k → (meantB s).length ≤ s.length
  | _, [], _ => Nat.le_refl _
  | 0, c :: r, hk => by simp at hk
  | k + 1, c :: r, hk => by
    by_cases hc : c = 126
    · subst hc
      cases r with
      | nil => simp [meantB]
      | cons d r =>
        rw [meantB_tilde]
        have := meantB_len k r (by simp at hk; omega)
        simp only [List.length_cons]
        omega
    · rw [meantB_other c r hc]
      have := meantB_len k r (by simp at hk; omega)
      simp only [List.length_cons]
      omega
theorem room_rep (s old new : ByteArray) (h1 : 1 ≤ old.size) (hn : new.size ≤ 2) (hs : s.size ≤ 100000000) : s.size + Lib.countB s old * new.size ≤ 140737488355328 := by
  have h := Lib.countB_le old h1 _ s (Nat.le_refl _)
  have := Nat.mul_le_mul h hn
  omega
theorem size_of (l : Bs) : (⟨l.toArray⟩ : ByteArray).size = l.length := by simp [ByteArray.size]
set_option maxRecDepth 100000 in
set_option maxHeartbeats 1000000 in
theorem clone_any (s : ByteArray) (w : World) (hs : s.size ≤ 100000000) :
    Calls Tryz.prog 94 #[.string s] w fun e w' => e = .returned (.string s) ∧ Below w.heap.size w w' := by
  go_enter Tryz.func94, Tryz.ntmps94
  go_wp2_with fail
  refine (Tryz.stringslite_Clone s _ (by omega)).mono ?_
  rintro e w1 ⟨rfl, b1⟩
  have HB : Hid (Below w.heap.size w w1) := b1
  clear b1
  go_wp2_with fail
  go_ret
  exact ⟨rfl, HB.out⟩
/-- the library's own variable stands, and is no block of ours -/
def Room (w : World) : Prop := 0 < w.heap.size ∧ ∃ m, w.cell? ⟨0, 0, none⟩ = some (.int .i64 m)
theorem Room.below {w w' : World} (h : Room w) (hb : Below w.heap.size w w') : Room w' := by
  obtain ⟨h0, m, hm⟩ := h
  exact ⟨by have := hb.size; omega, m, by rw [hb.cell (p := ⟨0, 0, none⟩) h0]; exact hm⟩
theorem Room.of {w : World} {m : Int} (h : w.cell? ⟨0, 0, none⟩ = some (.int .i64 m)) : Room w := by
  refine ⟨?_, m, h⟩
  rcases Nat.eq_zero_or_pos w.heap.size with h0 | h0
  · simp [World.cell?, h0] at h
  · exact h0
theorem ba_self (a : ByteArray) : (⟨a.data.toList.toArray⟩ : ByteArray) = a := by cases a; simp
set_option maxRecDepth 100000 in
set_option maxHeartbeats 1000000 in
theorem meant_any (s : ByteArray) (w : World) (hs : s.size ≤ 8000000) (hR : Room w) (hst : noStray s.data.toList = true) :
    Calls Tryz.prog 53 #[.string s] w fun e w' => e = .returned (.string ⟨(meantB s.data.toList).toArray⟩) ∧ Below w.heap.size w w' := by
  have hl1 : (rep [126, 49] [47] s.data.toList).length ≤ s.size := by
    have := rep_le [126, 49] [47] (by simp) (by simp) _ s.data.toList (Nat.le_refl _)
    simpa using this
  have hl2 : (rep [126, 48] [126] (rep [126, 49] [47] s.data.toList)).length ≤ s.size := by
    have := rep_le [126, 48] [126] (by simp) (by simp) _ (rep [126, 49] [47] s.data.toList) (Nat.le_refl _)
    omega
  have HE : Hid (rep [126, 48] [126] (rep [126, 49] [47] s.data.toList) = meantB s.data.toList) := rep_meant _ _ (Nat.le_refl _) hst
  have hz1 : (⟨(rep [126, 49] [47] s.data.toList).toArray⟩ : ByteArray).size ≤ 8000000 := by rw [size_of]; omega
  have hz2 : (⟨(rep [126, 48] [126] (rep [126, 49] [47] s.data.toList)).toArray⟩ : ByteArray).size ≤ 8000000 := by rw [size_of]; omega
  have HRm : Hid (Room w) := hR
  obtain ⟨h0, m, hm⟩ := hR
  clear hst hl1 hl2
  go_enter Tryz.func53, Tryz.ntmps53
  go_wp2_with fail
  refine (Tryz.strings_ReplaceAll s ⟨#[126, 49]⟩ ⟨#[47]⟩ m _ (by omega) hm (by decide) (room_rep _ _ _ (by decide) (by decide) (by omega))).mono ?_
  rintro e w1 ⟨rfl, b1⟩
  have HB1 : Hid (Below w.heap.size w w1) := b1
  obtain ⟨h01, m1, hm1⟩ := HRm.out.below b1
  rw [show Lib.replaceAll s.data.toList (⟨#[126, 49]⟩ : ByteArray).data.toList (⟨#[47]⟩ : ByteArray).data.toList = rep [126, 49] [47] s.data.toList from replaceAll_rep _ _ _ (by simp)]
  clear b1
  have HD : Hid ((⟨(rep [126, 49] [47] s.data.toList).toArray⟩ : ByteArray).data.toList = rep [126, 49] [47] s.data.toList) := by
    show _ = _
    simp
  generalize hx : (⟨(rep [126, 49] [47] s.data.toList).toArray⟩ : ByteArray) = x at *
  generalize rep [126, 49] [47] s.data.toList = y at *
  go_wp2_with fail
  refine (Tryz.strings_ReplaceAll x ⟨#[126, 48]⟩ ⟨#[126]⟩ m1 _ (by omega) hm1 (by decide) (room_rep _ _ _ (by decide) (by decide) (by omega))).mono ?_
  rintro e w2 ⟨rfl, b2⟩
  rw [show Lib.replaceAll x.data.toList (⟨#[126, 48]⟩ : ByteArray).data.toList (⟨#[126]⟩ : ByteArray).data.toList = rep [126, 48] [126] y from by rw [HD.out]; exact replaceAll_rep _ _ _ (by simp)]
  have HB2 : Hid (Below w.heap.size w w2) := HB1.out.trans (b2.mono HB1.out.size)
  clear b2
  have HZ : Hid ((⟨(rep [126, 48] [126] y).toArray⟩ : ByteArray) = ⟨(meantB s.data.toList).toArray⟩) := by show _ = _; rw [HE.out]
  generalize (⟨(rep [126, 48] [126] y).toArray⟩ : ByteArray) = z at *
  go_wp2_with fail
  refine (clone_any z _ (by omega)).mono ?_
  rintro e w3 ⟨rfl, b3⟩
  have HB3 : Hid (Below w.heap.size w w3) := HB2.out.trans (b3.mono HB2.out.size)
  clear b3
  go_wp2_with fail
  go_ret
  exact ⟨by rw [← HZ.out]; rfl, HB3.out⟩
end Go.Proofs.YtaogilpkeeigoabGreatDoor
