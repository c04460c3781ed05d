/- Contract over this translation of ptr.Join, at every list of steps. -/
import Derived.Test.YthdgfehfoidnbaaDoorPtrTop
namespace Go.Proofs.YthdgfehfoidnbaaDoor
open Go.RowKit
set_option linter.unusedVariables false
set_option linter.unusedSimpArgs false
theorem joinB_snoc (l : List Bs) (s : Bs) : joinB (l ++ [s]) = joinB l ++ 47 :: written s := by
  induction l with
  | nil => simp [joinB]
  | cons x l ih => simp [joinB, ih]
theorem joinB_len (l : List Bs) : (joinB l).length ≤ 2 * (l.map List.length).sum + l.length := by
  induction l with
  | nil => simp [joinB]
  | cons x l ih =>
    have := written_len x
    simp only [joinB, List.length_cons, List.length_append, List.map_cons, List.sum_cons]
    omega
theorem sum_take_le (l : List Bs) (k : Nat) : ((l.take k).map List.length).sum ≤ (l.map List.length).sum := by
  have h : l.map List.length = (l.take k).map List.length ++ (l.drop k).map List.length := by rw [← List.map_append, List.take_append_drop]
  rw [h, List.sum_append]
  omega
theorem len_le_sum (l : List Bs) (k : Nat) (h : k < l.length) : l[k].length ≤ (l.map List.length).sum := by
  induction l generalizing k with
  | nil => simp at h
  | cons x l ih =>
    cases k with
    | zero => simp
    | succ k =>
      have := ih k (by simpa using h)
      simp only [List.getElem_cons_succ, List.map_cons, List.sum_cons]
      omega
def joinA (l : List Bs) : Array Value := if 10 < l.length then #[.string ByteArray.empty, .int .i64 2] else #[.string ⟨(joinB l).toArray⟩, .int .i64 0]
set_option maxRecDepth 100000 in
set_option maxHeartbeats 2000000 in
theorem join_any (v : Value) (l : List Bs) (w : World) (hv : Strs w v l) (hlen : l.length ≤ 8000000) (hsum : (l.map List.length).sum ≤ 8000000) (hR : Room w) :
    Calls Tryd.prog 7 #[v] w fun e w' => e = .returned (.tuple (joinA l)) ∧ Below w.heap.size w w' := by
  rcases hv with ⟨rfl, p, c, rfl⟩ | ⟨g, o, cap, rfl, hlc, hcm, hg, hcell⟩
  · go_enter Tryd.func7, Tryd.ntmps7
    go_wp2_with fail
    go_loopw [4, 12] (fun x i wr => x = .string ByteArray.empty ∧ i = .int .i64 0 ∧ wr = w) (fun _ _ _ => 0)
    case atStart => exact ⟨rfl, rfl, rfl⟩
    case round =>
      obtain ⟨rfl, rfl, rfl⟩ := hrel
      go_wp2_with fail
      go_ret2
      exact ⟨rfl, Below.refl _ _⟩
  · by_cases h10 : 10 < l.length
    · have hI : (10 : Int) < (l.length : Int) := by omega
      have HE : Hid (joinA l = #[.string ByteArray.empty, .int .i64 2]) := by
        show joinA l = _
        unfold joinA
        rw [if_pos h10]
      unfold maxLen at hcm
      clear hcell
      go_enter Tryd.func7, Tryd.ntmps7
      go_wp2_with fail
      go_ret2
      exact ⟨by rw [HE.out]; rfl, Below.refl _ _⟩
    · have hI : ¬ (10 : Int) < (l.length : Int) := by omega
      have HE : Hid (joinA l = #[.string ⟨(joinB l).toArray⟩, .int .i64 0]) := by
        show joinA l = _
        unfold joinA
        rw [if_neg h10]
      have HC : Hid (∀ w1, Below w.heap.size w w1 → ∀ k (hk : k < l.length), w1.cell? ⟨g, o + k, none⟩ = some (.string ⟨l[k].toArray⟩)) := by
        intro w1 hb k hk
        rw [hb.cell (p := ⟨g, o + k, none⟩) hg]
        exact hcell k _ (List.getElem?_eq_getElem hk)
      have HRm : Hid (Room w) := hR
      have HZ : Hid (∀ k, (joinB (l.take k)).length ≤ 16000010) := fun k => by
        have h1 := joinB_len (l.take k)
        have h2 := sum_take_le l k
        have h3 : (l.take k).length ≤ l.length := by simp; omega
        omega
      have HS : Hid (∀ k (hk : k < l.length), joinB (l.take (k + 1)) = joinB (l.take k) ++ 47 :: written l[k]) := fun k hk => by
        rw [List.take_succ_eq_append_getElem hk, joinB_snoc]
      have HL : Hid (∀ k (hk : k < l.length), l[k].length ≤ 8000000) := fun k hk => by
        have := len_le_sum l k hk
        omega
      have HAll : Hid (∀ k, l.length ≤ k → joinB (l.take k) = joinB l) := fun k hk => by rw [List.take_of_length_le hk]
      unfold maxLen at hcm
      clear hcell hR hsum h10
      go_enter Tryd.func7, Tryd.ntmps7
      go_wp2_with fail
      go_loopw [4, 12] (fun x i wr => ∃ k : Nat, k ≤ l.length ∧ i = .int .i64 k ∧ x = .string ⟨(joinB (l.take k)).toArray⟩ ∧ Below w.heap.size w wr) (fun _ i _ => l.length - (intOf i).toNat)
      case atStart => exact ⟨0, Nat.zero_le _, rfl, by simp [joinB], Below.refl _ _⟩
      case round =>
        obtain ⟨k, hk, rfl, rfl, hbel⟩ := hrel
        have HB : Hid (Below w.heap.size w wr) := hbel
        clear hbel
        by_cases hlt : k < l.length
        · have hc := HC.out wr HB.out k hlt
          have hzk := HZ.out k
          have hlk := HL.out k hlt
          have hs3 : (⟨l[k].toArray⟩ : ByteArray).size ≤ 8000000 := by rw [size_of]; exact hlk
          have HW : Hid ((⟨(joinB (l.take k)).toArray⟩ : ByteArray) ++ ((⟨#[47]⟩ : ByteArray) ++ ⟨(written (⟨l[k].toArray⟩ : ByteArray).data.toList).toArray⟩) = ⟨(joinB (l.take (k + 1))).toArray⟩) := by
            show _ = _
            rw [HS.out k hlt]
            apply ByteArray.ext
            simp [ByteArray.data_append]
          have hw2 : (⟨(written (⟨l[k].toArray⟩ : ByteArray).data.toList).toArray⟩ : ByteArray).size ≤ 16000000 := by
            rw [size_of]
            have := written_len (⟨l[k].toArray⟩ : ByteArray).data.toList
            have h9 : (⟨l[k].toArray⟩ : ByteArray).data.toList.length = l[k].length := by simp
            omega
          have hx2 : (⟨(joinB (l.take k)).toArray⟩ : ByteArray).size ≤ 16000010 := by rw [size_of]; exact hzk
          have HWr := written_any ⟨l[k].toArray⟩ wr hs3 (HRm.out.below HB.out)
          generalize (⟨(joinB (l.take k)).toArray⟩ : ByteArray) = x at *
          generalize (⟨(written (⟨l[k].toArray⟩ : ByteArray).data.toList).toArray⟩ : ByteArray) = z at *
          generalize (⟨l[k].toArray⟩ : ByteArray) = y at *
          have HWr' : Hid (Calls Tryd.prog 15 #[.string y] wr fun e w' => e = .returned (.string z) ∧ Below wr.heap.size wr w') := HWr
          clear HWr hzk
          have hq1 : ¬ 9223372036854775807 < 1 + z.size := by omega
          have hq2 : ¬ 9223372036854775807 < x.size + (1 + z.size) := by omega
          go_wp2_with fail
          refine Calls.mono HWr'.out ?_
          rintro e w3 ⟨rfl, b3⟩
          have HB3 : Hid (Below w.heap.size w w3) := HB.out.trans (b3.mono HB.out.size)
          clear b3 hc
          go_wp2_with fail
          go_roundw
          case rel => exact ⟨k + 1, by omega, by go_num, by rw [← HW.out], HB3.out⟩
          case measure => simp [intOf]; omega
        · have HA := HAll.out k (by omega)
          have HA' : Hid (joinB (l.take k) = joinB l) := HA
          clear HA
          go_wp2_with fail
          go_ret2
          exact ⟨by rw [HE.out, HA'.out]; rfl, HB.out⟩
end Go.Proofs.YthdgfehfoidnbaaDoor
