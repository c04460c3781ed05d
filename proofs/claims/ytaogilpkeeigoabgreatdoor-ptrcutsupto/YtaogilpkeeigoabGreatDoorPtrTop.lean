/- Contracts over this translation of ptr.Steps and ptr.Join, at every pointer and every list of steps. -/
import Derived.Test.YtaogilpkeeigoabGreatDoorPtrSteps
namespace Go.Proofs.YtaogilpkeeigoabGreatDoor
open Go.RowKit
set_option linter.unusedVariables false
set_option linter.unusedSimpArgs false
/-- a list of texts in memory -/
def Strs (w : World) (v : Value) (l : List Bs) : Prop :=
  (l = [] ∧ ∃ p c, v = .slice p 0 c) ∨ ∃ g o cap, v = .slice (some ⟨g, o, none⟩) l.length cap ∧ l.length ≤ cap ∧ cap ≤ maxLen ∧ g < w.heap.size ∧ ∀ (i : Nat) (s : Bs), l[i]? = some s → w.cell? ⟨g, o + i, none⟩ = some (.string ⟨s.toArray⟩)
theorem Strs.below {w w' : World} {v : Value} {l : List Bs} (h : Strs w v l) (hb : Below w.heap.size w w') : Strs w' v l := by
  rcases h with h | ⟨g, o, cap, hv, h1, h2, h3, h4⟩
  · exact Or.inl h
  · refine Or.inr ⟨g, o, cap, hv, h1, h2, by have := hb.size; omega, fun i s hs => ?_⟩
    rw [hb.cell (p := ⟨g, o + i, none⟩) h3]
    exact h4 i s hs
def strV (s : Bs) : Value := .string ⟨s.toArray⟩
/-- k of the parts are as they are meant -/
def mix (L : List Bs) (k : Nat) : List Bs := (L.take k).map meantB ++ L.drop k
theorem mix_zero (L : List Bs) : mix L 0 = L := by simp [mix]
theorem mix_len (L : List Bs) (k : Nat) : (mix L k).length = L.length := by simp [mix]; omega
theorem mix_all (L : List Bs) (k : Nat) (h : L.length ≤ k) : mix L k = L.map meantB := by simp [mix, List.take_of_length_le h, List.drop_of_length_le h]
theorem mix_at (L : List Bs) (k : Nat) (h : k < L.length) : (mix L k)[k]? = some L[k] := by
  unfold mix
  rw [List.getElem?_append_right (by rw [List.length_map, List.length_take]; exact Nat.min_le_left _ _)]
  simp [Nat.min_eq_left (Nat.le_of_lt h), h]
theorem mix_step (L : List Bs) (k : Nat) (h : k < L.length) : (mix L k).set k (meantB L[k]) = mix L (k + 1) := by
  unfold mix
  have hl : ((L.take k).map meantB).length = k := by rw [List.length_map, List.length_take]; omega
  rw [List.set_append_right _ _ (by omega), List.take_succ_eq_append_getElem h, List.map_append, List.drop_eq_getElem_cons h, hl, Nat.sub_self, List.set_cons_zero]
  simp only [List.map_cons, List.map_nil, List.append_assoc, List.cons_append, List.nil_append]
def cellsL (l : List Bs) : Array Value := (l.map strV).toArray
theorem cellsL_at {l : List Bs} {k : Nat} {s : Bs} (h : l[k]? = some s) : (cellsL l)[k]? = some (strV s) := by simp [cellsL, h]
theorem cellsL_set (l : List Bs) (k : Nat) (s : Bs) : (cellsL l).setIfInBounds k (strV s) = cellsL (l.set k s) := by simp [cellsL, List.map_set]
/-- what is known of Steps' answer -/
def StepsPost (p : Bs) (w : World) (e : Ending) (w' : World) : Prop :=
  Below w.heap.size w w' ∧ ((∃ er : Nat, stepsE p = .error er ∧ er ≠ 0 ∧ er < 100 ∧ e = .returned (.tuple #[.slice none 0 0, .int .i64 er])) ∨
    ∃ (l : List Bs) (v : Value), stepsE p = .ok l ∧ e = .returned (.tuple #[v, .int .i64 0]) ∧ Strs w' v l)
theorem split_data (t : ByteArray) : (Lib.splitB ⟨#[47]⟩ 0 (Lib.countB t ⟨#[47]⟩) t).map Value.string = (parts 47 t.data.toList).map strV := by
  have h := Lib.splitB_data ⟨#[47]⟩ 0 (Lib.countB t ⟨#[47]⟩) t
  have h2 : Lib.splitK (⟨#[47]⟩ : ByteArray).data.toList 0 (Lib.countB t ⟨#[47]⟩) t.data.toList = parts 47 t.data.toList := split_parts 47 t.data.toList
  rw [h2] at h
  rw [← h, List.map_map]
  refine List.map_congr_left fun x _ => ?_
  show Value.string x = .string ⟨x.data.toList.toArray⟩
  rw [ba_self]
set_option maxRecDepth 100000 in
set_option maxHeartbeats 2000000 in
theorem steps_any (t : ByteArray) (w : World) (ht : t.size ≤ 8000000) (hR : Room w) :
    Calls Tryz.prog 33 #[.string t] w (StepsPost t.data.toList w) := by
  by_cases h0 : t.size = 0
  · have e : t = ByteArray.empty := by
      cases t with
      | mk d =>
        have : d = #[] := Array.size_eq_zero_iff.1 h0
        rw [this]
        rfl
    subst e
    clear h0 ht hR
    go_enter Tryz.func33, Tryz.ntmps33
    go_wp2_with fail
    go_ret2
    exact ⟨Below.refl _ _, Or.inr ⟨[], _, rfl, rfl, Or.inl ⟨rfl, _, _, rfl⟩⟩⟩
  have hpos : 0 < t.size := by omega
  have HN : Hid (t.data.toList ≠ []) := by
    show t.data.toList ≠ []
    intro e
    have h9 : t.data.toList.length = t.size := by simp
    rw [e] at h9
    simp only [List.length_nil] at h9
    omega
  have HH : Hid (hd t.data.toList = t[0]) := by
    have := hd_lt hpos
    rw [rest, List.drop_zero] at this
    exact this
  have hne : (t.toList == ([] : List UInt8)) = false := by
    rw [ByteArray.toList_eq, beq_eq_false_iff_ne]
    exact HN.out
  by_cases h47 : t[0] = 47
  · have hb : ((t[0].toNat : Int) != 47) = false := by rw [h47]; rfl
    have H47 : Hid (hd t.data.toList = 47) := by show _ = _; rw [HH.out, h47]
    have HS := stray_any t w ht
    cases hst : noStray t.data.toList with
    | false =>
      have HSt : Hid (noStray t.data.toList = false) := hst
      rw [hst] at HS
      have HS' : Hid (Calls Tryz.prog 50 #[.string t] w fun e w' => e = .returned (.bool true) ∧ Below w.heap.size w w') := HS
      clear HS hst h47 hR
      go_enter Tryz.func33, Tryz.ntmps33
      go_wp2_with fail
      refine Calls.mono HS'.out ?_
      rintro e w1 ⟨rfl, b1⟩
      have HB : Hid (Below w.heap.size w w1) := b1
      clear b1
      go_wp2_with fail
      go_ret2
      exact ⟨HB.out, Or.inl ⟨16, by unfold stepsE; rw [if_neg HN.out, if_pos (Or.inr HSt.out)], by decide, by decide, rfl⟩⟩
    | true =>
      have HSt : Hid (noStray t.data.toList = true) := hst
      rw [hst] at HS
      have HS' : Hid (Calls Tryz.prog 50 #[.string t] w fun e w' => e = .returned (.bool false) ∧ Below w.heap.size w w') := HS
      have HE : Hid (stepsE t.data.toList = if 10 < t.data.toList.count 47 then .error eLarge else .ok ((parts 47 t.data.toList.tail).map meantB)) := by
        show stepsE _ = _
        unfold stepsE
        rw [if_neg HN.out, if_neg (by rw [H47.out, HSt.out]; simp)]
      have HRm : Hid (Room w) := hR
      clear HS hst h47 hR
      have hcn : (Lib.countByte t.data.toList 47 : Int) ≤ 8000000 := by
        have : t.data.toList.count 47 ≤ t.data.toList.length := List.count_le_length
        have h2 : t.data.toList.length = t.size := by simp
        show ((t.data.toList.count 47 : Nat) : Int) ≤ 8000000
        omega
      by_cases hmany : (10 : Int) < (Lib.countByte t.data.toList 47 : Int)
      · have HM : Hid (10 < t.data.toList.count 47) := by
          have : (10 : Int) < ((t.data.toList.count 47 : Nat) : Int) := hmany
          show 10 < t.data.toList.count 47
          omega
        go_enter Tryz.func33, Tryz.ntmps33
        go_wp2_with fail
        refine Calls.mono HS'.out ?_
        rintro e w1 ⟨rfl, b1⟩
        have HB : Hid (Below w.heap.size w w1) := b1
        clear b1
        go_wp2_with fail
        refine (Tryz.strings_Count_one t 47 _).mono ?_
        rintro e w2 ⟨rfl, h2⟩
        have h2 := h2.symm
        subst h2
        go_wp2_with fail
        go_ret2
        exact ⟨HB.out, Or.inl ⟨2, by rw [HE.out, if_pos HM.out], by decide, by decide, rfl⟩⟩
      · have HM : Hid (¬ 10 < t.data.toList.count 47) := by
          have : ¬ (10 : Int) < ((t.data.toList.count 47 : Nat) : Int) := hmany
          show ¬ 10 < t.data.toList.count 47
          omega
        have HE2 : Hid (stepsE t.data.toList = .ok ((parts 47 t.data.toList.tail).map meantB)) := by
          show stepsE _ = _
          rw [HE.out, if_neg HM.out]
        have hx : (t.extract 1 t.size).data.toList = t.data.toList.tail := by
          rw [ext_rest, rest, List.drop_one]
        have HP : Hid (∀ s ∈ parts 47 t.data.toList.tail, noStray s = true ∧ s.length ≤ 8000000) := by
          intro s hs
          have hstr : noStray t.data.toList.tail = true := by
            cases hl : t.data.toList with
            | nil => rfl
            | cons c r =>
              have h1 := HSt.out
              have h2 := H47.out
              rw [hl] at h1 h2
              have h3 : c = 47 := h2
              rw [noStray_other c r (by rw [h3]; decide)] at h1
              exact h1
          refine ⟨(parts_stray _ _ (Nat.le_refl _) hstr s hs).1, ?_⟩
          have h3 := part_le_len 47 _ s hs
          have h4 : t.data.toList.tail.length ≤ t.data.toList.length := by simp
          have h5 : t.data.toList.length = t.size := by simp
          omega
        have HSp := split_data (t.extract 1 t.size)
        rw [hx] at HSp
        have HLn : Hid (Lib.countB (t.extract 1 t.size) ⟨#[47]⟩ + 1 = (parts 47 t.data.toList.tail).length) := by
          show _ = _
          rw [parts_len, show Lib.countB (t.extract 1 t.size) ⟨#[47]⟩ = Lib.count (t.extract 1 t.size).data.toList [47] from rfl, hx, Lib.count_one]
        have HSp' : Hid (((Lib.splitB ⟨#[47]⟩ 0 (Lib.countB (t.extract 1 t.size) ⟨#[47]⟩) (t.extract 1 t.size)).map Value.string).toArray = cellsL (parts 47 t.data.toList.tail)) := by
          show _ = _
          rw [HSp]
          rfl
        have hn10 : (parts 47 t.data.toList.tail).length ≤ 8000001 := by
          rw [parts_len]
          have h3 : t.data.toList.tail.count 47 ≤ t.data.toList.tail.length := List.count_le_length
          have h4 : t.data.toList.tail.length ≤ t.data.toList.length := by simp
          have h5 : t.data.toList.length = t.size := by simp
          omega
        clear HSp hx
        have h1 : (1 : Int) ≤ (t.size : Int) := by omega
        have hsz : (t.extract 1 t.size).size ≤ 8000000 := by simp; omega
        generalize hL : parts 47 t.data.toList.tail = L at *
        have HEL : Hid (stepsE t.data.toList = .ok (L.map meantB)) := HE2.out
        clear hL HE2 HE
        go_enter Tryz.func33, Tryz.ntmps33
        go_wp2_with fail
        refine Calls.mono HS'.out ?_
        rintro e w1 ⟨rfl, b1⟩
        have HB : Hid (Below w.heap.size w w1) := b1
        obtain ⟨_, m1, hm1⟩ := HRm.out.below b1
        have HR1 : Hid (Room w1) := HRm.out.below b1
        clear b1
        go_wp2_with fail
        refine (Tryz.strings_Count_one t 47 _).mono ?_
        rintro e w2 ⟨rfl, h2⟩
        have h2 := h2.symm
        subst h2
        go_wp2_with fail
        refine (Tryz.strings_Split (t.extract 1 t.size) ⟨#[47]⟩ m1 _ (by omega) hm1 (by decide)).mono ?_
        rintro e w2 ⟨rfl, rfl⟩
        rw [HSp'.out, HLn.out]
        have HA : Hid ((w1.alloc (.cells (cellsL L) 9)).heap[w1.heap.size]? = some (.cells (cellsL (mix L 0)) 9 (0, 0))) := by
          show _ = _
          rw [mix_zero]
          exact heap_alloc_new _ _
        have HBa : Hid (Below w1.heap.size w1 (w1.alloc (.cells (cellsL L) 9))) := (Below.refl _ _).alloc (Nat.le_refl _) _
        have hgz : w1.heap.size < (w1.alloc (.cells (cellsL L) 9)).heap.size := by simp
        generalize w1.alloc (.cells (cellsL L) 9) = w2 at *
        clear hm1
        go_wp2_with fail
        go_loopw [24] (fun i wr => ∃ k : Nat, k ≤ L.length ∧ i = .int .i64 k ∧ wr.heap[w1.heap.size]? = some (.cells (cellsL (mix L k)) 9 (0, 0)) ∧ Below w1.heap.size w1 wr) (fun i _ => L.length - (intOf i).toNat)
        case atStart => exact ⟨0, Nat.zero_le _, rfl, HA.out, HBa.out⟩
        case round =>
          obtain ⟨k, hk, rfl, hh, hbel⟩ := hrel
          have HBr : Hid (Below w1.heap.size w1 wr) := hbel
          have HHr : Hid (wr.heap[w1.heap.size]? = some (.cells (cellsL (mix L k)) 9 (0, 0))) := hh
          clear hbel hh
          by_cases hlt : k < L.length
          · have hc : wr.cell? ⟨w1.heap.size, k, none⟩ = some (.string ⟨L[k].toArray⟩) := by
              rw [cell_of_row _ _ _ _ _ _ HHr.out]
              exact cellsL_at (mix_at L k hlt)
            obtain ⟨hs1, hs2⟩ := HP.out L[k] (List.getElem_mem hlt)
            have HS1 : Hid (noStray (⟨L[k].toArray⟩ : ByteArray).data.toList = true) := by show _ = _; simpa using hs1
            have hs3 : (⟨L[k].toArray⟩ : ByteArray).size ≤ 8000000 := by rw [size_of]; exact hs2
            have HM2 : Hid ((⟨(meantB (⟨L[k].toArray⟩ : ByteArray).data.toList).toArray⟩ : ByteArray) = ⟨(meantB L[k]).toArray⟩) := by show _ = _; simp
            clear hs1 hs2
            generalize hy : (⟨L[k].toArray⟩ : ByteArray) = y at *
            go_wp2_with fail
            refine (meant_any y _ hs3 (HR1.out.below HBr.out) HS1.out).mono ?_
            rintro e w3 ⟨rfl, b3⟩
            rw [HM2.out]
            have hlr : w1.heap.size < wr.heap.size := lt_of_block HHr.out
            have HH3 : Hid (w3.heap[w1.heap.size]? = some (.cells (cellsL (mix L k)) 9 (0, 0))) := (b3.block _ hlr).trans HHr.out
            have hf : ∀ i, w3.frozen? ⟨w1.heap.size, i, none⟩ = false := fun i => frozen_of_row _ _ _ _ _ HH3.out
            have hfk := hf k
            have hck : w3.cell? ⟨w1.heap.size, k, none⟩ = some (.string y) := by
              rw [b3.cell (p := ⟨w1.heap.size, k, none⟩) hlr]
              exact hc
            have HB3 : Hid (Below w1.heap.size w1 w3) := HBr.out.trans (b3.mono HBr.out.size)
            clear b3 hf hc
            go_wp2_with fail
            go_roundw
            case rel =>
              refine ⟨k + 1, by omega, by go_num, ?_, HB3.out.setCell (Nat.le_refl _) _⟩
              have h9 := heap_setCell_same w3 w1.heap.size k _ _ (strV (meantB L[k])) HH3.out
              rw [cellsL_set, mix_step L k hlt] at h9
              exact h9
            case measure => simp [intOf]; omega
          · go_wp2_with fail
            go_ret2
            have hml := mix_all L k (by omega)
            refine ⟨HB.out.trans (HBr.out.mono HB.out.size), Or.inr ⟨L.map meantB, .slice (some ⟨w1.heap.size, 0, none⟩) L.length L.length, HEL.out, rfl, Or.inr ⟨w1.heap.size, 0, L.length, by simp, by simp, by unfold maxLen; omega, lt_of_block HHr.out, fun i s hs => ?_⟩⟩⟩
            rw [cell_of_row _ _ _ _ _ _ HHr.out, hml, Nat.zero_add]
            exact cellsL_at hs
  · have hb : ((t[0].toNat : Int) != 47) = true := by
      rw [bne_iff_ne]
      intro e
      exact h47 (UInt8.toNat_inj.1 (by show t[0].toNat = 47; omega))
    have HE : Hid (stepsE t.data.toList = .error 16) := by
      show stepsE _ = _
      unfold stepsE
      rw [if_neg HN.out, if_pos (Or.inl (by rw [HH.out]; exact h47))]
    clear h47
    go_enter Tryz.func33, Tryz.ntmps33
    go_wp2_with fail
    go_ret2
    exact ⟨Below.refl _ _, Or.inl ⟨16, HE.out, by decide, by decide, rfl⟩⟩
end Go.Proofs.YtaogilpkeeigoabGreatDoor
