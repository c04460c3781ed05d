/- Several texts in one: PtrWords, PtrSteps, PtrTop, DocQuote, DocNum. -/
import Derived.Test.YthdgfehfoidnbabGreatDoorM00
import Derived.Test.YthdgfehfoidnbabGreatDoorShelf
import Derived.WalkKit
import Derived.WalkSpells
import Derived.BigQuiet
import Derived.Lib.Replace
import Derived.Lib.ParseIntBCases
/- Contracts over this translation: signs that stand for nothing; steps as they are meant and written. -/
namespace Go.Proofs.YthdgfehfoidnbabGreatDoor
open Go.RowKit
set_option linter.unusedVariables false
set_option linter.unusedSimpArgs false
theorem hasPrefix_eq (l p : Bs) : Lib.hasPrefix l p = p.isPrefixOf l := rfl
theorem ext_rest (t : ByteArray) (p : Nat) : (t.extract p t.size).data.toList = rest t p := by
  unfold rest
  simp
  rw [List.take_of_length_le (by simp)]
theorem pre_one (t : ByteArray) (p : Nat) (c : UInt8) : Lib.hasPrefix (t.extract p t.size).data.toList [c] = (match (rest t p) with | [] => false | b :: _ => c == b) := by
  rw [hasPrefix_eq, ext_rest]
  cases rest t p with
  | nil => rfl
  | cons b r => simp [List.isPrefixOf]
theorem stray_skip {t : ByteArray} {k : Nat} (h : k < t.size) (hc : t[k] ≠ 126) : noStray (rest t k) = noStray (rest t (k + 1)) := by
  rw [rest_cons h, noStray_other _ _ hc]
theorem stray_two {t : ByteArray} {k : Nat} (h : k < t.size) (hc : t[k] = 126) (h1 : k + 1 < t.size) (hd' : t[k + 1] = 48 ∨ t[k + 1] = 49) : noStray (rest t k) = noStray (rest t (k + 1)) := by
  rw [rest_cons h, rest_cons h1, hc, noStray_tilde, noStray_other t[k + 1] _ (by rcases hd' with e | e <;> rw [e] <;> decide)]
  rcases hd' with e | e <;> rw [e] <;> rfl
theorem stray_bad {t : ByteArray} {k : Nat} (h : k < t.size) (hc : t[k] = 126) (hd' : ∀ h1 : k + 1 < t.size, t[k + 1] ≠ 48 ∧ t[k + 1] ≠ 49) : noStray (rest t k) = false := by
  rw [rest_cons h, hc]
  by_cases h1 : k + 1 < t.size
  · rw [rest_cons h1, noStray_tilde]
    have := hd' h1
    simp [this.1, this.2]
  · rw [rest_nil (by omega)]
    simp [noStray]
set_option maxRecDepth 100000 in
set_option maxHeartbeats 1000000 in
theorem stray_any (t : ByteArray) (w : World) (ht : t.size ≤ 8000000) :
    Calls Tryz.prog 44 #[.string t] w fun e w' => e = .returned (.bool (!noStray t.data.toList)) ∧ Below w.heap.size w w' := by
  go_enter Tryz.func44, Tryz.ntmps44
  go_wp2_with fail
  go_loopw [3] (fun i wr => ∃ k : Nat, k ≤ t.size ∧ i = .int .i64 k ∧ noStray t.data.toList = noStray (rest t k) ∧ Below w.heap.size w wr) (fun i _ => t.size - (intOf i).toNat)
  case atStart => exact ⟨0, Nat.zero_le _, rfl, by rw [rest, List.drop_zero], Below.refl _ _⟩
  case round =>
    obtain ⟨k, hk, rfl, hst, hbel⟩ := hrel
    have HB : Hid (Below w.heap.size w wr) := hbel
    have HS : Hid (noStray t.data.toList = noStray (rest t k)) := hst
    clear hbel hst
    by_cases hlt : k < t.size
    · by_cases hc : t[k] = 126
      · have HC : Hid (t[k] = 126) := hc
        have hcb : ((t[k].toNat : Int) == 126) = true := by rw [hc]; rfl
        have hle : (k : Int) + 1 ≤ (t.size : Int) := by omega
        clear hc
        by_cases h48 : ∃ h1 : k + 1 < t.size, t[k + 1] = 48
        · obtain ⟨h1, h48⟩ := h48
          have HP : Hid (Lib.hasPrefix (t.extract (k + 1) t.size).data.toList [48] = true) := by
            show _ = true
            rw [pre_one, rest_cons h1, h48]
            rfl
          have HE : Hid (noStray (rest t k) = noStray (rest t (k + 1))) := stray_two hlt HC.out h1 (Or.inl h48)
          clear h48
          go_wp2_with fail
          refine (Tryz.strings_HasPrefix _ _ _).mono ?_
          rintro e w1 ⟨rfl, rfl⟩
          rw [show (⟨#[48]⟩ : ByteArray).data.toList = [48] from rfl, HP.out]
          go_wp2_with fail
          go_roundw
          case rel => exact ⟨k + 1, by omega, by go_num, by rw [HS.out, HE.out], HB.out⟩
          case measure => simp [intOf]; omega
        · have HP : Hid (Lib.hasPrefix (t.extract (k + 1) t.size).data.toList [48] = false) := by
            show _ = false
            rw [pre_one]
            by_cases h1 : k + 1 < t.size
            · rw [rest_cons h1]
              simp
              exact fun e => h48 ⟨h1, e.symm⟩
            · rw [rest_nil (by omega)]
          by_cases h49 : ∃ h1 : k + 1 < t.size, t[k + 1] = 49
          · obtain ⟨h1, h49⟩ := h49
            have HP2 : Hid (Lib.hasPrefix (t.extract (k + 1) t.size).data.toList [49] = true) := by
              show _ = true
              rw [pre_one, rest_cons h1, h49]
              rfl
            have HE : Hid (noStray (rest t k) = noStray (rest t (k + 1))) := stray_two hlt HC.out h1 (Or.inr h49)
            clear h49 h48
            go_wp2_with fail
            refine (Tryz.strings_HasPrefix _ _ _).mono ?_
            rintro e w1 ⟨rfl, rfl⟩
            rw [show (⟨#[48]⟩ : ByteArray).data.toList = [48] from rfl, HP.out]
            go_wp2_with fail
            refine (Tryz.strings_HasPrefix _ _ _).mono ?_
            rintro e w1 ⟨rfl, rfl⟩
            rw [show (⟨#[49]⟩ : ByteArray).data.toList = [49] from rfl, HP2.out]
            go_wp2_with fail
            go_roundw
            case rel => exact ⟨k + 1, by omega, by go_num, by rw [HS.out, HE.out], HB.out⟩
            case measure => simp [intOf]; omega
          · have HP2 : Hid (Lib.hasPrefix (t.extract (k + 1) t.size).data.toList [49] = false) := by
              show _ = false
              rw [pre_one]
              by_cases h1 : k + 1 < t.size
              · rw [rest_cons h1]
                simp
                exact fun e => h49 ⟨h1, e.symm⟩
              · rw [rest_nil (by omega)]
            have HE : Hid (noStray (rest t k) = false) := stray_bad hlt HC.out (fun h1 => ⟨fun e => h48 ⟨h1, e⟩, fun e => h49 ⟨h1, e⟩⟩)
            clear h49 h48
            go_wp2_with fail
            refine (Tryz.strings_HasPrefix _ _ _).mono ?_
            rintro e w1 ⟨rfl, rfl⟩
            rw [show (⟨#[48]⟩ : ByteArray).data.toList = [48] from rfl, HP.out]
            go_wp2_with fail
            refine (Tryz.strings_HasPrefix _ _ _).mono ?_
            rintro e w1 ⟨rfl, rfl⟩
            rw [show (⟨#[49]⟩ : ByteArray).data.toList = [49] from rfl, HP2.out]
            go_wp2_with fail
            go_ret
            exact ⟨by rw [HS.out, HE.out]; rfl, HB.out⟩
      · have HE : Hid (noStray (rest t k) = noStray (rest t (k + 1))) := stray_skip hlt hc
        have hcb : ((t[k].toNat : Int) == 126) = false := by
          rw [beq_eq_false_iff_ne]
          intro e
          exact hc (UInt8.toNat_inj.1 (by show t[k].toNat = 126; omega))
        clear hc
        go_wp2_with fail
        go_roundw
        case rel => exact ⟨k + 1, by omega, by go_num, by rw [HS.out, HE.out], HB.out⟩
        case measure => simp [intOf]; omega
    · have HE : Hid (noStray (rest t k) = true) := by
        show noStray (rest t k) = true
        rw [rest_nil (by omega)]
        rfl
      go_wp2_with fail
      go_ret
      exact ⟨by rw [HS.out, HE.out]; rfl, HB.out⟩
end Go.Proofs.YthdgfehfoidnbabGreatDoor
/- Contracts over this translation of ptr.Steps and ptr.Join. -/
namespace Go.Proofs.YthdgfehfoidnbabGreatDoor
open Go.RowKit
set_option linter.unusedVariables false
set_option linter.unusedSimpArgs false
theorem rep_le (old new : Bs) (h0 : old ≠ []) (h : new.length ≤ old.length) : ∀ (k : Nat) (s : Bs), s.length ≤ k → (rep old new s).length ≤ s.length
  | _, [], _ => by rw [rep_nil _ _ h0]; exact Nat.le_refl _
  | 0, c :: r, hk => by simp at hk
  | k + 1, c :: r, hk => by
    cases hp : old.isPrefixOf (c :: r) with
    | true =>
      rw [rep_hit _ _ _ h0 hp, List.length_append]
      have hl := (List.isPrefixOf_iff_prefix.1 hp).length_le
      have ho : 1 ≤ old.length := by
        cases old with
        | nil => exact absurd rfl h0
        | cons _ _ => simp
      have ih := rep_le old new h0 h k ((c :: r).drop old.length) (by rw [List.length_drop]; omega)
      rw [List.length_drop] at ih
      omega
    | false =>
      rw [rep_miss _ _ _ _ h0 hp, List.length_cons]
      have ih := rep_le old new h0 h k r (by simp at hk; omega)
      simp only [List.length_cons]
      omega
theorem esc_two (c : UInt8) : (esc c).length ≤ 2 := by
  unfold esc
  split
  · simp
  · split <;> simp
theorem written_len : ∀ s : Bs, (written s).length ≤ 2 * s.length
  | [] => by simp [written]
  | c :: s => by
    have := written_len s
    have h := esc_two c
    have e : written (c :: s) = esc c ++ written s := rfl
    rw [e, List.length_append, List.length_cons]
    omega
theorem rep_one_len (c : UInt8) (new : Bs) (hn : new.length ≤ 2) : ∀ s : Bs, (rep [c] new s).length ≤ 2 * s.length := by
  intro s
  rw [rep_one]
  induction s with
  | nil => simp
  | cons b s ih =>
    rw [List.flatMap_cons, List.length_append, List.length_cons]
    have : (if b = c then new else [b]).length ≤ 2 := by split <;> simp [hn]
    omega
theorem meantB_len : ∀ (k : Nat) (s : Bs), s.length ≤ k → (meantB s).length ≤ s.length
  | _, [], _ => Nat.le_refl _
  | 0, c :: r, hk => by simp at hk
  | k + 1, c :: r, hk => by
    by_cases hc : c = 126
    · subst hc
      cases r with
      | nil => simp [meantB]
      | cons d r =>
        rw [meantB_tilde]
        have := meantB_len k r (by simp at hk; omega)
        simp only [List.length_cons]
        omega
    · rw [meantB_other c r hc]
      have := meantB_len k r (by simp at hk; omega)
      simp only [List.length_cons]
      omega
theorem room_rep (s old new : ByteArray) (h1 : 1 ≤ old.size) (hn : new.size ≤ 2) (hs : s.size ≤ 100000000) : s.size + Lib.countB s old * new.size ≤ 140737488355328 := by
  have h := Lib.countB_le old h1 _ s (Nat.le_refl _)
  have := Nat.mul_le_mul h hn
  omega
theorem size_of (l : Bs) : (⟨l.toArray⟩ : ByteArray).size = l.length := by simp [ByteArray.size]
set_option maxRecDepth 100000 in
set_option maxHeartbeats 1000000 in
theorem clone_any (s : ByteArray) (w : World) (hs : s.size ≤ 100000000) :
    Calls Tryz.prog 69 #[.string s] w fun e w' => e = .returned (.string s) ∧ Below w.heap.size w w' := by
  go_enter Tryz.func69, Tryz.ntmps69
  go_wp2_with fail
  refine (Tryz.stringslite_Clone s _ (by omega)).mono ?_
  rintro e w1 ⟨rfl, b1⟩
  have HB : Hid (Below w.heap.size w w1) := b1
  clear b1
  go_wp2_with fail
  go_ret
  exact ⟨rfl, HB.out⟩
/-- the library's own variable stands, and is no block of ours -/
def Room (w : World) : Prop := 0 < w.heap.size ∧ ∃ m, w.cell? ⟨0, 0, none⟩ = some (.int .i64 m)
theorem Room.below {w w' : World} (h : Room w) (hb : Below w.heap.size w w') : Room w' := by
  obtain ⟨h0, m, hm⟩ := h
  exact ⟨by have := hb.size; omega, m, by rw [hb.cell (p := ⟨0, 0, none⟩) h0]; exact hm⟩
theorem Room.of {w : World} {m : Int} (h : w.cell? ⟨0, 0, none⟩ = some (.int .i64 m)) : Room w := by
  refine ⟨?_, m, h⟩
  rcases Nat.eq_zero_or_pos w.heap.size with h0 | h0
  · simp [World.cell?, h0] at h
  · exact h0
theorem ba_self (a : ByteArray) : (⟨a.data.toList.toArray⟩ : ByteArray) = a := by cases a; simp
set_option maxRecDepth 100000 in
set_option maxHeartbeats 1000000 in
theorem meant_any (s : ByteArray) (w : World) (hs : s.size ≤ 8000000) (hR : Room w) (hst : noStray s.data.toList = true) :
    Calls Tryz.prog 47 #[.string s] w fun e w' => e = .returned (.string ⟨(meantB s.data.toList).toArray⟩) ∧ Below w.heap.size w w' := by
  have hl1 : (rep [126, 49] [47] s.data.toList).length ≤ s.size := by
    have := rep_le [126, 49] [47] (by simp) (by simp) _ s.data.toList (Nat.le_refl _)
    simpa using this
  have hl2 : (rep [126, 48] [126] (rep [126, 49] [47] s.data.toList)).length ≤ s.size := by
    have := rep_le [126, 48] [126] (by simp) (by simp) _ (rep [126, 49] [47] s.data.toList) (Nat.le_refl _)
    omega
  have HE : Hid (rep [126, 48] [126] (rep [126, 49] [47] s.data.toList) = meantB s.data.toList) := rep_meant _ _ (Nat.le_refl _) hst
  have hz1 : (⟨(rep [126, 49] [47] s.data.toList).toArray⟩ : ByteArray).size ≤ 8000000 := by rw [size_of]; omega
  have hz2 : (⟨(rep [126, 48] [126] (rep [126, 49] [47] s.data.toList)).toArray⟩ : ByteArray).size ≤ 8000000 := by rw [size_of]; omega
  have HRm : Hid (Room w) := hR
  obtain ⟨h0, m, hm⟩ := hR
  clear hst hl1 hl2
  go_enter Tryz.func47, Tryz.ntmps47
  go_wp2_with fail
  refine (Tryz.strings_ReplaceAll s ⟨#[126, 49]⟩ ⟨#[47]⟩ m _ (by omega) hm (by decide) (room_rep _ _ _ (by decide) (by decide) (by omega))).mono ?_
  rintro e w1 ⟨rfl, b1⟩
  have HB1 : Hid (Below w.heap.size w w1) := b1
  obtain ⟨h01, m1, hm1⟩ := HRm.out.below b1
  rw [show Lib.replaceAll s.data.toList (⟨#[126, 49]⟩ : ByteArray).data.toList (⟨#[47]⟩ : ByteArray).data.toList = rep [126, 49] [47] s.data.toList from replaceAll_rep _ _ _ (by simp)]
  clear b1
  have HD : Hid ((⟨(rep [126, 49] [47] s.data.toList).toArray⟩ : ByteArray).data.toList = rep [126, 49] [47] s.data.toList) := by
    show _ = _
    simp
  generalize hx : (⟨(rep [126, 49] [47] s.data.toList).toArray⟩ : ByteArray) = x at *
  generalize rep [126, 49] [47] s.data.toList = y at *
  go_wp2_with fail
  refine (Tryz.strings_ReplaceAll x ⟨#[126, 48]⟩ ⟨#[126]⟩ m1 _ (by omega) hm1 (by decide) (room_rep _ _ _ (by decide) (by decide) (by omega))).mono ?_
  rintro e w2 ⟨rfl, b2⟩
  rw [show Lib.replaceAll x.data.toList (⟨#[126, 48]⟩ : ByteArray).data.toList (⟨#[126]⟩ : ByteArray).data.toList = rep [126, 48] [126] y from by rw [HD.out]; exact replaceAll_rep _ _ _ (by simp)]
  have HB2 : Hid (Below w.heap.size w w2) := HB1.out.trans (b2.mono HB1.out.size)
  clear b2
  have HZ : Hid ((⟨(rep [126, 48] [126] y).toArray⟩ : ByteArray) = ⟨(meantB s.data.toList).toArray⟩) := by show _ = _; rw [HE.out]
  generalize (⟨(rep [126, 48] [126] y).toArray⟩ : ByteArray) = z at *
  go_wp2_with fail
  refine (clone_any z _ (by omega)).mono ?_
  rintro e w3 ⟨rfl, b3⟩
  have HB3 : Hid (Below w.heap.size w w3) := HB2.out.trans (b3.mono HB2.out.size)
  clear b3
  go_wp2_with fail
  go_ret
  exact ⟨by rw [← HZ.out]; rfl, HB3.out⟩
end Go.Proofs.YthdgfehfoidnbabGreatDoor
/- Contracts over this translation of ptr.Steps and ptr.Join, at every pointer and every list of steps. -/
namespace Go.Proofs.YthdgfehfoidnbabGreatDoor
open Go.RowKit
set_option linter.unusedVariables false
set_option linter.unusedSimpArgs false
/-- a list of texts in memory -/
def Strs (w : World) (v : Value) (l : List Bs) : Prop :=
  (l = [] ∧ ∃ p c, v = .slice p 0 c) ∨ ∃ g o cap, v = .slice (some ⟨g, o, none⟩) l.length cap ∧ l.length ≤ cap ∧ cap ≤ maxLen ∧ g < w.heap.size ∧ ∀ (i : Nat) (s : Bs), l[i]? = some s → w.cell? ⟨g, o + i, none⟩ = some (.string ⟨s.toArray⟩)
theorem Strs.below {w w' : World} {v : Value} {l : List Bs} (h : Strs w v l) (hb : Below w.heap.size w w') : Strs w' v l := by
  rcases h with h | ⟨g, o, cap, hv, h1, h2, h3, h4⟩
  · exact Or.inl h
  · refine Or.inr ⟨g, o, cap, hv, h1, h2, by have := hb.size; omega, fun i s hs => ?_⟩
    rw [hb.cell (p := ⟨g, o + i, none⟩) h3]
    exact h4 i s hs
def strV (s : Bs) : Value := .string ⟨s.toArray⟩
/-- k of the parts are as they are meant -/
def mix (L : List Bs) (k : Nat) : List Bs := (L.take k).map meantB ++ L.drop k
theorem mix_zero (L : List Bs) : mix L 0 = L := by simp [mix]
theorem mix_len (L : List Bs) (k : Nat) : (mix L k).length = L.length := by simp [mix]; omega
theorem mix_all (L : List Bs) (k : Nat) (h : L.length ≤ k) : mix L k = L.map meantB := by simp [mix, List.take_of_length_le h, List.drop_of_length_le h]
theorem mix_at (L : List Bs) (k : Nat) (h : k < L.length) : (mix L k)[k]? = some L[k] := by
  unfold mix
  rw [List.getElem?_append_right (by rw [List.length_map, List.length_take]; exact Nat.min_le_left _ _)]
  simp [Nat.min_eq_left (Nat.le_of_lt h), h]
theorem mix_step (L : List Bs) (k : Nat) (h : k < L.length) : (mix L k).set k (meantB L[k]) = mix L (k + 1) := by
  unfold mix
  have hl : ((L.take k).map meantB).length = k := by rw [List.length_map, List.length_take]; omega
  rw [List.set_append_right _ _ (by omega), List.take_succ_eq_append_getElem h, List.map_append, List.drop_eq_getElem_cons h, hl, Nat.sub_self, List.set_cons_zero]
  simp only [List.map_cons, List.map_nil, List.append_assoc, List.cons_append, List.nil_append]
def cellsL (l : List Bs) : Array Value := (l.map strV).toArray
theorem cellsL_at {l : List Bs} {k : Nat} {s : Bs} (h : l[k]? = some s) : (cellsL l)[k]? = some (strV s) := by simp [cellsL, h]
theorem cellsL_set (l : List Bs) (k : Nat) (s : Bs) : (cellsL l).setIfInBounds k (strV s) = cellsL (l.set k s) := by simp [cellsL, List.map_set]
/-- what is known of Steps' answer -/
def StepsPost (p : Bs) (w : World) (e : Ending) (w' : World) : Prop :=
  Below w.heap.size w w' ∧ ((∃ er : Nat, stepsE p = .error er ∧ er ≠ 0 ∧ er < 100 ∧ e = .returned (.tuple #[.slice none 0 0, .int .i64 er])) ∨
    ∃ (l : List Bs) (v : Value), stepsE p = .ok l ∧ e = .returned (.tuple #[v, .int .i64 0]) ∧ Strs w' v l)
theorem split_data (t : ByteArray) : (Lib.splitB ⟨#[47]⟩ 0 (Lib.countB t ⟨#[47]⟩) t).map Value.string = (parts 47 t.data.toList).map strV := by
  have h := Lib.splitB_data ⟨#[47]⟩ 0 (Lib.countB t ⟨#[47]⟩) t
  have h2 : Lib.splitK (⟨#[47]⟩ : ByteArray).data.toList 0 (Lib.countB t ⟨#[47]⟩) t.data.toList = parts 47 t.data.toList := split_parts 47 t.data.toList
  rw [h2] at h
  rw [← h, List.map_map]
  refine List.map_congr_left fun x _ => ?_
  show Value.string x = .string ⟨x.data.toList.toArray⟩
  rw [ba_self]
set_option maxRecDepth 100000 in
set_option maxHeartbeats 2000000 in
theorem steps_any (t : ByteArray) (w : World) (ht : t.size ≤ 8000000) (hR : Room w) :
    Calls Tryz.prog 30 #[.string t] w (StepsPost t.data.toList w) := by
  by_cases h0 : t.size = 0
  · have e : t = ByteArray.empty := by
      cases t with
      | mk d =>
        have : d = #[] := Array.size_eq_zero_iff.1 h0
        rw [this]
        rfl
    subst e
    clear h0 ht hR
    go_enter Tryz.func30, Tryz.ntmps30
    go_wp2_with fail
    go_ret2
    exact ⟨Below.refl _ _, Or.inr ⟨[], _, rfl, rfl, Or.inl ⟨rfl, _, _, rfl⟩⟩⟩
  have hpos : 0 < t.size := by omega
  have HN : Hid (t.data.toList ≠ []) := by
    show t.data.toList ≠ []
    intro e
    have h9 : t.data.toList.length = t.size := by simp
    rw [e] at h9
    simp only [List.length_nil] at h9
    omega
  have HH : Hid (hd t.data.toList = t[0]) := by
    have := hd_lt hpos
    rw [rest, List.drop_zero] at this
    exact this
  have hne : (t.toList == ([] : List UInt8)) = false := by
    rw [ByteArray.toList_eq, beq_eq_false_iff_ne]
    exact HN.out
  by_cases h47 : t[0] = 47
  · have hb : ((t[0].toNat : Int) != 47) = false := by rw [h47]; rfl
    have H47 : Hid (hd t.data.toList = 47) := by show _ = _; rw [HH.out, h47]
    have HS := stray_any t w ht
    cases hst : noStray t.data.toList with
    | false =>
      have HSt : Hid (noStray t.data.toList = false) := hst
      rw [hst] at HS
      have HS' : Hid (Calls Tryz.prog 44 #[.string t] w fun e w' => e = .returned (.bool true) ∧ Below w.heap.size w w') := HS
      clear HS hst h47 hR
      go_enter Tryz.func30, Tryz.ntmps30
      go_wp2_with fail
      refine Calls.mono HS'.out ?_
      rintro e w1 ⟨rfl, b1⟩
      have HB : Hid (Below w.heap.size w w1) := b1
      clear b1
      go_wp2_with fail
      go_ret2
      exact ⟨HB.out, Or.inl ⟨16, by unfold stepsE; rw [if_neg HN.out, if_pos (Or.inr HSt.out)], by decide, by decide, rfl⟩⟩
    | true =>
      have HSt : Hid (noStray t.data.toList = true) := hst
      rw [hst] at HS
      have HS' : Hid (Calls Tryz.prog 44 #[.string t] w fun e w' => e = .returned (.bool false) ∧ Below w.heap.size w w') := HS
      have HE : Hid (stepsE t.data.toList = if 10 < t.data.toList.count 47 then .error eLarge else .ok ((parts 47 t.data.toList.tail).map meantB)) := by
        show stepsE _ = _
        unfold stepsE
        rw [if_neg HN.out, if_neg (by rw [H47.out, HSt.out]; simp)]
      have HRm : Hid (Room w) := hR
      clear HS hst h47 hR
      have hcn : (Lib.countByte t.data.toList 47 : Int) ≤ 8000000 := by
        have : t.data.toList.count 47 ≤ t.data.toList.length := List.count_le_length
        have h2 : t.data.toList.length = t.size := by simp
        show ((t.data.toList.count 47 : Nat) : Int) ≤ 8000000
        omega
      by_cases hmany : (10 : Int) < (Lib.countByte t.data.toList 47 : Int)
      · have HM : Hid (10 < t.data.toList.count 47) := by
          have : (10 : Int) < ((t.data.toList.count 47 : Nat) : Int) := hmany
          show 10 < t.data.toList.count 47
          omega
        go_enter Tryz.func30, Tryz.ntmps30
        go_wp2_with fail
        refine Calls.mono HS'.out ?_
        rintro e w1 ⟨rfl, b1⟩
        have HB : Hid (Below w.heap.size w w1) := b1
        clear b1
        go_wp2_with fail
        refine (Tryz.strings_Count_one t 47 _).mono ?_
        rintro e w2 ⟨rfl, h2⟩
        have h2 := h2.symm
        subst h2
        go_wp2_with fail
        go_ret2
        exact ⟨HB.out, Or.inl ⟨2, by rw [HE.out, if_pos HM.out], by decide, by decide, rfl⟩⟩
      · have HM : Hid (¬ 10 < t.data.toList.count 47) := by
          have : ¬ (10 : Int) < ((t.data.toList.count 47 : Nat) : Int) := hmany
          show ¬ 10 < t.data.toList.count 47
          omega
        have HE2 : Hid (stepsE t.data.toList = .ok ((parts 47 t.data.toList.tail).map meantB)) := by
          show stepsE _ = _
          rw [HE.out, if_neg HM.out]
        have hx : (t.extract 1 t.size).data.toList = t.data.toList.tail := by
          rw [ext_rest, rest, List.drop_one]
        have HP : Hid (∀ s ∈ parts 47 t.data.toList.tail, noStray s = true ∧ s.length ≤ 8000000) := by
          intro s hs
          have hstr : noStray t.data.toList.tail = true := by
            cases hl : t.data.toList with
            | nil => rfl
            | cons c r =>
              have h1 := HSt.out
              have h2 := H47.out
              rw [hl] at h1 h2
              have h3 : c = 47 := h2
              rw [noStray_other c r (by rw [h3]; decide)] at h1
              exact h1
          refine ⟨(parts_stray _ _ (Nat.le_refl _) hstr s hs).1, ?_⟩
          have h3 := part_le_len 47 _ s hs
          have h4 : t.data.toList.tail.length ≤ t.data.toList.length := by simp
          have h5 : t.data.toList.length = t.size := by simp
          omega
        have HSp := split_data (t.extract 1 t.size)
        rw [hx] at HSp
        have HLn : Hid (Lib.countB (t.extract 1 t.size) ⟨#[47]⟩ + 1 = (parts 47 t.data.toList.tail).length) := by
          show _ = _
          rw [parts_len, show Lib.countB (t.extract 1 t.size) ⟨#[47]⟩ = Lib.count (t.extract 1 t.size).data.toList [47] from rfl, hx, Lib.count_one]
        have HSp' : Hid (((Lib.splitB ⟨#[47]⟩ 0 (Lib.countB (t.extract 1 t.size) ⟨#[47]⟩) (t.extract 1 t.size)).map Value.string).toArray = cellsL (parts 47 t.data.toList.tail)) := by
          show _ = _
          rw [HSp]
          rfl
        have hn10 : (parts 47 t.data.toList.tail).length ≤ 8000001 := by
          rw [parts_len]
          have h3 : t.data.toList.tail.count 47 ≤ t.data.toList.tail.length := List.count_le_length
          have h4 : t.data.toList.tail.length ≤ t.data.toList.length := by simp
          have h5 : t.data.toList.length = t.size := by simp
          omega
        clear HSp hx
        have h1 : (1 : Int) ≤ (t.size : Int) := by omega
        have hsz : (t.extract 1 t.size).size ≤ 8000000 := by simp; omega
        generalize hL : parts 47 t.data.toList.tail = L at *
        have HEL : Hid (stepsE t.data.toList = .ok (L.map meantB)) := HE2.out
        clear hL HE2 HE
        go_enter Tryz.func30, Tryz.ntmps30
        go_wp2_with fail
        refine Calls.mono HS'.out ?_
        rintro e w1 ⟨rfl, b1⟩
        have HB : Hid (Below w.heap.size w w1) := b1
        obtain ⟨_, m1, hm1⟩ := HRm.out.below b1
        have HR1 : Hid (Room w1) := HRm.out.below b1
        clear b1
        go_wp2_with fail
        refine (Tryz.strings_Count_one t 47 _).mono ?_
        rintro e w2 ⟨rfl, h2⟩
        have h2 := h2.symm
        subst h2
        go_wp2_with fail
        refine (Tryz.strings_Split (t.extract 1 t.size) ⟨#[47]⟩ m1 _ (by omega) hm1 (by decide)).mono ?_
        rintro e w2 ⟨rfl, rfl⟩
        rw [HSp'.out, HLn.out]
        have HA : Hid ((w1.alloc (.cells (cellsL L) 9)).heap[w1.heap.size]? = some (.cells (cellsL (mix L 0)) 9 (0, 0))) := by
          show _ = _
          rw [mix_zero]
          exact heap_alloc_new _ _
        have HBa : Hid (Below w1.heap.size w1 (w1.alloc (.cells (cellsL L) 9))) := (Below.refl _ _).alloc (Nat.le_refl _) _
        have hgz : w1.heap.size < (w1.alloc (.cells (cellsL L) 9)).heap.size := by simp
        generalize w1.alloc (.cells (cellsL L) 9) = w2 at *
        clear hm1
        go_wp2_with fail
        go_loopw [24] (fun i wr => ∃ k : Nat, k ≤ L.length ∧ i = .int .i64 k ∧ wr.heap[w1.heap.size]? = some (.cells (cellsL (mix L k)) 9 (0, 0)) ∧ Below w1.heap.size w1 wr) (fun i _ => L.length - (intOf i).toNat)
        case atStart => exact ⟨0, Nat.zero_le _, rfl, HA.out, HBa.out⟩
        case round =>
          obtain ⟨k, hk, rfl, hh, hbel⟩ := hrel
          have HBr : Hid (Below w1.heap.size w1 wr) := hbel
          have HHr : Hid (wr.heap[w1.heap.size]? = some (.cells (cellsL (mix L k)) 9 (0, 0))) := hh
          clear hbel hh
          by_cases hlt : k < L.length
          · have hc : wr.cell? ⟨w1.heap.size, k, none⟩ = some (.string ⟨L[k].toArray⟩) := by
              rw [cell_of_row _ _ _ _ _ _ HHr.out]
              exact cellsL_at (mix_at L k hlt)
            obtain ⟨hs1, hs2⟩ := HP.out L[k] (List.getElem_mem hlt)
            have HS1 : Hid (noStray (⟨L[k].toArray⟩ : ByteArray).data.toList = true) := by show _ = _; simpa using hs1
            have hs3 : (⟨L[k].toArray⟩ : ByteArray).size ≤ 8000000 := by rw [size_of]; exact hs2
            have HM2 : Hid ((⟨(meantB (⟨L[k].toArray⟩ : ByteArray).data.toList).toArray⟩ : ByteArray) = ⟨(meantB L[k]).toArray⟩) := by show _ = _; simp
            clear hs1 hs2
            generalize hy : (⟨L[k].toArray⟩ : ByteArray) = y at *
            go_wp2_with fail
            refine (meant_any y _ hs3 (HR1.out.below HBr.out) HS1.out).mono ?_
            rintro e w3 ⟨rfl, b3⟩
            rw [HM2.out]
            have hlr : w1.heap.size < wr.heap.size := lt_of_block HHr.out
            have HH3 : Hid (w3.heap[w1.heap.size]? = some (.cells (cellsL (mix L k)) 9 (0, 0))) := (b3.block _ hlr).trans HHr.out
            have hf : ∀ i, w3.frozen? ⟨w1.heap.size, i, none⟩ = false := fun i => frozen_of_row _ _ _ _ _ HH3.out
            have hfk := hf k
            have hck : w3.cell? ⟨w1.heap.size, k, none⟩ = some (.string y) := by
              rw [b3.cell (p := ⟨w1.heap.size, k, none⟩) hlr]
              exact hc
            have HB3 : Hid (Below w1.heap.size w1 w3) := HBr.out.trans (b3.mono HBr.out.size)
            clear b3 hf hc
            go_wp2_with fail
            go_roundw
            case rel =>
              refine ⟨k + 1, by omega, by go_num, ?_, HB3.out.setCell (Nat.le_refl _) _⟩
              have h9 := heap_setCell_same w3 w1.heap.size k _ _ (strV (meantB L[k])) HH3.out
              rw [cellsL_set, mix_step L k hlt] at h9
              exact h9
            case measure => simp [intOf]; omega
          · go_wp2_with fail
            go_ret2
            have hml := mix_all L k (by omega)
            refine ⟨HB.out.trans (HBr.out.mono HB.out.size), Or.inr ⟨L.map meantB, .slice (some ⟨w1.heap.size, 0, none⟩) L.length L.length, HEL.out, rfl, Or.inr ⟨w1.heap.size, 0, L.length, by simp, by simp, by unfold maxLen; omega, lt_of_block HHr.out, fun i s hs => ?_⟩⟩⟩
            rw [cell_of_row _ _ _ _ _ _ HHr.out, hml, Nat.zero_add]
            exact cellsL_at hs
  · have hb : ((t[0].toNat : Int) != 47) = true := by
      rw [bne_iff_ne]
      intro e
      exact h47 (UInt8.toNat_inj.1 (by show t[0].toNat = 47; omega))
    have HE : Hid (stepsE t.data.toList = .error 16) := by
      show stepsE _ = _
      unfold stepsE
      rw [if_neg HN.out, if_pos (Or.inl (by rw [HH.out]; exact h47))]
    clear h47
    go_enter Tryz.func30, Tryz.ntmps30
    go_wp2_with fail
    go_ret2
    exact ⟨Below.refl _ _, Or.inl ⟨16, HE.out, by decide, by decide, rfl⟩⟩
end Go.Proofs.YthdgfehfoidnbabGreatDoor
/- Plain facts on texts: a text that is quoted reads as itself. -/
namespace Go.Proofs.YthdgfehfoidnbabGreatDoor
/-- may the byte stand in a text that is meant? -/
def meant (c : UInt8) : Bool := plain c || (c == 10 || c == 9)
theorem meaning_meant (d : UInt8) (h : ¬ meaning d = 0) : meant (meaning d) = true ∧ (quoteB (meaning d)).length ≤ 2 := by
  unfold meaning at h ⊢
  split at h
  · rename_i h1
    rw [if_pos h1]
    rcases h1 with rfl | rfl <;> decide
  · rename_i h1
    rw [if_neg h1]
    split at h
    · rename_i h2
      rw [if_pos h2]
      decide
    · rename_i h2
      rw [if_neg h2]
      split at h
      · rename_i h3
        rw [if_pos h3]
        decide
      · exact absurd rfl h
theorem plain_meant (c : UInt8) (h34 : ¬ c = 34) (h92 : ¬ c = 92) (hp : plain c = true) : meant c = true ∧ (quoteB c).length ≤ 1 := by
  refine ⟨by simp [meant, hp], ?_⟩
  have h10 : c ≠ 10 := by intro e; subst e; revert hp; decide
  have h9 : c ≠ 9 := by intro e; subst e; revert hp; decide
  simp [quoteB, h10, h9, h34, h92]
theorem signs_nil : signs [] = none := by rw [signs.eq_def]
theorem signs_cons (c : UInt8) (r : Bs) : signs (c :: r) = if c = 34 then some ([], r)
    else if c = 92 then
      match r with
      | [] => none
      | d :: r' => if meaning d = 0 then none else (signs r').map fun p => (meaning d :: p.1, p.2)
    else if plain c then (signs r).map fun p => (c :: p.1, p.2)
    else none := by
  rw [signs.eq_def]
  rfl
theorem quoteB_cases (c : UInt8) (h : meant c = true) : (quoteB c = [c] ∧ c ≠ 34 ∧ c ≠ 92 ∧ plain c = true) ∨ ∃ d, quoteB c = [92, d] ∧ meaning d = c ∧ c ≠ 0 := by
  by_cases h10 : c = 10
  · subst h10; exact Or.inr ⟨110, by decide⟩
  by_cases h9 : c = 9
  · subst h9; exact Or.inr ⟨116, by decide⟩
  by_cases h34 : c = 34
  · subst h34; exact Or.inr ⟨34, by decide⟩
  by_cases h92 : c = 92
  · subst h92; exact Or.inr ⟨92, by decide⟩
  refine Or.inl ⟨by simp [quoteB, h10, h9, h34, h92], h34, h92, ?_⟩
  simpa [meant, h10, h9] using h
theorem signs_quoteB (c : UInt8) (h : meant c = true) (r : Bs) : signs (quoteB c ++ r) = (signs r).map fun p => (c :: p.1, p.2) := by
  rcases quoteB_cases c h with ⟨e, h1, h2, h3⟩ | ⟨d, e, hm, h0⟩
  · rw [e]
    show signs (c :: r) = _
    rw [signs_cons]
    simp only [h1, h2, h3, if_true, if_false]
  · rw [e]
    show signs (92 :: d :: r) = _
    rw [signs_cons]
    simp [hm, h0]
theorem signs_quote : ∀ (s : Bs) (_ : ∀ c ∈ s, meant c = true) (r : Bs), signs (s.flatMap quoteB ++ 34 :: r) = some (s, r)
  | [], _, r => by simp [signs_cons]
  | c :: s, h, r => by
    rw [List.flatMap_cons, List.append_assoc, signs_quoteB c (h c (by simp)), signs_quote s (fun d hd => h d (by simp [hd])) r]
    rfl
theorem quoted_quote (s : Bs) (h : ∀ c ∈ s, meant c = true) (r : Bs) : quoted (quote s ++ r) = some (s, r) := by
  have : quote s ++ r = 34 :: (s.flatMap quoteB ++ 34 :: r) := by simp [quote]
  rw [this, quoted]
  simp only [hd, List.headD_cons, List.tail_cons, if_true]
  exact signs_quote s h r
theorem quote_inj {a b : Bs} (ha : ∀ c ∈ a, meant c = true) (hb : ∀ c ∈ b, meant c = true) (h : quote a = quote b) : a = b := by
  have h1 := quoted_quote a ha []
  have h2 := quoted_quote b hb []
  rw [h, h2] at h1
  simpa using h1.symm
theorem signs_meant : ∀ (n : Nat) (r : Bs) (_ : r.length ≤ n) (p : Bs × Bs), signs r = some p → (∀ c ∈ p.1, meant c = true) ∧ (p.1.flatMap quoteB).length + p.2.length < r.length
  | 0, [], _, p, h => by simp [signs_nil] at h
  | 0, _ :: _, hn, _, _ => by simp at hn
  | _ + 1, [], _, p, h => by simp [signs_nil] at h
  | n + 1, c :: r, hn, p, h => by
    rw [signs_cons] at h
    have hn' : r.length ≤ n := by simpa using hn
    split at h
    · cases h; simp
    · rename_i h34
      split at h
      · split at h
        · cases h
        · rename_i d r'
          split at h
          · cases h
          · rename_i hm
            cases hs : signs r' with
            | none => rw [hs] at h; cases h
            | some q =>
              rw [hs] at h
              cases h
              have ih := signs_meant n r' (by simp at hn'; omega) q hs
              have hd := meaning_meant d hm
              refine ⟨fun c hc => ?_, ?_⟩
              · rcases List.mem_cons.1 hc with rfl | hc
                · exact hd.1
                · exact ih.1 c hc
              · simp only [List.flatMap_cons, List.length_append, List.length_cons]
                have := ih.2
                omega
      · rename_i h92
        split at h
        · rename_i hp
          cases hs : signs r with
          | none => rw [hs] at h; cases h
          | some q =>
            rw [hs] at h
            cases h
            have ih := signs_meant n r hn' q hs
            have hd := plain_meant c h34 h92 hp
            refine ⟨fun c hc => ?_, ?_⟩
            · rcases List.mem_cons.1 hc with rfl | hc
              · exact hd.1
              · exact ih.1 c hc
            · simp only [List.flatMap_cons, List.length_append, List.length_cons]
              have := ih.2
              omega
        · cases h
theorem quoted_meant {r : Bs} {p : Bs × Bs} (h : quoted r = some p) : (∀ c ∈ p.1, meant c = true) ∧ (quote p.1).length + p.2.length ≤ r.length := by
  unfold quoted at h
  split at h
  · cases r with
    | nil => simp [signs_nil] at h
    | cons c r =>
      have := signs_meant r.length r (Nat.le_refl _) p h
      refine ⟨this.1, ?_⟩
      simp only [quote, List.length_cons, List.length_append, List.length_nil]
      have := this.2
      omega
  · cases h
end Go.Proofs.YthdgfehfoidnbabGreatDoor
/- Plain facts on numbers: digits that are read, and what they say. -/
namespace Go.Proofs.YthdgfehfoidnbabGreatDoor
set_option linter.unusedVariables false
set_option linter.unusedSimpArgs false
theorem numVal_eq (below : Bool) (ds : Bs) : numVal below ds = if below then -(decV ds : Int) else (decV ds : Int) := rfl
theorem digit_iff (c : UInt8) : isDigit c = true ↔ 48 ≤ c.toNat ∧ c.toNat ≤ 57 := by
  unfold isDigit
  simp only [Bool.and_eq_true, decide_eq_true_eq, UInt8.le_iff_toNat_le]
  exact Iff.rfl
theorem foldl_lt : ∀ (ds : Bs) (a k : Nat), (∀ c ∈ ds, isDigit c = true) → a < 10 ^ k → ds.foldl (fun n c => 10 * n + (c.toNat - 48)) a < 10 ^ (k + ds.length)
  | [], a, k, _, ha => by simpa using ha
  | c :: ds, a, k, h, ha => by
    have hc := (digit_iff c).1 (h c (by simp))
    have := foldl_lt ds (10 * a + (c.toNat - 48)) (k + 1) (fun d hd => h d (by simp [hd])) (by rw [Nat.pow_succ]; omega)
    rw [List.foldl_cons, List.length_cons]
    rw [show k + (ds.length + 1) = k + 1 + ds.length by omega]
    exact this
theorem decV_lt (ds : Bs) (h : ∀ c ∈ ds, isDigit c = true) : decV ds < 10 ^ ds.length := by
  have := foldl_lt ds 0 0 h (by simp)
  simpa [decV] using this
theorem parseM_ok : ∀ (ds : Bs) (a k M : Nat), (∀ c ∈ ds, isDigit c = true) → a < 10 ^ k → k + ds.length ≤ 18 → 10 ^ 18 ≤ M → Lib.parseUintM M a ds = .ok (ds.foldl (fun n c => 10 * n + (c.toNat - 48)) a)
  | [], a, k, M, _, ha, hk, hM => by simp [Lib.parseUintM]
  | c :: ds, a, k, M, h, ha, hk, hM => by
    have hc := (digit_iff c).1 (h c (by simp))
    have hlt : 10 * a + (c.toNat - 48) < 10 ^ (k + 1) := by rw [Nat.pow_succ]; omega
    have hle : 10 ^ (k + 1) ≤ 10 ^ 18 := Nat.pow_le_pow_right (by decide) (by simp at hk; omega)
    have ih := parseM_ok ds (10 * a + (c.toNat - 48)) (k + 1) M (fun d hd => h d (by simp [hd])) hlt (by simp at hk ⊢; omega) hM
    unfold Lib.parseUintM
    have h10 : 10 ^ k ≤ 10 ^ 17 := Nat.pow_le_pow_right (by decide) (by simp at hk; omega)
    rw [if_pos hc, if_neg (by omega), if_neg (by omega), Nat.mul_comm a 10, ih]
    rfl
theorem parse_ok (below : Bool) (ds : Bs) (h : ∀ c ∈ ds, isDigit c = true) (h0 : ds ≠ []) (h18 : ds.length ≤ 18) :
    Lib.parseIntB 64 ((if below then [45] else []) ++ ds) = .ok (numVal below ds) := by
  have hu : Lib.parseUintB 64 ds = .ok (decV ds) := by
    unfold Lib.parseUintB
    rw [if_neg h0]
    exact parseM_ok ds 0 0 _ h (by simp) (by omega) (by decide)
  have hlt := decV_lt ds h
  have hle : 10 ^ ds.length ≤ 10 ^ 18 := Nat.pow_le_pow_right (by decide) h18
  have hb : decV ds < 2 ^ 63 := by omega
  cases below with
  | true =>
    show Lib.parseIntB 64 (45 :: ds) = _
    rw [Lib.parseIntB_minus, hu]
    show (if 2 ^ 63 < decV ds then _ else _) = _
    rw [if_neg (by omega)]
    rfl
  | false =>
    show Lib.parseIntB 64 ds = _
    cases ds with
    | nil => exact absurd rfl h0
    | cons c r =>
      have hc := (digit_iff c).1 (h c (by simp))
      rw [Lib.parseIntB_plain 64 c r (by omega) (by omega), hu]
      show (if 2 ^ 63 ≤ decV (c :: r) then _ else _) = _
      rw [if_neg (by omega)]
      rfl
end Go.Proofs.YthdgfehfoidnbabGreatDoor
