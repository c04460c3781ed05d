/- Contracts over this translation of what looks a field up. -/
import Derived.Test.YtaogilpkeeigoaaGreatDoorOrder
import Derived.Test.YtaogilpkeeigoaaGreatDoorRepr
import Derived.Test.YtaogilpkeeigoaaGreatDoorShelf
import Derived.WalkKit
import Derived.WalkSpells
namespace Go.Proofs.YtaogilpkeeigoaaGreatDoor
open Go.RowKit
set_option linter.unusedVariables false
set_option linter.unusedSimpArgs false
set_option maxRecDepth 100000 in
set_option maxHeartbeats 1000000 in
theorem cmp_field (a nm : ByteArray) (v : Value) (w : World) :
    Calls Tryz.prog 123 #[.agg #[.string a, v], .string nm] w fun e w' => e = .returned (.int .i64 (Lib.compareBytes a.data.toList nm.data.toList)) ∧ Below w.heap.size w w' := by
  go_enter Tryz.func123, Tryz.ntmps123
  go_wp2_with fail
  refine (Tryz.strings_Compare a nm _).mono ?_
  rintro e w1 ⟨rfl, rfl⟩
  go_wp2_with fail
  go_ret
  exact ⟨rfl, (Below.refl _ _).alloc (Nat.le_refl _) _⟩
/-- the fields lie at the head of block g -/
def Fields {α : Type} (w : World) (g : Nat) (fs : List (Bs × α)) (vs : List Value) : Prop :=
  vs.length = fs.length ∧ ∀ (i : Nat) (f : Bs × α) (u : Value), fs[i]? = some f → vs[i]? = some u → w.cell? ⟨g, i * 2, none⟩ = some (.string ⟨f.1.toArray⟩) ∧ w.cell? ⟨g, i * 2 + 1, none⟩ = some u
theorem Fields.at {α : Type} {w : World} {g : Nat} {fs : List (Bs × α)} {vs : List Value} (h : Fields w g fs vs) {i : Nat} (hi : i < fs.length) :
    ∃ (f : Bs × α) (u : Value), fs[i]? = some f ∧ w.cell? ⟨g, i * 2, none⟩ = some (.string ⟨f.1.toArray⟩) ∧ w.cell? ⟨g, i * 2 + 1, none⟩ = some u := by
  have hv : i < vs.length := by have := h.1; omega
  have h1 := h.2 i fs[i] vs[i] (List.getElem?_eq_getElem hi) (List.getElem?_eq_getElem hv)
  exact ⟨fs[i], vs[i], List.getElem?_eq_getElem hi, h1.1, h1.2⟩
theorem Fields.below {α : Type} {w w' : World} {g : Nat} {fs : List (Bs × α)} {vs : List Value} (h : Fields w g fs vs) (hb : Below w.heap.size w w') (hg : g < w.heap.size) : Fields w' g fs vs :=
  ⟨h.1, fun i f u hf hu => by
    have := h.2 i f u hf hu
    rw [hb.cell (p := ⟨g, i * 2, none⟩) hg, hb.cell (p := ⟨g, i * 2 + 1, none⟩) hg]
    exact this⟩
def LoP {α : Type} (fs : List (Bs × α)) (nm : Bs) (i : Nat) : Prop := ∀ (x : Nat) (f : Bs × α), x < i → fs[x]? = some f → less f.1 nm = true
def HiP {α : Type} (fs : List (Bs × α)) (nm : Bs) (j : Nat) : Prop := ∀ (x : Nat) (f : Bs × α), j ≤ x → fs[x]? = some f → less f.1 nm = false
theorem lo_zero {α : Type} (fs : List (Bs × α)) (nm : Bs) : LoP fs nm 0 := fun x f hx _ => absurd hx (Nat.not_lt_zero _)
theorem hi_end {α : Type} (fs : List (Bs × α)) (nm : Bs) : HiP fs nm fs.length := fun x f hx hf => by rw [List.getElem?_eq_none hx] at hf; cases hf
theorem lo_step {α : Type} {fs : List (Bs × α)} {nm : Bs} {h : Nat} {f : Bs × α} (hr : Rising fs) (hf : fs[h]? = some f) (hc : Lib.compareBytes f.1 nm < 0) : LoP fs nm (h + 1) := by
  intro x g hx hg
  rcases Nat.lt_succ_iff_lt_or_eq.1 hx with hx | rfl
  · have h1 := rising_get hr hx hg hf
    rw [less_iff] at h1 ⊢
    exact cmp_trans _ _ _ h1 hc
  · rw [hf] at hg
    cases hg
    exact (less_iff _ _).2 hc
theorem hi_step {α : Type} {fs : List (Bs × α)} {nm : Bs} {h : Nat} {f : Bs × α} (hr : Rising fs) (hf : fs[h]? = some f) (hc : ¬ Lib.compareBytes f.1 nm < 0) : HiP fs nm h := by
  intro x g hx hg
  rcases Nat.lt_or_eq_of_le hx with hx | rfl
  · have h1 := rising_get hr hx hf hg
    rw [← Bool.not_eq_true]
    intro h2
    rw [less_iff] at h1 h2
    exact hc (cmp_trans _ _ _ h1 h2)
  · rw [hf] at hg
    cases hg
    rw [← Bool.not_eq_true, less_iff]
    exact hc
theorem search_end {α : Type} {fs : List (Bs × α)} {nm : Bs} {i : Nat} (hi : i ≤ fs.length) (h1 : LoP fs nm i) (h2 : HiP fs nm i) : placeOfName fs nm = i :=
  place_of fs nm i hi h1 (fun f hf => h2 i f (Nat.le_refl _) hf)
set_option maxRecDepth 100000 in
set_option maxHeartbeats 2000000 in
theorem search_any {α : Type} (g cap : Nat) (fs : List (Bs × α)) (vs : List Value) (nm : ByteArray) (w : World) (hF : Fields w g fs vs) (hg : g < w.heap.size) (hr : Rising fs) (hl : fs.length ≤ 2000) (hc : fs.length ≤ cap) (hcm : cap ≤ maxLen) :
    Calls Tryz.prog 122 #[.slice (some ⟨g, 0, none⟩) fs.length cap, .string nm, .func (.func 123) #[] #[]] w fun e w' =>
      e = .returned (.tuple #[.int .i64 (placeOfName fs nm.data.toList), .bool (fs.any fun f => f.1 == nm.data.toList)]) ∧ Below w.heap.size w w' := by
  unfold maxLen at hcm
  have HF : Hid (Fields w g fs vs) := hF
  have HRi : Hid (Rising fs) := hr
  clear hF hr
  go_enter Tryz.func122, Tryz.ntmps122
  go_wp2_with fail
  go_loopw [9, 10] (fun x y wr => ∃ i j : Nat, x = .int .i64 i ∧ y = .int .i64 j ∧ i ≤ j ∧ j ≤ fs.length ∧ LoP fs nm.data.toList i ∧ HiP fs nm.data.toList j ∧ Below w.heap.size w wr) (fun x y _ => (intOf y).toNat - (intOf x).toNat)
  case atStart => exact ⟨0, fs.length, rfl, rfl, Nat.zero_le _, Nat.le_refl _, lo_zero _ _, hi_end _ _, Below.refl _ _⟩
  case round =>
    obtain ⟨i, j, rfl, rfl, hij, hj, hlo, hhi, hbel⟩ := hrel
    have HLo : Hid (LoP fs nm.data.toList i) := hlo
    have HHi : Hid (HiP fs nm.data.toList j) := hhi
    have HB : Hid (Below w.heap.size w wr) := hbel
    clear hlo hhi hbel
    by_cases hlt : i < j
    · obtain ⟨f, u, hf, hc1, hc2⟩ := (HF.out.below HB.out hg).at (i := (i + j) / 2) (by omega)
      have hh1 : (i + j) / 2 < fs.length := by omega
      have HFh : Hid (fs[(i + j) / 2]? = some f) := hf
      clear hf
      go_wp2_with fail
      refine (cmp_field ⟨f.1.toArray⟩ nm u wr).mono ?_
      rintro e w1 ⟨rfl, b1⟩
      have HB1 : Hid (Below w.heap.size w w1) := HB.out.trans (b1.mono HB.out.size)
      clear b1 hc1 hc2
      by_cases hcmp : Lib.compareBytes f.1 nm.data.toList < 0
      · have HC : Hid (Lib.compareBytes f.1 nm.data.toList < 0) := hcmp
        go_wp2_with fail
        go_roundw
        case rel => exact ⟨(i + j) / 2 + 1, j, by go_num, rfl, by omega, hj, lo_step HRi.out HFh.out HC.out, HHi.out, HB1.out⟩
        case measure => simp [intOf]; omega
      · have HC : Hid (¬ Lib.compareBytes f.1 nm.data.toList < 0) := hcmp
        go_wp2_with fail
        go_roundw
        case rel => exact ⟨i, (i + j) / 2, rfl, by go_num, by omega, by omega, HLo.out, hi_step HRi.out HFh.out (by have := HC.out; omega), HB1.out⟩
        case measure => simp [intOf]; omega
    · have hij' : i = j := by omega
      subst hij'
      have HP : Hid (placeOfName fs nm.data.toList = i) := search_end hj HLo.out HHi.out
      have HA : Hid ((fs.any fun f => f.1 == nm.data.toList) = (match fs[i]? with | none => false | some f => decide (Lib.compareBytes f.1 nm.data.toList = 0))) := by
        have := any_place HRi.out nm.data.toList
        rw [HP.out] at this
        exact this
      by_cases hn : i < fs.length
      · obtain ⟨f, u, hf, hc1, hc2⟩ := (HF.out.below HB.out hg).at hn
        have HA2 : Hid ((fs.any fun f => f.1 == nm.data.toList) = decide (Lib.compareBytes f.1 nm.data.toList = 0)) := by
          have := HA.out
          rw [hf] at this
          exact this
        clear hf
        go_wp2_with fail
        refine (cmp_field ⟨f.1.toArray⟩ nm u wr).mono ?_
        rintro e w1 ⟨rfl, b1⟩
        have HB1 : Hid (Below w.heap.size w w1) := HB.out.trans (b1.mono HB.out.size)
        clear b1 hc1 hc2
        go_wp2_with fail
        go_ret2
        refine ⟨?_, HB1.out⟩
        rw [HP.out, HA2.out]
        rfl
      · have HA2 : Hid ((fs.any fun f => f.1 == nm.data.toList) = false) := by
          have := HA.out
          rw [List.getElem?_eq_none (by omega)] at this
          exact this
        have hnb : decide ((i : Int) < (fs.length : Int)) = false := decide_eq_false (by omega)
        go_wp2_with fail
        go_ret2
        refine ⟨?_, HB.out⟩
        rw [HP.out, HA2.out]
        rfl
theorem find_any {α : Type} (g cap : Nat) (fs : List (Bs × α)) (vs : List Value) (nm : ByteArray) (w : World) (hF : Fields w g fs vs) (hg : g < w.heap.size) (hr : Rising fs) (hl : fs.length ≤ 2000) (hc : fs.length ≤ cap) (hcm : cap ≤ maxLen) :
    Calls Tryz.prog 99 #[.slice (some ⟨g, 0, none⟩) fs.length cap, .string nm] w fun e w' =>
      e = .returned (.tuple #[.int .i64 (placeOfName fs nm.data.toList), .bool (fs.any fun f => f.1 == nm.data.toList)]) ∧ Below w.heap.size w w' := by
  have hS := search_any g cap fs vs nm w hF hg hr hl hc hcm
  generalize (fs.any fun f => f.1 == nm.data.toList) = fo at hS ⊢
  generalize placeOfName fs nm.data.toList = pl at hS ⊢
  have HS : Hid (Calls Tryz.prog 122 #[.slice (some ⟨g, 0, none⟩) fs.length cap, .string nm, .func (.func 123) #[] #[]] w fun e w' => e = .returned (.tuple #[.int .i64 pl, .bool fo]) ∧ Below w.heap.size w w') := hS
  clear hS hF hr
  go_enter Tryz.func99, Tryz.ntmps99
  go_wp2_with fail
  refine Calls.mono HS.out ?_
  rintro e w1 ⟨rfl, b1⟩
  have HB : Hid (Below w.heap.size w w1) := b1
  clear b1
  go_wp2_with fail
  go_ret2
  exact ⟨rfl, HB.out⟩
set_option maxRecDepth 100000 in
set_option maxHeartbeats 1000000 in
theorem search_nil (nm : ByteArray) (w : World) :
    Calls Tryz.prog 122 #[.slice none 0 0, .string nm, .func (.func 123) #[] #[]] w fun e w' => e = .returned (.tuple #[.int .i64 0, .bool false]) ∧ Below w.heap.size w w' := by
  go_enter Tryz.func122, Tryz.ntmps122
  go_wp2_with fail
  go_loopw [9, 10] (fun x y wr => x = .int .i64 0 ∧ y = .int .i64 0 ∧ wr = w) (fun _ _ _ => 0)
  case atStart => exact ⟨rfl, rfl, rfl⟩
  case round =>
    obtain ⟨rfl, rfl, rfl⟩ := hrel
    go_wp2_with fail
    go_ret2
    exact ⟨rfl, Below.refl _ _⟩
theorem find_nil (nm : ByteArray) (w : World) :
    Calls Tryz.prog 99 #[.slice none 0 0, .string nm] w fun e w' => e = .returned (.tuple #[.int .i64 0, .bool false]) ∧ Below w.heap.size w w' := by
  go_enter Tryz.func99, Tryz.ntmps99
  go_wp2_with fail
  refine (search_nil nm w).mono ?_
  rintro e w1 ⟨rfl, b1⟩
  have HB : Hid (Below w.heap.size w w1) := b1
  clear b1
  go_wp2_with fail
  go_ret2
  exact ⟨rfl, HB.out⟩
end Go.Proofs.YtaogilpkeeigoaaGreatDoor
