import Derived.Test.YtjcdklbimaclkaaGreatDoorGAc
import Derived.Test.YtjcdklbimaclkaaGreatDoorGAa
import Derived.Test.YtjcdklbimaclkaaGreatDoorShelf
import Derived.WalkKit
import Derived.WalkSpells
import Derived.Laws.CopyRow
import Derived.Laws.OwnMore
import Derived.ArgAppend
import Derived.Lib.AppendZerosOnto
import Derived.Lib.Overlaps
import Derived.Deep.RegionLaw
import Derived.Test.YtjcdklbimaclkaaGreatDoorGAg
namespace Go.Proofs.YtjcdklbimaclkaaGreatDoor
open Go.RowKit
set_option linter.unusedVariables false
set_option linter.unusedSimpArgs false
set_option maxRecDepth 100000 in
set_option maxHeartbeats 1000000 in
theorem cmp_field (a nm : ByteArray) (v : Value) (w : World) :
  Calls Tryz.prog 114 #[.agg #[.string a, v], .string nm] w fun e w' => e = .returned (.int .i64 (Lib.compareBytes a.data.toList nm.data.toList)) /\ Below w.heap.size w w' := by
 go_enter Tryz.func114, Tryz.ntmps114
 go_wp2_with fail
 refine (Tryz.strings_Compare a nm _).mono ?_
 rintro e w1 ⟨rfl, rfl⟩
 go_wp2_with fail
 go_ret
 exact ⟨rfl, (Below.refl _ _).alloc (Nat.le_refl _) _⟩
def Fields {α : Type} (w : World) (g : Nat) (fs : List (Bs × α)) (vs : List Value) : Prop :=
 vs.length = fs.length /\ ∀ (i : Nat) (f : Bs × α) (u : Value), fs[i]? = some f -> vs[i]? = some u -> w.cell? ⟨g, i * 2, none⟩ = some (.string ⟨f.1.toArray⟩) /\ w.cell? ⟨g, i * 2 + 1, none⟩ = some u
theorem Fields.at {α : Type} {w : World} {g : Nat} {fs : List (Bs × α)} {vs : List Value} (h : Fields w g fs vs) {i : Nat} (hi : i < fs.length) :
  ∃ (f : Bs × α) (u : Value), fs[i]? = some f /\ w.cell? ⟨g, i * 2, none⟩ = some (.string ⟨f.1.toArray⟩) /\ w.cell? ⟨g, i * 2 + 1, none⟩ = some u := by
 have hv : i < vs.length := by have := h.1; omega
 have h1 := h.2 i fs[i] vs[i] (List.getElem?_eq_getElem hi) (List.getElem?_eq_getElem hv)
 exact ⟨fs[i], vs[i], List.getElem?_eq_getElem hi, h1.1, h1.2⟩
theorem Fields.below {α : Type} {w w' : World} {g : Nat} {fs : List (Bs × α)} {vs : List Value} (h : Fields w g fs vs) (hb : Below w.heap.size w w') (hg : g < w.heap.size) : Fields w' g fs vs :=
 ⟨h.1, fun i f u hf hu => by
  have := h.2 i f u hf hu
  rw [hb.cell (p := ⟨g, i * 2, none⟩) hg, hb.cell (p := ⟨g, i * 2 + 1, none⟩) hg]
  exact this⟩
def LoP {α : Type} (fs : List (Bs × α)) (nm : Bs) (i : Nat) : Prop := ∀ (x : Nat) (f : Bs × α), x < i -> fs[x]? = some f -> less f.1 nm = true
def HiP {α : Type} (fs : List (Bs × α)) (nm : Bs) (j : Nat) : Prop := ∀ (x : Nat) (f : Bs × α), j <= x -> fs[x]? = some f -> less f.1 nm = false
theorem lo_zero {α : Type} (fs : List (Bs × α)) (nm : Bs) : LoP fs nm 0 := fun x f hx _ => absurd hx (Nat.not_lt_zero _)
theorem hi_end {α : Type} (fs : List (Bs × α)) (nm : Bs) : HiP fs nm fs.length := fun x f hx hf => by rw [List.getElem?_eq_none hx] at hf; cases hf
theorem lo_step {α : Type} {fs : List (Bs × α)} {nm : Bs} {h : Nat} {f : Bs × α} (hr : Rising fs) (hf : fs[h]? = some f) (hc : Lib.compareBytes f.1 nm < 0) : LoP fs nm (h + 1) := by
 intro x g hx hg
 rcases Nat.lt_succ_iff_lt_or_eq.1 hx with hx | rfl
 ·have h1 := rising_get hr hx hg hf
  rw [less_iff] at h1 ⊢
  exact cmp_trans _ _ _ h1 hc
 ·rw [hf] at hg
  cases hg
  exact (less_iff _ _).2 hc
theorem hi_step {α : Type} {fs : List (Bs × α)} {nm : Bs} {h : Nat} {f : Bs × α} (hr : Rising fs) (hf : fs[h]? = some f) (hc : ¬ Lib.compareBytes f.1 nm < 0) : HiP fs nm h := by
 intro x g hx hg
 rcases Nat.lt_or_eq_of_le hx with hx | rfl
 ·have h1 := rising_get hr hx hf hg
  rw [<- Bool.not_eq_true]
  intro h2
  rw [less_iff] at h1 h2
  exact hc (cmp_trans _ _ _ h1 h2)
 ·rw [hf] at hg
  cases hg
  rw [<- Bool.not_eq_true, less_iff]
  exact hc
theorem search_end {α : Type} {fs : List (Bs × α)} {nm : Bs} {i : Nat} (hi : i <= fs.length) (h1 : LoP fs nm i) (h2 : HiP fs nm i) : placeOfName fs nm = i :=
 place_of fs nm i hi h1 (fun f hf => h2 i f (Nat.le_refl _) hf)
set_option maxRecDepth 100000 in
set_option maxHeartbeats 2000000 in
theorem search_any {α : Type} (g cap : Nat) (fs : List (Bs × α)) (vs : List Value) (nm : ByteArray) (w : World) (hF : Fields w g fs vs) (hg : g < w.heap.size) (hr : Rising fs) (hl : fs.length <= 2000) (hc : fs.length <= cap) (hcm : cap <= maxLen) :
  Calls Tryz.prog 113 #[.slice (some ⟨g, 0, none⟩) fs.length cap, .string nm, .func (.func 114) #[] #[]] w fun e w' =>
   e = .returned (.tuple #[.int .i64 (placeOfName fs nm.data.toList), .bool (fs.any fun f => f.1 == nm.data.toList)]) /\ Below w.heap.size w w' := by
 unfold maxLen at hcm
 have HF : Hid (Fields w g fs vs) := hF
 have HRi : Hid (Rising fs) := hr
 clear hF hr
 go_enter Tryz.func113, Tryz.ntmps113
 go_wp2_with fail
 go_loopw [9, 10] (fun x y wr => ∃ i j : Nat, x = .int .i64 i /\ y = .int .i64 j /\ i <= j /\ j <= fs.length /\ LoP fs nm.data.toList i /\ HiP fs nm.data.toList j /\ Below w.heap.size w wr) (fun x y _ => (intOf y).toNat - (intOf x).toNat)
 case atStart => exact ⟨0, fs.length, rfl, rfl, Nat.zero_le _, Nat.le_refl _, lo_zero _ _, hi_end _ _, Below.refl _ _⟩
 case round =>
  obtain ⟨i, j, rfl, rfl, hij, hj, hlo, hhi, hbel⟩ := hrel
  have HLo : Hid (LoP fs nm.data.toList i) := hlo
  have HHi : Hid (HiP fs nm.data.toList j) := hhi
  have HB : Hid (Below w.heap.size w wr) := hbel
  clear hlo hhi hbel
  by_cases hlt : i < j
  ·obtain ⟨f, u, hf, hc1, hc2⟩ := (HF.out.below HB.out hg).at (i := (i + j) / 2) (by omega)
   have hh1 : (i + j) / 2 < fs.length := by omega
   have HFh : Hid (fs[(i + j) / 2]? = some f) := hf
   clear hf
   go_wp2_with fail
   refine (cmp_field ⟨f.1.toArray⟩ nm u wr).mono ?_
   rintro e w1 ⟨rfl, b1⟩
   have HB1 : Hid (Below w.heap.size w w1) := HB.out.trans (b1.mono HB.out.size)
   clear b1 hc1 hc2
   by_cases hcmp : Lib.compareBytes f.1 nm.data.toList < 0
   ·have HC : Hid (Lib.compareBytes f.1 nm.data.toList < 0) := hcmp
    go_wp2_with fail
    go_roundw
    case rel => exact ⟨(i + j) / 2 + 1, j, by go_num, rfl, by omega, hj, lo_step HRi.out HFh.out HC.out, HHi.out, HB1.out⟩
    case measure => simp [intOf]; omega
   ·have HC : Hid (¬ Lib.compareBytes f.1 nm.data.toList < 0) := hcmp
    go_wp2_with fail
    go_roundw
    case rel => exact ⟨i, (i + j) / 2, rfl, by go_num, by omega, by omega, HLo.out, hi_step HRi.out HFh.out (by have := HC.out; omega), HB1.out⟩
    case measure => simp [intOf]; omega
  ·have hij' : i = j := by omega
   subst hij'
   have HP : Hid (placeOfName fs nm.data.toList = i) := search_end hj HLo.out HHi.out
   have HA : Hid ((fs.any fun f => f.1 == nm.data.toList) = (match fs[i]? with | none => false | some f => decide (Lib.compareBytes f.1 nm.data.toList = 0))) := by
    have := any_place HRi.out nm.data.toList
    rw [HP.out] at this
    exact this
   by_cases hn : i < fs.length
   ·obtain ⟨f, u, hf, hc1, hc2⟩ := (HF.out.below HB.out hg).at hn
    have HA2 : Hid ((fs.any fun f => f.1 == nm.data.toList) = decide (Lib.compareBytes f.1 nm.data.toList = 0)) := by
     have := HA.out
     rw [hf] at this
     exact this
    clear hf
    go_wp2_with fail
    refine (cmp_field ⟨f.1.toArray⟩ nm u wr).mono ?_
    rintro e w1 ⟨rfl, b1⟩
    have HB1 : Hid (Below w.heap.size w w1) := HB.out.trans (b1.mono HB.out.size)
    clear b1 hc1 hc2
    go_wp2_with fail
    go_ret2
    refine ⟨?_, HB1.out⟩
    rw [HP.out, HA2.out]
    rfl
   ·have HA2 : Hid ((fs.any fun f => f.1 == nm.data.toList) = false) := by
     have := HA.out
     rw [List.getElem?_eq_none (by omega)] at this
     exact this
    have hnb : decide ((i : Int) < (fs.length : Int)) = false := decide_eq_false (by omega)
    go_wp2_with fail
    go_ret2
    refine ⟨?_, HB.out⟩
    rw [HP.out, HA2.out]
    rfl
theorem find_any {α : Type} (g cap : Nat) (fs : List (Bs × α)) (vs : List Value) (nm : ByteArray) (w : World) (hF : Fields w g fs vs) (hg : g < w.heap.size) (hr : Rising fs) (hl : fs.length <= 2000) (hc : fs.length <= cap) (hcm : cap <= maxLen) :
  Calls Tryz.prog 100 #[.slice (some ⟨g, 0, none⟩) fs.length cap, .string nm] w fun e w' =>
   e = .returned (.tuple #[.int .i64 (placeOfName fs nm.data.toList), .bool (fs.any fun f => f.1 == nm.data.toList)]) /\ Below w.heap.size w w' := by
 have hS := search_any g cap fs vs nm w hF hg hr hl hc hcm
 generalize (fs.any fun f => f.1 == nm.data.toList) = fo at hS ⊢
 generalize placeOfName fs nm.data.toList = pl at hS ⊢
 have HS : Hid (Calls Tryz.prog 113 #[.slice (some ⟨g, 0, none⟩) fs.length cap, .string nm, .func (.func 114) #[] #[]] w fun e w' => e = .returned (.tuple #[.int .i64 pl, .bool fo]) /\ Below w.heap.size w w') := hS
 clear hS hF hr
 go_enter Tryz.func100, Tryz.ntmps100
 go_wp2_with fail
 refine Calls.mono HS.out ?_
 rintro e w1 ⟨rfl, b1⟩
 have HB : Hid (Below w.heap.size w w1) := b1
 clear b1
 go_wp2_with fail
 go_ret2
 exact ⟨rfl, HB.out⟩
set_option maxHeartbeats 400000 in
theorem meaning_any (c : UInt8) (w : World) : Calls Tryz.prog 97 #[.int .u8 c.toNat] w fun e w' => e = .returned (.int .u8 (meaning c).toNat) /\ w' = w := by
 by_cases h34 : c = 34
 ·subst h34
  go_enter Tryz.func97, Tryz.ntmps97
  go_wp2
  go_ret
  exact ⟨rfl, rfl⟩
 by_cases h92 : c = 92
 ·subst h92
  go_enter Tryz.func97, Tryz.ntmps97
  go_wp2
  go_ret
  exact ⟨rfl, rfl⟩
 by_cases h110 : c = 110
 ·subst h110
  go_enter Tryz.func97, Tryz.ntmps97
  go_wp2
  go_ret
  exact ⟨rfl, rfl⟩
 by_cases h116 : c = 116
 ·subst h116
  go_enter Tryz.func97, Tryz.ntmps97
  go_wp2
  go_ret
  exact ⟨rfl, rfl⟩
 have e : meaning c = 0 := by simp [meaning, h34, h92, h110, h116]
 have b1 := ne_bool 34 (by decide) h34
 have b2 := ne_bool 92 (by decide) h92
 have b3 := ne_bool 110 (by decide) h110
 have b4 := ne_bool 116 (by decide) h116
 clear h34 h92 h110 h116
 rw [e]
 clear e
 go_enter Tryz.func97, Tryz.ntmps97
 go_wp2
 go_ret
 exact ⟨rfl, rfl⟩
theorem plain_int (c : UInt8) : plain c = (decide ((32 : Int) <= (c.toNat : Int)) && decide ((c.toNat : Int) <= 126)) := by
 unfold plain
 congr 1
 ·rw [decide_eq_decide, UInt8.le_iff_toNat_le]
  show 32 <= c.toNat ↔ _
  omega
 ·rw [decide_eq_decide, UInt8.le_iff_toNat_le]
  show c.toNat <= 126 ↔ _
  omega
set_option maxHeartbeats 400000 in
theorem isPlain_any (c : UInt8) (w : World) : Calls Tryz.prog 98 #[.int .u8 c.toNat] w fun e w' => e = .returned (.bool (plain c)) /\ w' = w := by
 rw [plain_int]
 go_enter Tryz.func98, Tryz.ntmps98
 go_wp2
 all_goals go_ret
 all_goals (refine ⟨?_, rfl⟩; simp [*] <;> omega)
set_option maxHeartbeats 400000 in
theorem sign_esc (b : Nat) (t : ByteArray) (p k : Nat) (w : World) (h : Rd b t p k w) (ht : t.size <= 2000) (hc : hd (rest t p) = 92) (hm : meaning (hd (rest t (p + 1))) ≠ 0) :
  Calls Tryz.prog 82 #[.pointer (some ⟨b, 0, none⟩)] w fun e w' => e = .returned (.int .u8 (meaning (hd (rest t (p + 1)))).toNat) /\ G b w w' /\ Rd b t (p + 2) k w' := by
 have hlt : p < t.size := lt_of_hd (by rw [hc]; decide)
 have hlt2 : p + 1 < t.size := lt_of_hd (fun e => hm (by rw [e]; rfl))
 have hb : (((meaning (hd (rest t (p + 1)))).toNat : Int) != 0) = true := bool_ne (d := 0) hm
 have HR : Hid (Rd b t p k w) := h
 have HC : Hid (hd (rest t p) = 92) := hc
 clear h hc hm
 go_enter Tryz.func82, Tryz.ntmps82
 go_wp2_with fail
 refine (take_yes b t p k 92 _ HR.out ht hlt HC.out).mono ?_
 rintro e w1 ⟨rfl, g1, r1⟩
 have HG1 : Hid (G b w w1) := g1
 have HR1 : Hid (Rd b t (p + 1) k w1) := r1
 clear g1 r1
 go_wp2_with fail
 refine (next_g b t (p + 1) k _ HR1.out (by omega) ht).mono ?_
 rintro e w2 ⟨rfl, g1, r1⟩
 have HG2 : Hid (G b w w2) := HG1.out.trans g1
 have HR2 : Hid (Rd b t (p + 1) k w2) := r1
 have c1 := r1.place
 have c2 := r1.free 1
 clear g1 r1
 go_wp2_with fail
 refine (meaning_any _ _).mono ?_
 rintro e w3 ⟨rfl, rfl⟩
 go_wp2_with fail
 go_ret
 refine ⟨rfl, ?_, ?_⟩
 ·exact HG2.out.setCell 1 _
 ·exact HR2.out.move (p + 2)
set_option maxHeartbeats 400000 in
theorem sign_plain (b : Nat) (t : ByteArray) (p k : Nat) (w : World) (h : Rd b t p k w) (ht : t.size <= 2000) (hc : hd (rest t p) ≠ 92) (hm : plain (hd (rest t p)) = true) :
  Calls Tryz.prog 82 #[.pointer (some ⟨b, 0, none⟩)] w fun e w' => e = .returned (.int .u8 (hd (rest t p)).toNat) /\ G b w w' /\ Rd b t (p + 1) k w' := by
 have h0 : hd (rest t p) ≠ 0 := fun e => by rw [e] at hm; exact absurd hm (by decide)
 have hlt : p < t.size := lt_of_hd h0
 have hb : (((hd (rest t p)).toNat : Int) != 0) = true := bool_ne (d := 0) h0
 have HR : Hid (Rd b t p k w) := h
 have HC : Hid (hd (rest t p) ≠ 92) := hc
 clear h hc h0
 go_enter Tryz.func82, Tryz.ntmps82
 go_wp2_with fail
 refine (take_no b t p k 92 _ HR.out (by omega) ht HC.out).mono ?_
 rintro e w1 ⟨rfl, g1, r1⟩
 have HG1 : Hid (G b w w1) := g1
 have HR1 : Hid (Rd b t p k w1) := r1
 clear g1 r1
 go_wp2_with fail
 refine (next_g b t p k _ HR1.out (by omega) ht).mono ?_
 rintro e w2 ⟨rfl, g1, r1⟩
 have HG2 : Hid (G b w w2) := HG1.out.trans g1
 have HR2 : Hid (Rd b t p k w2) := r1
 clear g1 r1
 go_wp2_with fail
 refine (isPlain_any _ _).mono ?_
 rintro e w3 ⟨rfl, rfl⟩
 go_wp2_with fail
 refine (next_g b t p k _ HR2.out (by omega) ht).mono ?_
 rintro e w4 ⟨rfl, g1, r1⟩
 have HG4 : Hid (G b w w4) := HG2.out.trans g1
 have HR4 : Hid (Rd b t p k w4) := r1
 have c1 := r1.place
 have c2 := r1.free 1
 clear g1 r1
 go_wp2_with fail
 go_ret
 refine ⟨rfl, ?_, ?_⟩
 ·exact HG4.out.setCell 1 _
 ·exact HR4.out.move (p + 1)
set_option maxHeartbeats 400000 in
theorem sign_bad1 (b : Nat) (t : ByteArray) (p k : Nat) (w : World) (h : Rd b t p k w) (ht : t.size <= 2000) (hc : hd (rest t p) = 92) (hm : meaning (hd (rest t (p + 1))) = 0) :
  Calls Tryz.prog 82 #[.pointer (some ⟨b, 0, none⟩)] w fun e w' => e = .returned (.int .u8 0) /\ G b w w' := by
 have hlt : p < t.size := lt_of_hd (by rw [hc]; decide)
 have HR : Hid (Rd b t p k w) := h
 have HC : Hid (hd (rest t p) = 92) := hc
 have HM : Hid (meaning (hd (rest t (p + 1))) = 0) := hm
 clear h hc hm
 go_enter Tryz.func82, Tryz.ntmps82
 go_wp2_with fail
 refine (take_yes b t p k 92 _ HR.out ht hlt HC.out).mono ?_
 rintro e w1 ⟨rfl, g1, r1⟩
 have HG1 : Hid (G b w w1) := g1
 have HR1 : Hid (Rd b t (p + 1) k w1) := r1
 clear g1 r1
 go_wp2_with fail
 refine (next_g b t (p + 1) k _ HR1.out (by omega) ht).mono ?_
 rintro e w2 ⟨rfl, g1, r1⟩
 have HG2 : Hid (G b w w2) := HG1.out.trans g1
 clear g1 r1
 go_wp2_with fail
 refine (meaning_any _ _).mono ?_
 rintro e w3 ⟨rfl, rfl⟩
 rw [HM.out]
 go_wp2_with fail
 go_ret
 exact ⟨rfl, HG2.out⟩
set_option maxHeartbeats 400000 in
theorem sign_bad2 (b : Nat) (t : ByteArray) (p k : Nat) (w : World) (h : Rd b t p k w) (hp : p <= t.size) (ht : t.size <= 2000) (hc : hd (rest t p) ≠ 92) (hm : plain (hd (rest t p)) = false) :
  Calls Tryz.prog 82 #[.pointer (some ⟨b, 0, none⟩)] w fun e w' => e = .returned (.int .u8 0) /\ G b w w' := by
 have HR : Hid (Rd b t p k w) := h
 have HC : Hid (hd (rest t p) ≠ 92) := hc
 clear h hc
 go_enter Tryz.func82, Tryz.ntmps82
 go_wp2_with fail
 refine (take_no b t p k 92 _ HR.out hp ht HC.out).mono ?_
 rintro e w1 ⟨rfl, g1, r1⟩
 have HG1 : Hid (G b w w1) := g1
 have HR1 : Hid (Rd b t p k w1) := r1
 clear g1 r1
 go_wp2_with fail
 refine (next_g b t p k _ HR1.out hp ht).mono ?_
 rintro e w2 ⟨rfl, g1, r1⟩
 have HG2 : Hid (G b w w2) := HG1.out.trans g1
 clear g1 r1
 go_wp2_with fail
 refine (isPlain_any _ _).mono ?_
 rintro e w3 ⟨rfl, rfl⟩
 go_wp2_with fail
 go_ret
 exact ⟨rfl, HG2.out⟩
theorem signs_end {t : ByteArray} {q : Nat} (h : hd (rest t q) = 34) : signs (rest t q) = some ([], rest t (q + 1)) := by
 have hlt : q < t.size := lt_of_hd (by rw [h]; decide)
 rw [hd_lt hlt] at h
 rw [rest_cons hlt, signs_cons, if_pos h]
theorem signs_esc {t : ByteArray} {q : Nat} (h : hd (rest t q) = 92) (hm : meaning (hd (rest t (q + 1))) ≠ 0) : signs (rest t q) = (signs (rest t (q + 2))).map fun p => (meaning (hd (rest t (q + 1))) :: p.1, p.2) := by
 have hlt : q < t.size := lt_of_hd (by rw [h]; decide)
 have hlt2 : q + 1 < t.size := lt_of_hd (fun e => hm (by rw [e]; rfl))
 rw [hd_lt hlt] at h
 rw [hd_lt hlt2] at hm ⊢
 rw [rest_cons hlt, signs_cons, h, rest_cons hlt2]
 simp [hm]
theorem signs_esc_bad {t : ByteArray} {q : Nat} (h : hd (rest t q) = 92) (hm : meaning (hd (rest t (q + 1))) = 0) : signs (rest t q) = none := by
 have hlt : q < t.size := lt_of_hd (by rw [h]; decide)
 rw [hd_lt hlt] at h
 rw [rest_cons hlt, signs_cons, h]
 rcases Nat.lt_or_ge (q + 1) t.size with h' | h'
 ·rw [hd_lt h'] at hm
  rw [rest_cons h']
  simp [hm]
 ·rw [rest_nil h']
  simp
theorem signs_plain {t : ByteArray} {q : Nat} (h34 : hd (rest t q) ≠ 34) (h92 : hd (rest t q) ≠ 92) (hp : plain (hd (rest t q)) = true) : signs (rest t q) = (signs (rest t (q + 1))).map fun p => (hd (rest t q) :: p.1, p.2) := by
 have hlt : q < t.size := lt_of_hd (fun e => by rw [e] at hp; exact absurd hp (by decide))
 rw [hd_lt hlt] at h34 h92 hp ⊢
 rw [rest_cons hlt, signs_cons, if_neg h34, if_neg h92, if_pos hp]
theorem signs_plain_bad {t : ByteArray} {q : Nat} (h34 : hd (rest t q) ≠ 34) (h92 : hd (rest t q) ≠ 92) (hp : plain (hd (rest t q)) = false) : signs (rest t q) = none := by
 rcases Nat.lt_or_ge q t.size with h' | h'
 ·rw [hd_lt h'] at h34 h92 hp
  rw [rest_cons h', signs_cons, if_neg h34, if_neg h92, if_neg (by simp [hp])]
 ·rw [rest_nil h', signs_nil]
def Gathered (t : ByteArray) (p q : Nat) (l : Bs) : Prop := signs (rest t p) = (signs (rest t q)).map fun r => (l ++ r.1, r.2)
theorem gathered_nil (t : ByteArray) (p : Nat) : Gathered t p p [] := by
 unfold Gathered
 cases signs (rest t p) <;> simp
theorem gathered_step {t : ByteArray} {p q q' : Nat} {l : Bs} {c : UInt8} (h : Gathered t p q l) (hs : signs (rest t q) = (signs (rest t q')).map fun r => (c :: r.1, r.2)) : Gathered t p q' (l ++ [c]) := by
 unfold Gathered at h ⊢
 rw [h, hs, Option.map_map]
 congr 1
 funext r
 simp
set_option maxRecDepth 100000 in
set_option maxHeartbeats 2000000 in
theorem quoted_any (b : Nat) (t : ByteArray) (p k : Nat) (w : World) (h : Rd b t p k w) (hp : p <= t.size) (ht : t.size <= 2000) :
  Calls Tryz.prog 59 #[.pointer (some ⟨b, 0, none⟩)] w fun e w' => G b w w' /\
   ((quoted (rest t p) = none /\ e = .returned (.tuple #[.string ByteArray.empty, .int .i64 3])) ∨
    ∃ l q, quoted (rest t p) = some (l, rest t q) /\ p < q /\ q <= t.size /\ e = .returned (.tuple #[.string ⟨l.toArray⟩, .int .i64 0]) /\ Rd b t q k w') := by
 obtain ⟨i0, hi, hz0, hz1, hz2⟩ := info_parts info_u8
 have hbl := h.lt
 have HR : Hid (Rd b t p k w) := h
 clear h
 by_cases hc : hd (rest t p) = 34
 ·have hq : quoted (rest t p) = signs (rest t (p + 1)) := by rw [quoted, if_pos hc, rest_tail]
  rw [hq]
  have hlt : p < t.size := lt_of_hd (by rw [hc]; decide)
  have HC : Hid (hd (rest t p) = 34) := hc
  clear hc hq
  go_enter Tryz.func59, Tryz.ntmps59
  go_wp2_with fail
  refine (take_yes b t p k 34 _ HR.out ht hlt HC.out).mono ?_
  rintro e w1 ⟨rfl, g1, r1⟩
  have HG1 : Hid (G b w w1) := g1
  have HR1 : Hid (Rd b t (p + 1) k w1) := r1
  clear g1 r1
  go_wp2_with fail
  go_loopw [4] (fun v wr => ∃ l q, p < q /\ q <= t.size /\ l.length <= q /\ Gathered t (p + 1) q l /\ Own w.heap.size wr v l /\ Rd b t q k wr /\ G b w wr) (fun _ wr => t.size - placeOf b wr)
  case atStart => exact ⟨[], p + 1, by omega, by omega, by simp, gathered_nil _ _, Own.nil _ _, HR1.out, HG1.out⟩
  case round =>
   obtain ⟨l, q, hpq, hq, hl, hga, hown, hR, hG⟩ := hrel
   have HGa : Hid (Gathered t (p + 1) q l) := hga
   have HO : Hid (Own w.heap.size wr u4 l) := hown
   have HR : Hid (Rd b t q k wr) := hR
   have HG : Hid (G b w wr) := hG
   clear hga hown hR hG
   by_cases h34 : hd (rest t q) = 34
   ·have H34 : Hid (hd (rest t q) = 34) := h34
    have hlq : q < t.size := lt_of_hd (by rw [h34]; decide)
    clear h34
    go_wp2_with fail
    refine (take_yes b t q k 34 _ HR.out ht hlq H34.out).mono ?_
    rintro e w2 ⟨rfl, g1, r1⟩
    have HG2 : Hid (G b w w2) := HG.out.trans g1
    have HR2 : Hid (Rd b t (q + 1) k w2) := r1
    have hcv := conv_own (HO.out.kept g1 hbl)
    clear g1 r1
    go_wp2_with fail
    go_ret2
    refine ⟨HG2.out, Or.inr ⟨l, q + 1, ?_, by omega, by omega, rfl, HR2.out⟩⟩
    have := HGa.out
    unfold Gathered at this
    rw [this, signs_end H34.out]
    simp
   have HN34 : Hid (hd (rest t q) ≠ 34) := h34
   clear h34
   by_cases h92 : hd (rest t q) = 92
   ·by_cases hm : meaning (hd (rest t (q + 1))) = 0
    ·have H92 : Hid (hd (rest t q) = 92) := h92
     have HM : Hid (meaning (hd (rest t (q + 1))) = 0) := hm
     clear h92 hm
     go_wp2_with fail
     refine (take_no b t q k 34 _ HR.out hq ht HN34.out).mono ?_
     rintro e w2 ⟨rfl, g1, r1⟩
     have HG2 : Hid (G b w w2) := HG.out.trans g1
     have HR2 : Hid (Rd b t q k w2) := r1
     clear g1 r1
     go_wp2_with fail
     refine (sign_bad1 b t q k _ HR2.out ht H92.out HM.out).mono ?_
     rintro e w3 ⟨rfl, g1⟩
     have HG3 : Hid (G b w w3) := HG2.out.trans g1
     clear g1
     go_wp2_with fail
     go_ret2
     refine ⟨HG3.out, Or.inl ⟨?_, rfl⟩⟩
     have := HGa.out
     unfold Gathered at this
     rw [this, signs_esc_bad H92.out HM.out]
     rfl
    ·have H92 : Hid (hd (rest t q) = 92) := h92
     have HM : Hid (meaning (hd (rest t (q + 1))) ≠ 0) := hm
     have hlq2 : q + 1 < t.size := lt_of_hd (fun e => hm (by rw [e]; rfl))
     have hb : (((meaning (hd (rest t (q + 1)))).toNat : Int) == 0) = false := ne_bool 0 (by decide) hm
     clear h92 hm
     go_wp2_with fail
     refine (take_no b t q k 34 _ HR.out hq ht HN34.out).mono ?_
     rintro e w2 ⟨rfl, g1, r1⟩
     have HG2 : Hid (G b w w2) := HG.out.trans g1
     have HR2 : Hid (Rd b t q k w2) := r1
     have HO2 : Hid (Own w.heap.size w2 u4 l) := HO.out.kept g1 hbl
     clear g1 r1
     go_wp2_with fail
     refine (sign_esc b t q k _ HR2.out ht H92.out HM.out).mono ?_
     rintro e w3 ⟨rfl, g1, r1⟩
     have HG3 : Hid (G b w w3) := HG2.out.trans g1
     have HR3 : Hid (Rd b t (q + 2) k w3) := r1
     have HO3 : Hid (Own w.heap.size w3 u4 l) := HO2.out.kept g1 hbl
     clear g1 r1
     go_wp2_with (at_builtin; refine wpList_append_own _ rfl _ _ 95 rfl w.heap.size 5 i0 (.int .u8 0) 1 1 Tryz.underlying95 hi hz0 hz1 hz2 rfl (by decide) _ _ _ rfl (HO3.out.alloc _) ⟨w3.heap.size, 0, none⟩ 1 1 [.int .u8 (meaning (hd (rest t (q + 1)))).toNat] rfl rfl ?c1 ?c2 ?c3 ?c4 ?c5 ?_)
     case c1 =>
      intro j u hj
      match j, hj with
      | 0, hj => simp at hj; subst hj; simp [Addr.add]
     case c2 => intro u hu; simp at hu; subst hu; rfl
     case c3 => unfold maxLen; omega
     case c4 => omega
     case c5 => have := HG3.out.size; simp; omega
     intro v' w4 hown' hgrow _
     have HO4 : Hid (Own w.heap.size w4 v' (l ++ [meaning (hd (rest t (q + 1)))])) := by
      rw [cells_snoc] at hown'
      have e : (l ++ [meaning (hd (rest t (q + 1)))]).length = l.length + 1 := by simp
      unfold Own
      rw [e]
      exact hown'
     have HR4 : Hid (Rd b t (q + 2) k w4) := (HR3.out.alloc _).kept hgrow (fun e => by have := HO3.out.row b e.symm; omega)
     have HG4 : Hid (G b w w4) := (HG3.out.alloc _).grown hgrow HO3.out.row
     clear hown' hgrow
     go_wp2_with fail
     go_roundw
     case rel => exact ⟨l ++ [meaning (hd (rest t (q + 1)))], q + 2, by omega, by omega, by simp; omega, gathered_step HGa.out (signs_esc H92.out HM.out), HO4.out, HR4.out, HG4.out⟩
     case measure => rw [HR4.out.placeOf_eq, HR.out.placeOf_eq]; omega
   by_cases hm : plain (hd (rest t q)) = true
   ·have H92 : Hid (hd (rest t q) ≠ 92) := h92
    have HM : Hid (plain (hd (rest t q)) = true) := hm
    have h0 : hd (rest t q) ≠ 0 := fun e => by rw [e] at hm; exact absurd hm (by decide)
    have hlq : q < t.size := lt_of_hd h0
    have hb : (((hd (rest t q)).toNat : Int) == 0) = false := ne_bool 0 (by decide) h0
    clear h92 hm h0
    go_wp2_with fail
    refine (take_no b t q k 34 _ HR.out hq ht HN34.out).mono ?_
    rintro e w2 ⟨rfl, g1, r1⟩
    have HG2 : Hid (G b w w2) := HG.out.trans g1
    have HR2 : Hid (Rd b t q k w2) := r1
    have HO2 : Hid (Own w.heap.size w2 u4 l) := HO.out.kept g1 hbl
    clear g1 r1
    go_wp2_with fail
    refine (sign_plain b t q k _ HR2.out ht H92.out HM.out).mono ?_
    rintro e w3 ⟨rfl, g1, r1⟩
    have HG3 : Hid (G b w w3) := HG2.out.trans g1
    have HR3 : Hid (Rd b t (q + 1) k w3) := r1
    have HO3 : Hid (Own w.heap.size w3 u4 l) := HO2.out.kept g1 hbl
    clear g1 r1
    go_wp2_with (at_builtin; refine wpList_append_own _ rfl _ _ 95 rfl w.heap.size 5 i0 (.int .u8 0) 1 1 Tryz.underlying95 hi hz0 hz1 hz2 rfl (by decide) _ _ _ rfl (HO3.out.alloc _) ⟨w3.heap.size, 0, none⟩ 1 1 [.int .u8 (hd (rest t q)).toNat] rfl rfl ?d1 ?d2 ?d3 ?d4 ?d5 ?_)
    case d1 =>
     intro j u hj
     match j, hj with
     | 0, hj => simp at hj; subst hj; simp [Addr.add]
    case d2 => intro u hu; simp at hu; subst hu; rfl
    case d3 => unfold maxLen; omega
    case d4 => omega
    case d5 => have := HG3.out.size; simp; omega
    intro v' w4 hown' hgrow _
    have HO4 : Hid (Own w.heap.size w4 v' (l ++ [hd (rest t q)])) := by
     rw [cells_snoc] at hown'
     have e : (l ++ [hd (rest t q)]).length = l.length + 1 := by simp
     unfold Own
     rw [e]
     exact hown'
    have HR4 : Hid (Rd b t (q + 1) k w4) := (HR3.out.alloc _).kept hgrow (fun e => by have := HO3.out.row b e.symm; omega)
    have HG4 : Hid (G b w w4) := (HG3.out.alloc _).grown hgrow HO3.out.row
    clear hown' hgrow
    go_wp2_with fail
    go_roundw
    case rel => exact ⟨l ++ [hd (rest t q)], q + 1, by omega, by omega, by simp; omega, gathered_step HGa.out (signs_plain HN34.out H92.out HM.out), HO4.out, HR4.out, HG4.out⟩
    case measure => rw [HR4.out.placeOf_eq, HR.out.placeOf_eq]; omega
   ·have H92 : Hid (hd (rest t q) ≠ 92) := h92
    have HM : Hid (plain (hd (rest t q)) = false) := by show plain (hd (rest t q)) = false; simpa using hm
    clear h92 hm
    go_wp2_with fail
    refine (take_no b t q k 34 _ HR.out hq ht HN34.out).mono ?_
    rintro e w2 ⟨rfl, g1, r1⟩
    have HG2 : Hid (G b w w2) := HG.out.trans g1
    have HR2 : Hid (Rd b t q k w2) := r1
    clear g1 r1
    go_wp2_with fail
    refine (sign_bad2 b t q k _ HR2.out hq ht H92.out HM.out).mono ?_
    rintro e w3 ⟨rfl, g1⟩
    have HG3 : Hid (G b w w3) := HG2.out.trans g1
    clear g1
    go_wp2_with fail
    go_ret2
    refine ⟨HG3.out, Or.inl ⟨?_, rfl⟩⟩
    have := HGa.out
    unfold Gathered at this
    rw [this, signs_plain_bad HN34.out H92.out HM.out]
    rfl
 ·have hq : quoted (rest t p) = none := by rw [quoted, if_neg hc]
  have HC : Hid (hd (rest t p) ≠ 34) := hc
  rw [hq]
  clear hc hq
  go_enter Tryz.func59, Tryz.ntmps59
  go_wp2_with fail
  refine (take_no b t p k 34 _ HR.out hp ht HC.out).mono ?_
  rintro e w1 ⟨rfl, g1, r1⟩
  have HG1 : Hid (G b w w1) := g1
  clear g1 r1
  go_wp2_with fail
  go_ret2
  exact ⟨HG1.out, Or.inl ⟨trivial, rfl⟩⟩
theorem G.below {b : Nat} {w0 w w' : World} (h : G b w0 w) (g : Below w.heap.size w w') : G b w0 w' :=
 h.trans ⟨g.os, g.tape, g.output, g.size, fun k hk _ => g.block k hk⟩
theorem Rd.below {b : Nat} {t : ByteArray} {p k : Nat} {w w' : World} (h : Rd b t p k w) (g : Below w.heap.size w w') : Rd b t p k w' := (g.block b h.lt).trans h
theorem Fields.kept {α : Type} {w w' : World} {g b : Nat} {fs : List (Bs × α)} {vs : List Value} (h : Fields w g fs vs) (hb : G b w w') (hg : g < w.heap.size) (hne : g ≠ b) : Fields w' g fs vs :=
 ⟨h.1, fun i f u hf hu => by
  have := h.2 i f u hf hu
  have e : w'.heap[g]? = w.heap[g]? := hb.block g hg (fun e => hne (by cases e; rfl))
  rw [World.cell?_of_block (w := w) (w' := w') (a := ⟨g, i * 2, none⟩) e, World.cell?_of_block (w := w) (w' := w') (a := ⟨g, i * 2 + 1, none⟩) e]
  exact this⟩
def NamePost {α : Type} (b : Nat) (t : ByteArray) (p k : Nat) (fs : List (Bs × α)) (w : World) (e : Ending) (w' : World) : Prop :=
 G b w w' /\ ((∃ er : Nat, nameE fs (rest t p) = .error er /\ er ≠ 0 /\ er < 100 /\ e = .returned (.tuple #[.int .i64 0, .string ByteArray.empty, .int .i64 er])) ∨
  ∃ nm q, nameE fs (rest t p) = .ok (nm, rest t q) /\ p < q /\ q <= t.size /\ (fs.any fun f => f.1 == nm) = false /\ e = .returned (.tuple #[.int .i64 (placeOfName fs nm), .string ⟨nm.toArray⟩, .int .i64 0]) /\ Rd b t q k w')
set_option maxRecDepth 100000 in
set_option maxHeartbeats 2000000 in
theorem name_any {α : Type} (b : Nat) (t : ByteArray) (p k g cap : Nat) (fs : List (Bs × α)) (vs : List Value) (w : World) (h : Rd b t p k w) (hp : p <= t.size) (ht : t.size <= 2000)
  (hF : Fields w g fs vs) (hg : g < w.heap.size) (hgb : g ≠ b) (hr : Rising fs) (hl : fs.length <= 2000) (hc : fs.length <= cap) (hcm : cap <= maxLen) :
  Calls Tryz.prog 86 #[.pointer (some ⟨b, 0, none⟩), .slice (some ⟨g, 0, none⟩) fs.length cap] w (NamePost b t p k fs w) := by
 have HR : Hid (Rd b t p k w) := h
 have HF : Hid (Fields w g fs vs) := hF
 have HRi : Hid (Rising fs) := hr
 have hsl := skipAt_le t p
 have hsg := skipAt_ge t p hp
 have HSk : Hid (rest t (skipAt t p) = skip (rest t p)) := rest_skip t p hp
 clear h hF hr
 go_enter Tryz.func86, Tryz.ntmps86
 go_wp2_with fail
 refine (skipBlanks_any b t p k _ HR.out hp ht).mono ?_
 rintro e w1 ⟨rfl, g1, r1⟩
 have HG1 : Hid (G b w w1) := g1
 have HR1 : Hid (Rd b t (skipAt t p) k w1) := r1
 clear g1 r1
 go_wp2_with fail
 refine (quoted_any b t (skipAt t p) k _ HR1.out hsl ht).mono ?_
 rintro e w2 ⟨g2, h2⟩
 have HG2 : Hid (G b w w2) := HG1.out.trans g2
 clear g2
 rw [HSk.out] at h2
 rcases h2 with ⟨hq, rfl⟩ | ⟨nm, q, hq, hpq, hqs, rfl, r2⟩
 ·have HQ : Hid (quoted (skip (rest t p)) = none) := hq
  clear hq
  go_wp2_with fail
  go_ret3
  exact ⟨HG2.out, Or.inl ⟨3, by rw [nameE, HQ.out], by decide, by decide, rfl⟩⟩
 have HQ : Hid (quoted (skip (rest t p)) = some (nm, rest t q)) := hq
 have HR2 : Hid (Rd b t q k w2) := r2
 have HN : Hid (nameE fs (rest t p) = if (fs.any fun f => f.1 == nm) = true then .error eTwice else if hd (skip (rest t q)) = 58 then .ok (nm, (skip (rest t q)).tail) else .error eSyntax) := by
  show nameE fs (rest t p) = _
  rw [nameE, HQ.out]
 have HF2 : Hid (Fields w2 g fs vs) := HF.out.kept HG2.out hg hgb
 have hg2 : g < w2.heap.size := by have := HG2.out.size; omega
 clear hq r2
 go_wp2_with fail
 have hfi := find_any g cap fs vs ⟨nm.toArray⟩ w2 HF2.out hg2 HRi.out hl hc hcm
 have HFi : Hid (Calls Tryz.prog 100 #[.slice (some ⟨g, 0, none⟩) fs.length cap, .string ⟨nm.toArray⟩] w2 fun e w' => e = .returned (.tuple #[.int .i64 (placeOfName fs nm), .bool (fs.any fun f => f.1 == nm)]) /\ Below w2.heap.size w2 w') := hfi
 clear hfi
 refine Calls.mono HFi.out ?_
 rintro e w3 ⟨rfl, b3⟩
 have HG3 : Hid (G b w w3) := HG2.out.below b3
 have HR3 : Hid (Rd b t q k w3) := HR2.out.below b3
 clear b3 HFi
 cases hany : (fs.any fun f => f.1 == nm) with
 | true =>
  have HA : Hid ((fs.any fun f => f.1 == nm) = true) := hany
  clear hany
  go_wp2_with fail
  go_ret3
  exact ⟨HG3.out, Or.inl ⟨5, by rw [HN.out, if_pos HA.out], by decide, by decide, rfl⟩⟩
 | false =>
  have HA : Hid ((fs.any fun f => f.1 == nm) = false) := hany
  have HTL : Hid ((skip (rest t q)).tail = rest t (skipAt t q + 1)) := by
   show (skip (rest t q)).tail = _
   rw [<- rest_skip t q hqs, rest_tail]
  have hge := skipAt_ge t q hqs
  clear hany
  by_cases h58 : hd (skip (rest t q)) = 58
  ·have H58 : Hid (hd (skip (rest t q)) = 58) := h58
   have hs1 : skipAt t q < t.size := lt_of_hd (by rw [rest_skip t q hqs, h58]; decide)
   clear h58
   go_wp2_with fail
   refine (takeSign_yes b t q k 58 _ HR3.out hqs ht H58.out (by decide)).mono ?_
   rintro e w4 ⟨rfl, g4, r4⟩
   have HG4 : Hid (G b w w4) := HG3.out.trans g4
   have HR4 : Hid (Rd b t (skipAt t q + 1) k w4) := r4
   clear g4 r4
   go_wp2_with fail
   go_ret3
   refine ⟨HG4.out, Or.inr ⟨nm, skipAt t q + 1, ?_, by omega, by omega, HA.out, rfl, HR4.out⟩⟩
   rw [HN.out, if_neg (by rw [HA.out]; decide), if_pos H58.out, HTL.out]
  ·have H58 : Hid (hd (skip (rest t q)) ≠ 58) := h58
   clear h58
   go_wp2_with fail
   refine (takeSign_no b t q k 58 _ HR3.out hqs ht H58.out).mono ?_
   rintro e w4 ⟨rfl, g4, r4⟩
   have HG4 : Hid (G b w w4) := HG3.out.trans g4
   clear g4 r4
   go_wp2_with fail
   go_ret3
   exact ⟨HG4.out, Or.inl ⟨3, by rw [HN.out, if_neg (by rw [HA.out]; decide), if_neg H58.out], by decide, by decide, rfl⟩⟩
theorem info_field : (Tryz.prog.info? 86).map (fun i => (i.zero, i.size, i.bytes)) = some (some (.agg #[.string ⟨#[]⟩, .nilIface]), 2, 32) := by kernel_rfl
section
variable {P : Program}
theorem step_copy_eq {ops : Array Oper} {o : Oper} {a : Act} {w : World} {K : Act -> World -> Prop} {Q : Exit -> Act -> World -> Prop} {E : Prop} (hgd : o.guard = none) (d s : Operand) (t t' : TypeId)
  (ho : o.op = .call { callee := .builtin .copy, args := #[d, s], argTypes := #[t, t'] }) (v u : Value) (hd : a.eval d = v) (hs : a.eval s = u) {v' : Value} {w' : World}
  (hr : (Builtin.copy_ #[t, t'] o.type #[v, u]).run P w = .ok v' w') (h : K (a.put o.dst v') w') :
  if Region.wanted o (yielded ops a.tmps) = true then Oper.wp P o a w K Q else E := by
 rw [if_pos (by simp [Region.wanted, hgd])]
 unfold Oper.wp
 simp [execOp, ho, resolve, invoke, builtin, hd, hs, hr, Result.andThen]
 exact h
theorem run_copy_two (w : World) (dT sT ty elem : TypeId) (g o dLen dCap : Nat) (a : Addr) (sLen sCap : Nat) (cur : Array Value) (t : TypeId) (cs : List Value)
  (hu : P.underlying dT = some (.slice elem)) (hs : (P.info? elem).map (·.size) = some 2)
  (hg : w.heap[g]? = some (.cells cur t (0, 0))) (hn : cs.length = Nat.min sLen dLen * 2)
  (hsrc : ∀ j v, cs[j]? = some v -> w.cell? (a.add j) = some v) (hfit : o + cs.length <= cur.size) (h1 : ∀ v ∈ cs, v.oneCell' = true) :
  (Builtin.copy_ #[dT, sT] ty #[.slice (some ⟨g, o, none⟩) dLen dCap, .slice (some a) sLen sCap]).run P w =
   .ok (goInt (Nat.min sLen dLen)) (w.setRow g (cur.toList.take o ++ cs ++ cur.toList.drop (o + cs.length)).toArray) := by
 have hl := run_loadCells_list (P := P) w a cs hsrc
 have hst := run_storeCells_at P g o t cs 0 cur w hg (by simpa using hfit) h1
 cases hq : P.info? elem with
 | none => simp [hq] at hs
 | some i =>
  have hi : i.size = 2 := by simpa [hq] using hs
  simp [Builtin.copy_, run_underlying hu, Builtin.lenOf, Builtin.firstCells, sizeOf, typeInfo, hq, hi, <- hn, hl, hst]
end
theorem append_tt (ty : TypeId) (a : Option Addr) (n c : Nat) (a' : Option Addr) (n' c' : Nat) (w : World) : (Builtin.append_ #[53, 52] ty #[.slice a n c, .slice a' n' c']).run Tryz.prog w = (Builtin.append_ #[53, 53] ty #[.slice a n c, .slice a' n' c']).run Tryz.prog w := by
 simp [Builtin.append_, run_underlying Tryz.underlying53, run_underlying Tryz.underlying52, Builtin.lenOf]
theorem setRow_grown (w : World) (g : Nat) (cs : Array Value) : w.grownBy (w.setRow g cs) (some g) :=
 ⟨rfl, rfl, rfl, by simp [World.setRow], fun k _ hk => setRow_other w g k cs (fun e => hk (by rw [e]))⟩
theorem drew_grown {w w' : World} {r : Option Nat} (h : w.drew.grownBy w' r) : w.grownBy w' r := ⟨h.os, h.tape, h.output, h.size, h.block⟩
theorem grown_trans {x y z : World} {r : Option Nat} (h : x.grownBy y r) (g : y.grownBy z r) : x.grownBy z r :=
 ⟨g.os.trans h.os, g.tape.trans h.tape, g.output.trans h.output, Nat.le_trans h.size g.size, fun k hk hb => (g.block k (Nat.lt_of_lt_of_le hk h.size) hb).trans (h.block k hk hb)⟩
def inserted (xs : List Value) (i : Nat) (x u : Value) : List Value := xs.take (i * 2) ++ (x :: u :: xs.drop (i * 2))
def InsPost (g n : Nat) (ys : List Value) (w : World) (e : Ending) (w' : World) : Prop :=
 ∃ g' cap', e = .returned (.slice (some ⟨g', 0, none⟩) (n + 1) cap') /\ Row w' 86 2 g' (n + 1) cap' ys /\ ((g' = g /\ w.grownBy w' (some g)) ∨ (w.heap.size <= g' /\ w.grownBy w' none))
theorem insert_end (g n cap vb : Nat) (xs : List Value) (x u : Value) (w : World) (hr : Row w 86 2 g n cap xs) (hn : n <= 2000) (hvb : w.heap[vb]? = some (.cells #[x, u] 86 (0, 0))) (h1x : x.oneCell' = true) (h1u : u.oneCell' = true) :
  Calls Tryz.prog 87 #[.slice (some ⟨g, 0, none⟩) n cap, .int .i64 n, .slice (some ⟨vb, 0, none⟩) 1 1] w (InsPost g n (xs ++ [x, u]) w) := by
 obtain ⟨i0, hi, hz0, hz1, hz2⟩ := info_parts info_field
 have hnews : ∀ (j : Nat) (v : Value), [x, u][j]? = some v -> w.cell? ((⟨vb, 0, none⟩ : Addr).add j) = some v := by
  intro j v hj
  rw [Addr.add_lit, Nat.zero_add, cell_of_row _ _ _ _ _ _ hvb]
  simpa using hj
 have hone : ∀ v ∈ [x, u], v.oneCell' = true := by
  intro v hv
  simp at hv
  rcases hv with rfl | rfl
  ·exact h1x
  ·exact h1u
 have hcaps := hr.caps
 by_cases hroom : n + 1 <= cap
 ·obtain ⟨w', hrun, ho, hgr⟩ := run_append_fits (P := Tryz.prog) w g 53 53 86 i0 2 Tryz.underlying53 hi hz1 g n cap xs hr.owns ⟨vb, 0, none⟩ 1 1 [x, u] rfl hnews hone hroom
  have hrun2 := (append_tt 53 (some ⟨g, 0, none⟩) n cap (some ⟨vb, 0, none⟩) 1 1 w).trans hrun
  have HP : Hid (InsPost g n (xs ++ [x, u]) w (.returned (.slice (some ⟨g, 0, none⟩) (n + 1) cap)) w') := ⟨g, cap, rfl, Row.of_slice ho, Or.inl ⟨rfl, hgr⟩⟩
  clear hrun ho hgr hr hvb
  go_enter Tryz.func87, Tryz.ntmps87
  go_wp2_with (at_builtin; refine Lib.wpList_append_run _ rfl _ _ 53 52 rfl _ _ rfl rfl _ _ hrun2 ?_)
  go_ret
  exact HP.out
 ·obtain ⟨v', w', hrun, ho, hgr⟩ := run_append_arg_grows (P := Tryz.prog) w 53 53 86 i0 _ 2 32 Tryz.underlying53 hi hz0 hz1 hz2 rfl (by decide) ⟨g, 0, none⟩ n cap xs hr.1
   (fun j v hj => by rw [Addr.add_lit, Nat.zero_add]; exact hr.cell j v hj) ⟨vb, 0, none⟩ 1 1 [x, u] rfl hnews (by omega) (by unfold maxLen; omega) (by omega)
  obtain ⟨g', cap', rfl, hg', hrow⟩ := Row.of_owns ho (by omega)
  have hrun2 := (append_tt 53 (some ⟨g, 0, none⟩) n cap (some ⟨vb, 0, none⟩) 1 1 w).trans hrun
  have HP : Hid (InsPost g n (xs ++ [x, u]) w (.returned (.slice (some ⟨g', 0, none⟩) (n + 1) cap')) w') := ⟨g', cap', rfl, hrow, Or.inr ⟨hg', hgr⟩⟩
  clear hrun ho hgr hr hvb hrow
  go_enter Tryz.func87, Tryz.ntmps87
  go_wp2_with (at_builtin; refine Lib.wpList_append_run _ rfl _ _ 53 52 rfl _ _ rfl rfl _ _ hrun2 ?_)
  go_ret
  exact HP.out
theorem overlaps_no (w : World) (g vb o lb cb : Nat) (cur cv : Array Value) (hg : w.heap[g]? = some (.cells cur 86 (0, 0))) (hv : w.heap[vb]? = some (.cells cv 86 (0, 0))) (hne : vb ≠ g) (h0 : cur.size ≠ 0) :
  Sem.run Tryz.prog (callFunc 101 #[.slice (some ⟨vb, 0, none⟩) 1 1, .slice (some ⟨g, o, none⟩) lb cb]) w = .ok (.value (.bool false)) w := by
 rw [run_callFunc_extern (e := Extern.SlicesOverlaps.overlaps #[52, 52] #[4]) Tryz.func101 (by kernel_rfl) (by kernel_rfl) (by kernel_rfl) (by kernel_rfl),
  Lib.run_overlaps_apart w 52 4 86 Tryz.underlying52 2 Tryz.sizeOf86 ⟨vb, 0, none⟩ ⟨g, o, none⟩ 1 1 lb cb hne 86 86 cv.size cur.size
   (by simp [World.shape?, hv]) (by simp [World.shape?, hg]) h0 (frozen_of_row _ _ _ _ _ hv) (frozen_of_row _ _ _ _ _ hv)]
 rfl
theorem shift_list {cur xs : List Value} {n i : Nat} (x u : Value) (hx : xs.length = n * 2) (ht : cur.take (n * 2) = xs) (hc : (n + 1) * 2 <= cur.length) (hi : i < n) :
  ((cur.take ((i + 1) * 2) ++ xs.drop (i * 2) ++ cur.drop ((i + 1) * 2 + (xs.drop (i * 2)).length)).take (i * 2) ++ [x, u] ++ (cur.take ((i + 1) * 2) ++ xs.drop (i * 2) ++ cur.drop ((i + 1) * 2 + (xs.drop (i * 2)).length)).drop (i * 2 + [x, u].length)).take ((n + 1) * 2) = inserted xs i x u := by
 have hd : (xs.drop (i * 2)).length = n * 2 - i * 2 := by rw [List.length_drop, hx]
 have ha : (cur.take ((i + 1) * 2)).length = (i + 1) * 2 := by rw [List.length_take]; omega
 have e1 : (cur.take ((i + 1) * 2) ++ xs.drop (i * 2) ++ cur.drop ((i + 1) * 2 + (xs.drop (i * 2)).length)).take (i * 2) = xs.take (i * 2) := by
  rw [List.append_assoc, List.take_append_of_le_length (by omega), List.take_take, <- ht, List.take_take]
  congr 1
  omega
 have e2 : (cur.take ((i + 1) * 2) ++ xs.drop (i * 2) ++ cur.drop ((i + 1) * 2 + (xs.drop (i * 2)).length)).drop (i * 2 + [x, u].length) = xs.drop (i * 2) ++ cur.drop ((i + 1) * 2 + (xs.drop (i * 2)).length) := by
  rw [List.append_assoc]
  have : i * 2 + [x, u].length = (cur.take ((i + 1) * 2)).length := by rw [ha]; simp; omega
  rw [this, List.drop_left]
 rw [e1, e2]
 have hl : (xs.take (i * 2) ++ [x, u] ++ xs.drop (i * 2)).length = (n + 1) * 2 := by
  simp only [List.length_append, List.length_take, hd, List.length_cons, List.length_nil, hx]
  omega
 rw [<- List.append_assoc, List.take_append_of_le_length (by omega), List.take_of_length_le (by omega)]
 unfold inserted
 simp
theorem grow_list {R0 xs : List Value} {n i : Nat} (x u : Value) (hx : xs.length = n * 2) (ht : R0.take (i * 2) = xs.take (i * 2)) (hc : (n + 1) * 2 <= R0.length) (hi : i < n) :
  ((R0.take (i * 2) ++ [x, u] ++ R0.drop (i * 2 + [x, u].length)).take ((i + 1) * 2) ++ xs.drop (i * 2) ++ (R0.take (i * 2) ++ [x, u] ++ R0.drop (i * 2 + [x, u].length)).drop ((i + 1) * 2 + (xs.drop (i * 2)).length)).take ((n + 1) * 2) = inserted xs i x u := by
 have hd : (xs.drop (i * 2)).length = n * 2 - i * 2 := by rw [List.length_drop, hx]
 have hl : (xs.take (i * 2)).length = i * 2 := by rw [List.length_take]; omega
 rw [ht]
 have e1 : (xs.take (i * 2) ++ [x, u] ++ R0.drop (i * 2 + [x, u].length)).take ((i + 1) * 2) = xs.take (i * 2) ++ [x, u] := by
  rw [List.take_append_of_le_length (by simp only [List.length_append, hl, List.length_cons, List.length_nil]; omega), List.take_of_length_le (by simp only [List.length_append, hl, List.length_cons, List.length_nil]; omega)]
 rw [e1, List.take_append_of_le_length (by simp only [List.length_append, hl, hd, List.length_cons, List.length_nil]; omega), List.take_of_length_le (by simp only [List.length_append, hl, hd, List.length_cons, List.length_nil]; omega)]
 unfold inserted
 simp
set_option maxRecDepth 100000 in
set_option maxHeartbeats 2000000 in
theorem insert_shift (g n cap i vb : Nat) (xs : List Value) (x u : Value) (w : World) (hr : Row w 86 2 g n cap xs) (hn : n <= 2000) (hi : i < n) (hroom : n + 1 <= cap) (hvb : w.heap[vb]? = some (.cells #[x, u] 86 (0, 0))) (hvg : vb ≠ g) (h1x : x.oneCell' = true) (h1u : u.oneCell' = true) (h1s : ∀ v ∈ xs, v.oneCell' = true) :
  Calls Tryz.prog 87 #[.slice (some ⟨g, 0, none⟩) n cap, .int .i64 i, .slice (some ⟨vb, 0, none⟩) 1 1] w (InsPost g n (inserted xs i x u) w) := by
 obtain ⟨hxl, cur, hg, hnc, hcm, hcs, htk⟩ := hr
 unfold maxLen at hcm
 have hov := fun o lb cb => overlaps_no w g vb o lb cb cur _ hg hvb hvg (by omega)
 have hz2 : ¬ ((i : Int) = (n : Int)) := by omega
 have hb2 : ¬ (cap = i + 1) := by omega
 have hb4 : ¬ (cap = i) := by omega
 have HG : Hid (w.heap[g]? = some (.cells cur 86 (0, 0))) := hg
 have HV : Hid (w.heap[vb]? = some (.cells #[x, u] 86 (0, 0))) := hvb
 have HT : Hid (cur.toList.take (n * 2) = xs) := htk
 have hI1 : (i : Int) + 1 <= (n : Int) + 1 := by omega
 have hw1 : IntKind.i64.wrap ((i : Int) + 1) = (i : Int) + 1 := by rw [IntKind.wrap_i64]; omega
 have hb1 : (0 : Int) <= (i : Int) + 1 := by omega
 have htn : ((i : Int) + 1).toNat = i + 1 := by omega
 have hin : i <= n := by omega
 have hI2 : (i : Int) <= (n : Int) + 1 := by omega
 have hsz : (Tryz.prog.info? 86).map (·.size) = some 2 := by kernel_rfl
 have hdl : (xs.drop (i * 2)).length = (n - i) * 2 := by rw [List.length_drop, hxl]; omega
 obtain ⟨R1, hR1⟩ : ∃ R1 : Array Value, R1 = (cur.toList.take ((i + 1) * 2) ++ xs.drop (i * 2) ++ cur.toList.drop ((i + 1) * 2 + (xs.drop (i * 2)).length)).toArray := ⟨_, rfl⟩
 obtain ⟨m1, hm1⟩ : ∃ m1 : Nat, m1 = Nat.min (n + 1 - i) (n + 1 - (i + 1)) := ⟨_, rfl⟩
 obtain ⟨m2, hm2⟩ : ∃ m2 : Nat, m2 = Nat.min 1 (n + 1 - i) := ⟨_, rfl⟩
 have hm2' : m2 = 1 := by rw [hm2]; show min 1 (n + 1 - i) = 1; omega
 have hR1s : R1.size = cap * 2 := by
  rw [hR1]
  simp only [List.size_toArray, List.length_append, List.length_take, List.length_drop, Array.length_toList, hxl, hcs]
  omega
 obtain ⟨R2, hR2⟩ : ∃ R2 : Array Value, R2 = (R1.toList.take (i * 2) ++ [x, u] ++ R1.toList.drop (i * 2 + [x, u].length)).toArray := ⟨_, rfl⟩
 have hR2s : R2.size = cap * 2 := by
  rw [hR2]
  simp only [List.size_toArray, List.length_append, List.length_take, List.length_drop, Array.length_toList, hR1s, List.length_cons, List.length_nil]
  omega
 have hR2t : R2.toList.take ((n + 1) * 2) = inserted xs i x u := by
  rw [hR2, hR1]
  have := shift_list (cur := cur.toList) x u hxl htk (by rw [Array.length_toList]; omega) hi
  simpa using this
 have HC1 : Hid (∀ ty, (Builtin.copy_ #[53, 53] ty #[.slice (some ⟨g, (i + 1) * 2, none⟩) (n + 1 - (i + 1)) (cap - (i + 1)), .slice (some ⟨g, i * 2, none⟩) (n + 1 - i) (cap - i)]).run Tryz.prog w.drew = .ok (goInt m1) (w.drew.setRow g R1)) := fun ty => by
  rw [hR1, hm1]
  exact run_copy_two w.drew _ _ ty 86 g ((i + 1) * 2) (n + 1 - (i + 1)) _ ⟨g, i * 2, none⟩ (n + 1 - i) _ cur 86 (xs.drop (i * 2)) Tryz.underlying53 hsz hg
   (by rw [hdl]; congr 1; show n - i = min (n + 1 - i) (n + 1 - (i + 1)); omega)
   (fun j v hj => by
    rw [Addr.add_lit]
    have h2 : xs[i * 2 + j]? = some v := by rwa [List.getElem?_drop] at hj
    rw [<- htk, List.getElem?_take] at h2
    split at h2
    ·show w.cell? ⟨g, i * 2 + j, none⟩ = some v
     rw [cell_of_row _ _ _ _ _ _ hg]
     simpa using h2
    ·cases h2)
   (by rw [hdl]; omega) (fun v hv => h1s v (List.mem_of_mem_drop hv))
 have hW1g : (w.drew.setRow g R1).heap[g]? = some (.cells R1 86 (0, 0)) := setRow_heap w.drew g cur R1 86 _ hg
 have hW1v : (w.drew.setRow g R1).heap[vb]? = some (.cells #[x, u] 86 (0, 0)) := (setRow_other w.drew g vb R1 hvg).trans hvb
 have HC2 : Hid (∀ (W : World) ty, W.heap[g]? = some (.cells R1 86 (0, 0)) -> W.heap[vb]? = some (.cells #[x, u] 86 (0, 0)) -> (Builtin.copy_ #[53, 52] ty #[.slice (some ⟨g, i * 2, none⟩) (n + 1 - i) (cap - i), .slice (some ⟨vb, 0, none⟩) 1 1]).run Tryz.prog W = .ok (goInt m2) (W.setRow g R2)) := fun W ty hwg hwv => by
  rw [hR2, hm2]
  exact run_copy_two W _ _ ty 86 g (i * 2) (n + 1 - i) _ ⟨vb, 0, none⟩ 1 _ R1 86 [x, u] Tryz.underlying53 hsz hwg
   (by rw [<- hm2, hm2']; rfl)
   (fun j v hj => by
    rw [Addr.add_lit, Nat.zero_add, cell_of_row _ _ _ _ _ _ hwv]
    simpa using hj)
   (by rw [hR1s]; simp; omega) (fun v hv => by
    simp at hv
    rcases hv with rfl | rfl
    ·exact h1x
    ·exact h1u)
 have HW1g : Hid ((w.drew.setRow g R1).heap[g]? = some (.cells R1 86 (0, 0))) := hW1g
 have HW1v : Hid ((w.drew.setRow g R1).heap[vb]? = some (.cells #[x, u] 86 (0, 0))) := hW1v
 have HGr : Hid (w.grownBy (w.drew.setRow g R1) (some g)) := drew_grown (setRow_grown w.drew g R1)
 have hR2s' : Hid (R2.size = cap * 2) := hR2s
 have hR2t' : Hid (R2.toList.take ((n + 1) * 2) = inserted xs i x u) := hR2t
 have hil : Hid ((inserted xs i x u).length = (n + 1) * 2) := by
  show (inserted xs i x u).length = (n + 1) * 2
  rw [<- hR2t, List.length_take, Array.length_toList, hR2s]
  omega
 clear hg hvb htk hW1g hW1v hR1 hR2 hm1 hm2 hm2' hR1s hR2s hR2t
 go_enter Tryz.func87, Tryz.ntmps87
 go_wp2_with (simp only [hov])
 clear hov
 go_region_law (refine step_copy_eq rfl _ _ 53 53 rfl (.slice (some ⟨g, (i + 1) * 2, none⟩) (n + 1 - (i + 1)) (cap - (i + 1))) (.slice (some ⟨g, i * 2, none⟩) (n + 1 - i) (cap - i)) (by simp [Act.eval, Act.put]) (by simp [Act.eval, Act.put]) (HC1.out _) ?_)
 generalize w.drew.setRow g R1 = W1 at *
 have hc2 := HC2.out W1 3 HW1g.out HW1v.out
 go_wp2_with fail
 go_ret
 exact ⟨g, cap, rfl, ⟨hil.out, R2, setRow_heap W1 g R1 R2 86 _ HW1g.out, hroom, by unfold maxLen; omega, hR2s'.out, hR2t'.out⟩, Or.inl ⟨rfl, grown_trans HGr.out (setRow_grown W1 g R2)⟩⟩
set_option maxRecDepth 100000 in
set_option maxHeartbeats 2000000 in
theorem insert_grow (g n cap i vb : Nat) (xs : List Value) (x u : Value) (w : World) (hr : Row w 86 2 g n cap xs) (hn : n <= 2000) (hi : i < n) (hroom : cap < n + 1) (hvb : w.heap[vb]? = some (.cells #[x, u] 86 (0, 0))) (hvg : vb ≠ g) (h1x : x.oneCell' = true) (h1u : u.oneCell' = true) (h1s : ∀ v ∈ xs, v.oneCell' = true) :
  Calls Tryz.prog 87 #[.slice (some ⟨g, 0, none⟩) n cap, .int .i64 i, .slice (some ⟨vb, 0, none⟩) 1 1] w (InsPost g n (inserted xs i x u) w) := by
 obtain ⟨hxl, cur, hg, hnc, hcm, hcs, htk⟩ := hr
 unfold maxLen at hcm
 obtain ⟨i0, hi0, hz0, hzs, hzb⟩ := info_parts info_field
 have hgw := lt_of_block hg
 have hvw := lt_of_block hvb
 have hsz : (Tryz.prog.info? 86).map (·.size) = some 2 := by kernel_rfl
 have hcell : ∀ (j : Nat) (v : Value), xs[j]? = some v -> w.cell? ⟨g, j, none⟩ = some v := fun j v hj => by
  rw [<- htk, List.getElem?_take] at hj
  split at hj
  ·rw [cell_of_row _ _ _ _ _ _ hg]
   simpa using hj
  ·cases hj
 have hold : (Builtin.firstCells i0.size i (.slice (some ⟨g, 0, none⟩) i cap)).run Tryz.prog w.drew = .ok (xs.take (i * 2)).toArray w.drew := by
  rw [hzs]
  exact run_firstCells_some w.drew 2 i ⟨g, 0, none⟩ i cap (xs.take (i * 2)) (by rw [List.length_take]; omega) (fun j v hj => by
   rw [Addr.add_lit, Nat.zero_add]
   rw [List.getElem?_take] at hj
   split at hj
   ·exact hcell j v hj
   ·cases hj)
 have hik : i + (n + 1 - i) = n + 1 := by omega
 have hkk : ((n + 1 - i : Nat) : Int) = (n : Int) + 1 - (i : Int) := by omega
 have hrz := fun ty => Lib.run_append_grow_zeros (P := Tryz.prog) w 53 3 ty 86 i0 _ .i64 .i64 Tryz.underlying53 Tryz.underlying3 hi0 hz0 (some ⟨g, 0, none⟩) i cap (xs.take (i * 2)) hold (n + 1 - i) (by omega) (by omega) (by omega) (by omega) (by rw [hzb]; omega) (by rw [hzb, hik]; exact growslice_fits hroom (by omega))
 rw [hik, hkk] at hrz
 obtain ⟨GC, hGC⟩ : ∃ GC : Nat, GC = grownCap w (n + 1) cap 86 := ⟨_, rfl⟩
 have hGn : n + 1 <= GC := by rw [hGC]; exact grownCap_ge w _ _ _
 have hGm : GC <= 9223372036854775807 := by
  have := grownCap_le_maxLen w (n + 1) cap 86 (by unfold maxLen; omega)
  rw [<- hGC] at this
  unfold maxLen at this
  omega
 rw [<- hGC] at hrz
 obtain ⟨R0, hR0⟩ : ∃ R0 : Array Value, R0 = (xs.take (i * 2)).toArray ++ Builtin.zeroCells (Value.agg #[.string ⟨#[]⟩, .nilIface]).cells (n + 1 - i) ++ Builtin.zeroCells (Value.agg #[.string ⟨#[]⟩, .nilIface]).cells (GC - (n + 1)) := ⟨_, rfl⟩
 rw [<- hR0] at hrz
 have hR0s : R0.size = GC * 2 := by
  rw [hR0, Array.size_append, Array.size_append, size_zeroCells, size_zeroCells, List.size_toArray, List.length_take]
  show min (i * 2) xs.length + (n + 1 - i) * 2 + (GC - (n + 1)) * 2 = GC * 2
  omega
 have hR0t : R0.toList.take (i * 2) = xs.take (i * 2) := by
  rw [hR0]
  simp only [Array.toList_append, List.append_assoc]
  rw [List.take_append_of_le_length (by simp; omega), List.take_of_length_le (by simp; omega)]
 have hxt : (xs.take (i * 2)).length = i * 2 := by rw [List.length_take]; omega
 obtain ⟨R1, hR1⟩ : ∃ R1 : Array Value, R1 = (R0.toList.take (i * 2) ++ [x, u] ++ R0.toList.drop (i * 2 + [x, u].length)).toArray := ⟨_, rfl⟩
 have hR1s : R1.size = GC * 2 := by
  rw [hR1]
  simp only [List.size_toArray, List.length_append, List.length_take, List.length_drop, Array.length_toList, hR0s, List.length_cons, List.length_nil]
  omega
 obtain ⟨R2, hR2⟩ : ∃ R2 : Array Value, R2 = (R1.toList.take ((i + 1) * 2) ++ xs.drop (i * 2) ++ R1.toList.drop ((i + 1) * 2 + (xs.drop (i * 2)).length)).toArray := ⟨_, rfl⟩
 have hdl : (xs.drop (i * 2)).length = (n - i) * 2 := by rw [List.length_drop, hxl]; omega
 have hR2s : R2.size = GC * 2 := by
  rw [hR2]
  simp only [List.size_toArray, List.length_append, List.length_take, hdl, List.length_drop, Array.length_toList, hR1s, hxl]
  omega
 have hR2t : R2.toList.take ((n + 1) * 2) = inserted xs i x u := by
  rw [hR2, hR1]
  have := grow_list (R0 := R0.toList) x u hxl hR0t (by rw [Array.length_toList]; omega) hi
  simpa using this
 obtain ⟨m1, hm1⟩ : ∃ m1 : Nat, m1 = Nat.min 1 (n + 1 - i) := ⟨_, rfl⟩
 have hm1' : m1 = 1 := by rw [hm1]; show min 1 (n + 1 - i) = 1; omega
 obtain ⟨m2, hm2⟩ : ∃ m2 : Nat, m2 = Nat.min (n - i) (n + 1 - (i + 1)) := ⟨_, rfl⟩
 have hm2' : m2 = n - i := by rw [hm2]; show min (n - i) (n + 1 - (i + 1)) = n - i; omega
 have HCA : Hid (∀ (W : World) ty, W.heap[w.heap.size]? = some (.cells R0 86 (0, 0)) -> W.heap[vb]? = some (.cells #[x, u] 86 (0, 0)) -> (Builtin.copy_ #[53, 52] ty #[.slice (some ⟨w.heap.size, i * 2, none⟩) (n + 1 - i) (GC - i), .slice (some ⟨vb, 0, none⟩) 1 1]).run Tryz.prog W = .ok (goInt m1) (W.setRow w.heap.size R1)) := fun W ty hwg hwv => by
  rw [hR1, hm1]
  exact run_copy_two W _ _ ty 86 w.heap.size (i * 2) (n + 1 - i) _ ⟨vb, 0, none⟩ 1 _ R0 86 [x, u] Tryz.underlying53 hsz hwg
   (by rw [<- hm1, hm1']; rfl)
   (fun j v hj => by
    rw [Addr.add_lit, Nat.zero_add, cell_of_row _ _ _ _ _ _ hwv]
    simpa using hj)
   (by rw [hR0s]; simp; omega) (fun v hv => by
    simp at hv
    rcases hv with rfl | rfl
    ·exact h1x
    ·exact h1u)
 have HCB : Hid (∀ (W : World) ty, W.heap[w.heap.size]? = some (.cells R1 86 (0, 0)) -> W.heap[g]? = some (.cells cur 86 (0, 0)) -> (Builtin.copy_ #[53, 53] ty #[.slice (some ⟨w.heap.size, (i + 1) * 2, none⟩) (n + 1 - (i + 1)) (GC - (i + 1)), .slice (some ⟨g, i * 2, none⟩) (n - i) (cap - i)]).run Tryz.prog W = .ok (goInt m2) (W.setRow w.heap.size R2)) := fun W ty hwg hwv => by
  rw [hR2, hm2]
  exact run_copy_two W _ _ ty 86 w.heap.size ((i + 1) * 2) (n + 1 - (i + 1)) _ ⟨g, i * 2, none⟩ (n - i) _ R1 86 (xs.drop (i * 2)) Tryz.underlying53 hsz hwg
   (by rw [hdl, <- hm2, hm2'])
   (fun j v hj => by
    rw [Addr.add_lit]
    have h2 : xs[i * 2 + j]? = some v := by rwa [List.getElem?_drop] at hj
    rw [<- htk, List.getElem?_take] at h2
    split at h2
    ·rw [cell_of_row _ _ _ _ _ _ hwv]
     simpa using h2
    ·cases h2)
   (by rw [hdl, hR1s]; omega) (fun v hv => h1s v (List.mem_of_mem_drop hv))
 have hW1n : (w.alloc (.cells R0 86)).drew.heap[w.heap.size]? = some (.cells R0 86 (0, 0)) := heap_alloc_new w _
 have hW1o : ∀ c, c < w.heap.size -> (w.alloc (.cells R0 86)).drew.heap[c]? = w.heap[c]? := fun c hc => Below.heap_alloc w _ c hc
 have HW1n : Hid ((w.alloc (.cells R0 86)).drew.heap[w.heap.size]? = some (.cells R0 86 (0, 0))) := hW1n
 have HW1v : Hid ((w.alloc (.cells R0 86)).drew.heap[vb]? = some (.cells #[x, u] 86 (0, 0))) := (hW1o vb hvw).trans hvb
 have HW1g : Hid ((w.alloc (.cells R0 86)).drew.heap[g]? = some (.cells cur 86 (0, 0))) := (hW1o g hgw).trans hg
 have HGr : Hid (w.grownBy (w.alloc (.cells R0 86)).drew (some w.heap.size)) := ⟨rfl, rfl, rfl, by show w.heap.size <= (w.alloc (.cells R0 86)).heap.size; simp, fun c hc _ => hW1o c hc⟩
 have hR2s' : Hid (R2.size = GC * 2) := hR2s
 have hR2t' : Hid (R2.toList.take ((n + 1) * 2) = inserted xs i x u) := hR2t
 have hil : Hid ((inserted xs i x u).length = (n + 1) * 2) := by
  show (inserted xs i x u).length = (n + 1) * 2
  rw [<- hR2t, List.length_take, Array.length_toList, hR2s]
  omega
 have HRZ : Hid (∀ ty, (Builtin.append_ #[53, 3] ty #[.slice (some ⟨g, 0, none⟩) i cap, .int .i64 ((n : Int) + 1 - (i : Int))]).run Tryz.prog w = .ok (.slice (some ⟨w.heap.size, 0, none⟩) (n + 1) GC) (w.drew.alloc (.cells R0 86))) := hrz
 have hz2 : ¬ ((i : Int) = (n : Int)) := by omega
 have hz3 : (cap : Int) < (n : Int) + 1 := by omega
 have hb2 : ¬ (GC = i + 1) := by omega
 have hb4 : ¬ (GC = i) := by omega
 have hb5 : ¬ (cap = i) := by omega
 have hI1 : (i : Int) + 1 <= (n : Int) + 1 := by omega
 have hI2 : (i : Int) <= (n : Int) + 1 := by omega
 have hw1 : IntKind.i64.wrap ((i : Int) + 1) = (i : Int) + 1 := by rw [IntKind.wrap_i64]; omega
 have hb1 : (0 : Int) <= (i : Int) + 1 := by omega
 have htn : ((i : Int) + 1).toNat = i + 1 := by omega
 have hin : i <= n := by omega
 clear hg hvb htk hW1n hW1o hR0 hR1 hR2 hm1 hm2 hm1' hm2' hR0s hR1s hR2s hR2t hrz hcell hold hGC hR0t hxt hkk
 go_enter Tryz.func87, Tryz.ntmps87
 go_wp2_with (at_builtin; refine Lib.wpList_append_run _ rfl _ _ 53 3 rfl _ _ rfl rfl _ _ (HRZ.out _) ?_)
 generalize (w.alloc (.cells R0 86)).drew = W1 at *
 have hca := HCA.out W1 3 HW1n.out HW1v.out
 have HW2n : Hid ((W1.setRow w.heap.size R1).drew.heap[w.heap.size]? = some (.cells R1 86 (0, 0))) := setRow_heap W1 w.heap.size R0 R1 86 _ HW1n.out
 have HW2g : Hid ((W1.setRow w.heap.size R1).drew.heap[g]? = some (.cells cur 86 (0, 0))) := (setRow_other W1 w.heap.size g R1 (by omega)).trans HW1g.out
 have HGr2 : Hid (w.grownBy (W1.setRow w.heap.size R1).drew (some w.heap.size)) := by
  have h := grown_trans HGr.out (setRow_grown W1 w.heap.size R1)
  exact ⟨h.os, h.tape, h.output, h.size, h.block⟩
 rw [hca]
 clear hca
 go_wp2_with fail
 go_region_law (refine step_copy_eq rfl _ _ 53 53 rfl (.slice (some ⟨w.heap.size, (i + 1) * 2, none⟩) (n + 1 - (i + 1)) (GC - (i + 1))) (.slice (some ⟨g, i * 2, none⟩) (n - i) (cap - i)) (by simp [Act.eval, Act.put]) (by simp [Act.eval, Act.put]) (HCB.out _ _ HW2n.out HW2g.out) ?_)
 go_wp2_with fail
 go_ret
 refine ⟨w.heap.size, GC, rfl, ⟨hil.out, R2, setRow_heap _ w.heap.size R1 R2 86 _ HW2n.out, hGn, by unfold maxLen; omega, hR2s'.out, hR2t'.out⟩, Or.inr ⟨Nat.le_refl _, ?_⟩⟩
 have h := grown_trans HGr2.out (setRow_grown _ w.heap.size R2)
 exact ⟨h.os, h.tape, h.output, h.size, fun k hk _ => h.block k hk (fun e => by cases e; omega)⟩
theorem insert_any (g n cap i vb : Nat) (xs : List Value) (x u : Value) (w : World) (hr : Row w 86 2 g n cap xs) (hn : n <= 2000) (hi : i <= n) (hvb : w.heap[vb]? = some (.cells #[x, u] 86 (0, 0))) (hvg : vb ≠ g) (h1x : x.oneCell' = true) (h1u : u.oneCell' = true) (h1s : ∀ v ∈ xs, v.oneCell' = true) :
  Calls Tryz.prog 87 #[.slice (some ⟨g, 0, none⟩) n cap, .int .i64 i, .slice (some ⟨vb, 0, none⟩) 1 1] w (InsPost g n (inserted xs i x u) w) := by
 by_cases h : i = n
 ·subst h
  have e : inserted xs i x u = xs ++ [x, u] := by
   unfold inserted
   rw [List.take_of_length_le (by have := hr.1; omega), List.drop_of_length_le (by have := hr.1; omega)]
  rw [e]
  exact insert_end g i cap vb xs x u w hr hn hvb h1x h1u
 ·by_cases hroom : n + 1 <= cap
  ·exact insert_shift g n cap i vb xs x u w hr hn (by omega) hroom hvb hvg h1x h1u h1s
  ·exact insert_grow g n cap i vb xs x u w hr hn (by omega) (by omega) hvb hvg h1x h1u h1s
def flat {α : Type} : List (Bs × α) -> List Value -> List Value
 | f :: fs, u :: us => .string ⟨f.1.toArray⟩ :: u :: flat fs us
 | _, _ => []
theorem flat_get {α : Type} : ∀ (fs : List (Bs × α)) (us : List Value) (i : Nat) (f : Bs × α) (u : Value), fs[i]? = some f -> us[i]? = some u -> (flat fs us)[i * 2]? = some (.string ⟨f.1.toArray⟩) /\ (flat fs us)[i * 2 + 1]? = some u
 | [], _, _, _, _, h, _ => by simp at h
 | _ :: _, [], _, _, _, _, h => by simp at h
 | g :: fs, v :: us, 0, f, u, h1, h2 => by
  simp at h1 h2
  subst h1
  subst h2
  exact ⟨rfl, rfl⟩
 | g :: fs, v :: us, i + 1, f, u, h1, h2 => by
  have := flat_get fs us i f u (by simpa using h1) (by simpa using h2)
  rw [show (i + 1) * 2 = i * 2 + 1 + 1 by omega]
  simp only [flat, List.getElem?_cons_succ]
  exact this
theorem flat_one {α : Type} : ∀ (fs : List (Bs × α)) (us : List Value), (∀ u ∈ us, u.oneCell' = true) -> ∀ v ∈ flat fs us, v.oneCell' = true
 | [], _, _, v, h => by simp [flat] at h
 | _ :: _, [], _, v, h => by simp [flat] at h
 | f :: fs, u :: us, ho, v, h => by
  simp only [flat, List.mem_cons] at h
  rcases h with rfl | rfl | h
  ·rfl
  ·exact ho v (by simp)
  ·exact flat_one fs us (fun x hx => ho x (by simp [hx])) v h
theorem flat_take {α : Type} : ∀ (fs : List (Bs × α)) (us : List Value) (i : Nat), us.length = fs.length -> (flat fs us).take (i * 2) = flat (fs.take i) (us.take i)
 | [], [], i, _ => by simp [flat]
 | [], _ :: _, _, h => by simp at h
 | _ :: _, [], _, h => by simp at h
 | f :: fs, u :: us, 0, h => by simp [flat]
 | f :: fs, u :: us, i + 1, h => by
  rw [show (i + 1) * 2 = i * 2 + 1 + 1 by omega]
  simp only [flat, List.take_succ_cons]
  rw [flat_take fs us i (by simpa using h)]
theorem flat_drop {α : Type} : ∀ (fs : List (Bs × α)) (us : List Value) (i : Nat), us.length = fs.length -> (flat fs us).drop (i * 2) = flat (fs.drop i) (us.drop i)
 | [], [], i, _ => by simp [flat]
 | [], _ :: _, _, h => by simp at h
 | _ :: _, [], _, h => by simp at h
 | f :: fs, u :: us, 0, h => by simp [flat]
 | f :: fs, u :: us, i + 1, h => by
  rw [show (i + 1) * 2 = i * 2 + 1 + 1 by omega]
  simp only [flat, List.drop_succ_cons]
  exact flat_drop fs us i (by simpa using h)
theorem flat_append {α : Type} : ∀ (fs : List (Bs × α)) (us : List Value) (gs : List (Bs × α)) (vs : List Value), us.length = fs.length -> flat (fs ++ gs) (us ++ vs) = flat fs us ++ flat gs vs
 | [], [], gs, vs, _ => by simp [flat]
 | [], _ :: _, _, _, h => by simp at h
 | _ :: _, [], _, _, h => by simp at h
 | f :: fs, u :: us, gs, vs, h => by
  simp only [flat, List.cons_append]
  rw [flat_append fs us gs vs (by simpa using h)]
def insAt {α : Type} (l : List α) (i : Nat) (x : α) : List α := l.take i ++ x :: l.drop i
theorem insAt_len {α : Type} (l : List α) (i : Nat) (x : α) (h : i <= l.length) : (insAt l i x).length = l.length + 1 := by
 unfold insAt
 simp only [List.length_append, List.length_take, List.length_cons, List.length_drop]
 omega
theorem flat_insert {α : Type} (fs : List (Bs × α)) (us : List Value) (i : Nat) (nm : Bs) (j : α) (u : Value) (h : us.length = fs.length) :
  inserted (flat fs us) i (.string ⟨nm.toArray⟩) u = flat (insAt fs i (nm, j)) (insAt us i u) := by
 unfold inserted insAt
 rw [flat_append _ _ _ _ (by simp only [List.length_take]; omega), flat_take fs us i h, flat_drop fs us i h]
 rfl
theorem ins_get {α : Type} {l : List α} {i k : Nat} {x y : α} (hi : i <= l.length) (h : (insAt l i x)[k]? = some y) : (k < i /\ l[k]? = some y) ∨ (k = i /\ y = x) ∨ (i < k /\ l[k - 1]? = some y) := by
 have hl : (l.take i).length = i := by rw [List.length_take]; omega
 unfold insAt at h
 rcases Nat.lt_trichotomy k i with h' | h' | h'
 ·rw [List.getElem?_append_left (by omega), List.getElem?_take, if_pos h'] at h
  exact Or.inl ⟨h', h⟩
 ·rw [List.getElem?_append_right (by omega), hl, h', Nat.sub_self] at h
  simp at h
  exact Or.inr (Or.inl ⟨h', h.symm⟩)
 ·rw [List.getElem?_append_right (by omega), hl] at h
  obtain ⟨m, hm⟩ : ∃ m, k - i = m + 1 := ⟨k - i - 1, by omega⟩
  rw [hm, List.getElem?_cons_succ, List.getElem?_drop] at h
  refine Or.inr (Or.inr ⟨h', ?_⟩)
  rw [show k - 1 = i + m by omega]
  exact h
theorem insertAt_insAt {α : Type} (fs : List (Bs × α)) (nm : Bs) (v : α) : insertAt fs nm v = insAt fs (placeOfName fs nm) (nm, v) := insert_eq fs nm v
structure OBox (b : Nat) (d : Int) (c0 cf cd : Nat) (w : World) (sl : Value) : Prop where
 h0 : w.heap[c0]? = some (.cells #[.pointer (some ⟨b, 0, none⟩)] 97 (0, 0))
 h1 : w.heap[cd]? = some (.cells #[.int .i64 d] 3 (0, 0))
 h2 : w.heap[cf]? = some (.cells #[sl] 53 (0, 0))
def OInv (b : Nat) (d : Int) (c0 cf cd N0 N1 n : Nat) (s : List (Bs × J n)) (k : Nat) (w : World) : Prop :=
 s.length <= k /\ Rising s /\ ∃ (g cap : Nat) (vs : List Value), OBox b d c0 cf cd w (.slice (some ⟨g, 0, none⟩) s.length cap) /\ Row w 86 2 g s.length cap (flat s vs) /\ vs.length = s.length /\ (∀ u ∈ vs, u.oneCell' = true) /\ N0 <= g /\ g ≠ c0 /\ g ≠ cd /\ g ≠ cf /\
  ∀ (i : Nat) (f : Bs × J n) (u : Value), s[i]? = some f -> vs[i]? = some u -> St (fun c => c < N1 ∨ c = g) w n f.2 u
def OErr (cf : Nat) (w : World) : Prop := ∃ a m cap, w.heap[cf]? = some (.cells #[.slice a m cap] 53 (0, 0))
theorem OInv.err {b : Nat} {d : Int} {c0 cf cd N0 N1 n : Nat} {s : List (Bs × J n)} {k : Nat} {w : World} (h : OInv b d c0 cf cd N0 N1 n s k w) : OErr cf w := by
 obtain ⟨_, _, g, cap, vs, hb, _⟩ := h
 exact ⟨_, _, _, hb.h2⟩
theorem OBox.kept {b : Nat} {d : Int} {c0 cf cd : Nat} {w w' : World} {sl : Value} {row : Option Nat} (h : OBox b d c0 cf cd w sl) (g : w.grownBy w' row) (e0 : row ≠ some c0) (e1 : row ≠ some cd) (e2 : row ≠ some cf) : OBox b d c0 cf cd w' sl :=
 ⟨(g.block c0 (lt_of_block h.h0) (fun e => e0 e.symm)).trans h.h0, (g.block cd (lt_of_block h.h1) (fun e => e1 e.symm)).trans h.h1, (g.block cf (lt_of_block h.h2) (fun e => e2 e.symm)).trans h.h2⟩
theorem OInv.kept {b : Nat} {d : Int} {c0 cf cd N0 N1 n : Nat} {s : List (Bs × J n)} {k : Nat} {w w' : World} (h : OInv b d c0 cf cd N0 N1 n s k w) (g : G b w w') (hb : b < N0) (h0 : N0 <= c0) (h1 : N0 <= cd) (h2 : N0 <= cf) (hN : N0 <= N1) : OInv b d c0 cf cd N0 N1 n s k w' := by
 obtain ⟨hk, hri, gg, cap, vs, hx, hr, hvl, hvo, hg, e0, e1, e2, hel⟩ := h
 refine ⟨hk, hri, gg, cap, vs, hx.kept g (fun e => by cases e; omega) (fun e => by cases e; omega) (fun e => by cases e; omega), hr.kept g (fun e => by cases e; omega), hvl, hvo, hg, e0, e1, e2, fun i x u hx hu => ?_⟩
 exact (hel i x u hx hu).grown g (fun k e => by cases e; exact Or.inl (by omega))
theorem row_fields {α : Type} {w : World} {g n cap : Nat} {fs : List (Bs × α)} {vs : List Value} (h : Row w 86 2 g n cap (flat fs vs)) (hl : vs.length = fs.length) : Fields w g fs vs :=
 ⟨hl, fun i f u hf hu => by
  have := flat_get fs vs i f u hf hu
  exact ⟨h.cell _ _ this.1, h.cell _ _ this.2⟩⟩
theorem oinv_step {b : Nat} {d : Int} {c0 cf cd N0 N1 n g cap g' cap' k' : Nat} {s : List (Bs × J n)} {nm : Bs} {j : J n} {v : Value} {vs : List Value} {w w1 w2 : World} {o : Obj} {row : Option Nat}
  (hri : Rising s) (hnm : (s.any fun f => f.1 == nm) = false)
  (hx : OBox b d c0 cf cd w (.slice (some ⟨g, 0, none⟩) s.length cap)) (hr : Row w 86 2 g s.length cap (flat s vs)) (hvl : vs.length = s.length) (hvo : ∀ u ∈ vs, u.oneCell' = true) (hv1 : v.oneCell' = true) (hg : N0 <= g) (e0 : g ≠ c0) (e1 : g ≠ cd) (e2 : g ≠ cf)
  (hel : ∀ (i : Nat) (f : Bs × J n) (u : Value), s[i]? = some f -> vs[i]? = some u -> St (fun c => c < N1 ∨ c = g) w n f.2 u)
  (hb : b < N0) (k0 : N0 <= c0) (k1 : N0 <= cd) (k2 : N0 <= cf) (l2 : cf < N1) (n01 : c0 ≠ cf) (n12 : cd ≠ cf) (hN : N0 <= N1) (hNw : N1 <= w.heap.size)
  (hG : G b w w1) (hst : St (fun c => c < w.heap.size) w1 n j v) (happ : (w1.alloc o).grownBy w2 row)
  (hrow : Row w2 86 2 g' (s.length + 1) cap' (inserted (flat s vs) (placeOfName s nm) (.string ⟨nm.toArray⟩) v)) (hg' : (row = some g /\ g' = g) ∨ (row = none /\ w1.heap.size < g')) (hk' : s.length < k') :
  OInv b d c0 cf cd N0 N1 n (insertAt s nm j) k' (w2.setCell ⟨cf, 0, none⟩ (.slice (some ⟨g', 0, none⟩) (s.length + 1) cap')) := by
 have hgw : g < w.heap.size := hr.lt
 have hsz := hG.size
 have hA : (w1.alloc o).heap.size = w1.heap.size + 1 := by simp
 have hpl := place_le s nm
 have hg2 : N0 <= g' /\ g' ≠ c0 /\ g' ≠ cd /\ g' ≠ cf := by
  rcases hg' with ⟨_, rfl⟩ | ⟨_, h⟩
  ·exact ⟨hg, e0, e1, e2⟩
  ·have a0 := lt_of_block hx.h0
   have a1 := lt_of_block hx.h1
   have a2 := lt_of_block hx.h2
   omega
 have hx2 : OBox b d c0 cf cd w2 (.slice (some ⟨g, 0, none⟩) s.length cap) := by
  have h1 := hx.kept hG (fun e => by cases e; omega) (fun e => by cases e; omega) (fun e => by cases e; omega)
  have h2 := h1.kept (World.grownBy_alloc w1 o none) (fun e => by cases e) (fun e => by cases e) (fun e => by cases e)
  refine h2.kept happ ?_ ?_ ?_
  all_goals (rcases hg' with ⟨rfl, _⟩ | ⟨rfl, _⟩)
  all_goals (intro e; cases e; try contradiction)
 have hrow_av : ∀ k, row = some k -> (k < N1 ∨ k = g ∨ k = g') := by
  rcases hg' with ⟨rfl, _⟩ | ⟨rfl, _⟩
  ·intro k e; cases e; exact Or.inr (Or.inl rfl)
  ·intro k e; cases e
 have hset : ∀ {x : J n} {u : Value}, St (fun c => c < N1 ∨ c = g ∨ c = g') (w1.alloc o) n x u -> St (fun c => c < N1 ∨ c = g') (w2.setCell ⟨cf, 0, none⟩ (.slice (some ⟨g', 0, none⟩) (s.length + 1) cap')) n x u := by
  intro x u h
  have h1 := h.grown happ hrow_av
  have h2 := h1.mono (av' := fun c => c < N1 ∨ c = g') (fun c _ e => by rcases e with e | e
                                                                        · exact Or.inl e
                                                                        · exact Or.inr (Or.inr e))
  exact h2.grown (grownBy_setCell w2 cf 0 _) (fun k e => by cases e; exact Or.inl l2)
 have hold : ∀ (i : Nat) (f : Bs × J n) (u : Value), s[i]? = some f -> vs[i]? = some u -> St (fun c => c < N1 ∨ c = g ∨ c = g') (w1.alloc o) n f.2 u := by
  intro i f u hf hu
  have h1 := (hel i f u hf hu).grown hG (fun k e => by cases e; exact Or.inl (by omega))
  have h2 := h1.grown (World.grownBy_alloc w1 o none) (fun k e => by cases e)
  exact h2.wide (fun c e => by
   rcases e with e | e | e
   ·exact Or.inl (Or.inl e)
   ·exact Or.inl (Or.inr e)
   ·rcases hg' with ⟨_, h⟩ | ⟨_, h⟩
    ·exact Or.inl (Or.inr (by omega))
    ·exact Or.inr (by omega))
 have hnew : St (fun c => c < N1 ∨ c = g ∨ c = g') (w1.alloc o) n j v := by
  have h2 := hst.grown (World.grownBy_alloc w1 o none) (fun k e => by cases e)
  exact h2.wide (fun c e => by
   rcases e with e | e | e
   ·exact Or.inl (by omega)
   ·exact Or.inl (by omega)
   ·rcases hg' with ⟨_, h⟩ | ⟨_, h⟩
    ·exact Or.inl (by omega)
    ·exact Or.inr (by omega))
 have hil : (insertAt s nm j).length = s.length + 1 := by rw [insertAt_insAt, insAt_len _ _ _ hpl]
 refine ⟨by rw [hil]; omega, rising_insert hri nm j hnm, g', cap', insAt vs (placeOfName s nm) v, ?_, ?_, ?_, ?_, hg2.1, hg2.2.1, hg2.2.2.1, hg2.2.2.2, ?_⟩
 ·rw [hil]
  exact ⟨(heap_setCell_other _ _ _ _ n01).trans hx2.h0, (heap_setCell_other _ _ _ _ n12).trans hx2.h1, one_setCell hx2.h2⟩
 ·rw [hil, insertAt_insAt, <- flat_insert s vs (placeOfName s nm) nm j v hvl]
  exact hrow.kept (grownBy_setCell w2 cf 0 _) (fun e => by cases e; exact hg2.2.2.2 rfl)
 ·rw [hil, insAt_len _ _ _ (by omega), hvl]
 ·intro u hu
  unfold insAt at hu
  rcases List.mem_append.1 hu with hu | hu
  ·exact hvo u (List.mem_of_mem_take hu)
  ·rcases List.mem_cons.1 hu with rfl | hu
   ·exact hv1
   ·exact hvo u (List.mem_of_mem_drop hu)
 ·intro i f u hf hu
  rw [insertAt_insAt] at hf
  refine hset ?_
  rcases ins_get hpl hf with ⟨h1, hf⟩ | ⟨h1, rfl⟩ | ⟨h1, hf⟩
  ·rcases ins_get (by omega) hu with ⟨_, hu⟩ | ⟨h2, _⟩ | ⟨h2, _⟩
   ·exact hold i f u hf hu
   ·omega
   ·omega
  ·rcases ins_get (by omega) hu with ⟨h2, _⟩ | ⟨_, rfl⟩ | ⟨h2, _⟩
   ·omega
   ·exact hnew
   ·omega
  ·rcases ins_get (by omega) hu with ⟨h2, _⟩ | ⟨h2, _⟩ | ⟨_, hu⟩
   ·omega
   ·omega
   ·exact hold (i - 1) f u hf hu
set_option maxRecDepth 100000 in
set_option maxHeartbeats 8000000 in
theorem object_one (n b : Nat) (t : ByteArray) (d : Int) (c0 cf cd : Nat) (w0 : World) (hV : ValueOK n) (hd : d + n = 10) (hd0 : 0 <= d) (ht : t.size <= 2000) (hb : b < w0.heap.size)
  (k0 : w0.heap.size <= c0) (k1 : w0.heap.size <= cd) (k2 : w0.heap.size <= cf) (l0 : c0 < cf) (l1 : cd < cf) :
  OneOK 85 #[.pointer (some ⟨c0, 0, none⟩), .pointer (some ⟨cf, 0, none⟩), .pointer (some ⟨cd, 0, none⟩)] b t w0 (oneField (value n)) (OInv b d c0 cf cd w0.heap.size (cf + 1) n) (OErr cf) := by
 intro s p k w hI hg hR hp hk
 obtain ⟨hsk, hri, g, cap, vs, hx, hr, hvl, hvo, hgN, e0, e1, e2, hel⟩ := hI
 have a0 := cell_of_one hx.h0
 have a2 := cell_of_one hx.h2
 have hcw := lt_of_block hx.h2
 have hcap := hr.caps
 have hgw := hr.lt
 have HX : Hid (OBox b d c0 cf cd w (.slice (some ⟨g, 0, none⟩) s.length cap)) := hx
 have HRw : Hid (Row w 86 2 g s.length cap (flat s vs)) := hr
 have HEl : Hid (∀ (i : Nat) (f : Bs × J n) (u : Value), s[i]? = some f -> vs[i]? = some u -> St (fun c => c < cf + 1 ∨ c = g) w n f.2 u) := hel
 have HR : Hid (Rd b t p k w) := hR
 have HG : Hid (G b w0 w) := hg
 have HV : Hid (ValueOK n) := hV
 have HRi : Hid (Rising s) := hri
 have HVl : Hid (vs.length = s.length) := hvl
 have HVo : Hid (∀ u ∈ vs, u.oneCell' = true) := hvo
 clear hx hr hel hR hg hV hri hvl hvo
 go_enter Tryz.func85, Tryz.ntmps85
 go_wp2_with fail
 refine (name_any b t p k g cap s vs w HR.out hp ht (row_fields HRw.out HVl.out) hgw (by omega) HRi.out (by omega) hcap.1 hcap.2).mono ?_
 rintro e wn ⟨gn, hn⟩
 have hxn := HX.out.kept gn (fun e => by cases e; omega) (fun e => by cases e; omega) (fun e => by cases e; omega)
 have hrn : Row wn 86 2 g s.length cap (flat s vs) := HRw.out.kept gn (fun e => by cases e; omega)
 have HXn : Hid (OBox b d c0 cf cd wn (.slice (some ⟨g, 0, none⟩) s.length cap)) := hxn
 have HRn : Hid (Row wn 86 2 g s.length cap (flat s vs)) := hrn
 have HEn : Hid (∀ (i : Nat) (f : Bs × J n) (u : Value), s[i]? = some f -> vs[i]? = some u -> St (fun c => c < cf + 1 ∨ c = g) wn n f.2 u) := fun i f u hf hu => (HEl.out i f u hf hu).grown gn (fun k e => by cases e; exact Or.inl (by omega))
 have HGn : Hid (G b w0 wn) := HG.out.trans gn
 have b0 := cell_of_one hxn.h0
 have b1 := cell_of_one hxn.h1
 have hgn := hrn.lt
 have hcn := lt_of_block hxn.h2
 clear gn hxn hrn a0 a2
 rcases hn with ⟨er, hne, her, her2, rfl⟩ | ⟨nm, q0, hne, hpq0, hq0, hany, rfl, hRn⟩
 ·have HNe : Hid (nameE s (rest t p) = .error er) := hne
  have hbe := err_bool her
  clear hne
  go_wp2_with fail
  go_ret
  exact ⟨HGn.out, Or.inl ⟨er, by rw [oneField, HNe.out], her, her2, rfl, ⟨_, _, _, HXn.out.h2⟩⟩⟩
 have HNe : Hid (nameE s (rest t p) = .ok (nm, rest t q0)) := hne
 have HAny : Hid ((s.any fun f => f.1 == nm) = false) := hany
 have HRdn : Hid (Rd b t q0 k wn) := hRn
 have hpl := place_le s nm
 clear hne hany hRn
 go_wp2_with fail
 refine (HV.out b t q0 k d wn HRdn.out hq0 ht hk hd hd0).mono ?_
 rintro e w1 ⟨g1, h1⟩
 have hx1 := HXn.out.kept g1 (fun e => by cases e; omega) (fun e => by cases e; omega) (fun e => by cases e; omega)
 have hr1 : Row w1 86 2 g s.length cap (flat s vs) := HRn.out.kept g1 (fun e => by cases e; omega)
 have b2 := cell_of_one hx1.h2
 have b3 := free_of_one hx1.h2
 have HX1 : Hid (OBox b d c0 cf cd w1 (.slice (some ⟨g, 0, none⟩) s.length cap)) := hx1
 have HR1 : Hid (Row w1 86 2 g s.length cap (flat s vs)) := hr1
 have HG1 : Hid (G b wn w1) := g1
 have HG01 : Hid (G b w0 w1) := HGn.out.trans g1
 have hc2w := lt_of_block hx1.h2
 have hg1w := hr1.lt
 clear hx1 hr1 g1 b0 b1
 rcases h1 with ⟨er, v, hv, her, her2, rfl, hone⟩ | ⟨j, k', q, v, hv, hpq, hq, hkk, hk2, rfl, hone, hR', hst⟩
 ·have HVal : Hid (value n k (rest t q0) = .error er) := hv
  clear hv
  rcases hone with rfl | ⟨T, x, rfl⟩
  ·skip
   go_wp2_with fail
   refine (insert_any g s.length cap (placeOfName s nm) w1.heap.size (flat s vs) (.string ⟨nm.toArray⟩) (.nilIface) _ (HR1.out.kept (World.grownBy_alloc w1 _ none) (fun e => by cases e)) (by omega) hpl (heap_alloc_new w1 _) (by omega) rfl rfl (flat_one s vs HVo.out)).mono ?_
   rintro e w2 ⟨g', cap', rfl, hrow, hgr⟩
   have hgr2 : ∃ row, (w1.alloc (.cells #[.string ⟨nm.toArray⟩, .nilIface] 86)).grownBy w2 row /\ ((row = some g /\ g' = g) ∨ (row = none /\ w1.heap.size < g')) := by
    rcases hgr with ⟨h1, h2⟩ | ⟨h1, h2⟩
    ·exact ⟨_, h2, Or.inl ⟨rfl, h1⟩⟩
    ·exact ⟨_, h2, Or.inr ⟨rfl, by simp at h1; omega⟩⟩
   obtain ⟨row, hgrow, hcase⟩ := hgr2
   have hx2 := (HX1.out.kept (World.grownBy_alloc w1 (.cells #[.string ⟨nm.toArray⟩, .nilIface] 86) none) (fun e => by cases e) (fun e => by cases e) (fun e => by cases e)).kept hgrow
    (fun e => by subst e; rcases hcase with ⟨h, _⟩ | ⟨h, _⟩ <;> cases h; exact e0 rfl) (fun e => by subst e; rcases hcase with ⟨h, _⟩ | ⟨h, _⟩ <;> cases h; exact e1 rfl) (fun e => by subst e; rcases hcase with ⟨h, _⟩ | ⟨h, _⟩ <;> cases h; exact e2 rfl)
   have f2 := cell_of_one hx2.h2
   have f3 := free_of_one hx2.h2
   have HX2 : Hid (OBox b d c0 cf cd w2 (.slice (some ⟨g, 0, none⟩) s.length cap)) := hx2
   have HG2 : Hid (G b w0 w2) := (HG01.out.alloc _).grown hgrow (fun k e => by subst e; rcases hcase with ⟨h, _⟩ | ⟨h, _⟩ <;> cases h; omega)
   clear hgrow hcase hgr hrow hx2 b2 b3
   go_wp2_with fail
   go_ret
   exact ⟨HG2.out.setNew k2 _, Or.inl ⟨er, by rw [oneField, HNe.out]; simp only [HVal.out], her, her2, rfl, ⟨_, _, _, one_setCell HX2.out.h2⟩⟩⟩
  ·skip
   go_wp2_with fail
   refine (insert_any g s.length cap (placeOfName s nm) w1.heap.size (flat s vs) (.string ⟨nm.toArray⟩) (.iface T x) _ (HR1.out.kept (World.grownBy_alloc w1 _ none) (fun e => by cases e)) (by omega) hpl (heap_alloc_new w1 _) (by omega) rfl rfl (flat_one s vs HVo.out)).mono ?_
   rintro e w2 ⟨g', cap', rfl, hrow, hgr⟩
   have hgr2 : ∃ row, (w1.alloc (.cells #[.string ⟨nm.toArray⟩, .iface T x] 86)).grownBy w2 row /\ ((row = some g /\ g' = g) ∨ (row = none /\ w1.heap.size < g')) := by
    rcases hgr with ⟨h1, h2⟩ | ⟨h1, h2⟩
    ·exact ⟨_, h2, Or.inl ⟨rfl, h1⟩⟩
    ·exact ⟨_, h2, Or.inr ⟨rfl, by simp at h1; omega⟩⟩
   obtain ⟨row, hgrow, hcase⟩ := hgr2
   have hx2 := (HX1.out.kept (World.grownBy_alloc w1 (.cells #[.string ⟨nm.toArray⟩, .iface T x] 86) none) (fun e => by cases e) (fun e => by cases e) (fun e => by cases e)).kept hgrow
    (fun e => by subst e; rcases hcase with ⟨h, _⟩ | ⟨h, _⟩ <;> cases h; exact e0 rfl) (fun e => by subst e; rcases hcase with ⟨h, _⟩ | ⟨h, _⟩ <;> cases h; exact e1 rfl) (fun e => by subst e; rcases hcase with ⟨h, _⟩ | ⟨h, _⟩ <;> cases h; exact e2 rfl)
   have f2 := cell_of_one hx2.h2
   have f3 := free_of_one hx2.h2
   have HX2 : Hid (OBox b d c0 cf cd w2 (.slice (some ⟨g, 0, none⟩) s.length cap)) := hx2
   have HG2 : Hid (G b w0 w2) := (HG01.out.alloc _).grown hgrow (fun k e => by subst e; rcases hcase with ⟨h, _⟩ | ⟨h, _⟩ <;> cases h; omega)
   clear hgrow hcase hgr hrow hx2 b2 b3
   go_wp2_with fail
   go_ret
   exact ⟨HG2.out.setNew k2 _, Or.inl ⟨er, by rw [oneField, HNe.out]; simp only [HVal.out], her, her2, rfl, ⟨_, _, _, one_setCell HX2.out.h2⟩⟩⟩
 ·obtain ⟨T, x, rfl⟩ := hone
  have HVal : Hid (value n k (rest t q0) = .ok (j, k', rest t q)) := hv
  have HR' : Hid (Rd b t q k' w1) := hR'
  have HSt : Hid (St (fun c => c < wn.heap.size) w1 n j (.iface T x)) := hst
  clear hv hR' hst
  go_wp2_with fail
  refine (insert_any g s.length cap (placeOfName s nm) w1.heap.size (flat s vs) (.string ⟨nm.toArray⟩) (.iface T x) _ (HR1.out.kept (World.grownBy_alloc w1 _ none) (fun e => by cases e)) (by omega) hpl (heap_alloc_new w1 _) (by omega) rfl rfl (flat_one s vs HVo.out)).mono ?_
  rintro e w2 ⟨g', cap', rfl, hrow, hgr⟩
  have hgr2 : ∃ row, (w1.alloc (.cells #[.string ⟨nm.toArray⟩, .iface T x] 86)).grownBy w2 row /\ ((row = some g /\ g' = g) ∨ (row = none /\ w1.heap.size < g')) := by
   rcases hgr with ⟨h1, h2⟩ | ⟨h1, h2⟩
   ·exact ⟨_, h2, Or.inl ⟨rfl, h1⟩⟩
   ·exact ⟨_, h2, Or.inr ⟨rfl, by simp at h1; omega⟩⟩
  obtain ⟨row, hgrow, hcase⟩ := hgr2
  have hx2 := (HX1.out.kept (World.grownBy_alloc w1 (.cells #[.string ⟨nm.toArray⟩, .iface T x] 86) none) (fun e => by cases e) (fun e => by cases e) (fun e => by cases e)).kept hgrow
   (fun e => by subst e; rcases hcase with ⟨h, _⟩ | ⟨h, _⟩ <;> cases h; exact e0 rfl) (fun e => by subst e; rcases hcase with ⟨h, _⟩ | ⟨h, _⟩ <;> cases h; exact e1 rfl) (fun e => by subst e; rcases hcase with ⟨h, _⟩ | ⟨h, _⟩ <;> cases h; exact e2 rfl)
  have f2 := cell_of_one hx2.h2
  have f3 := free_of_one hx2.h2
  have HX2 : Hid (OBox b d c0 cf cd w2 (.slice (some ⟨g, 0, none⟩) s.length cap)) := hx2
  have HG2 : Hid (G b w0 w2) := (HG01.out.alloc _).grown hgrow (fun k e => by subst e; rcases hcase with ⟨h, _⟩ | ⟨h, _⟩ <;> cases h; omega)
  have HL : Hid (OInv b d c0 cf cd w0.heap.size (cf + 1) n (insertAt s nm j) k' (w2.setCell ⟨cf, 0, none⟩ (.slice (some ⟨g', 0, none⟩) (s.length + 1) cap'))) :=
   oinv_step HRi.out HAny.out HXn.out HRn.out HVl.out HVo.out rfl hgN e0 e1 e2 HEn.out hb k0 k1 k2 (by omega) (by omega) (by omega) (by omega) (by omega) HG1.out HSt.out hgrow hrow hcase (by omega)
  have HR2 : Hid (Rd b t q k' (w2.setCell ⟨cf, 0, none⟩ (.slice (some ⟨g', 0, none⟩) (s.length + 1) cap'))) :=
   (((HR'.out.alloc _).kept hgrow (fun e => by subst e; rcases hcase with ⟨h, _⟩ | ⟨h, _⟩ <;> cases h; omega))).kept (grownBy_setCell w2 cf 0 _) (fun e => by cases e; omega)
  clear hgrow hcase hgr hrow hx2 b2 b3
  go_wp2_with fail
  go_ret
  exact ⟨HG2.out.setNew k2 _, Or.inr ⟨insertAt s nm j, k', q, by rw [oneField, HNe.out]; simp only [HVal.out], by omega, hq, hk2, rfl, HR2.out, HL.out⟩⟩
theorem oinv_start (b : Nat) (d : Int) (n k : Nat) (w : World) (hb : b < w.heap.size) :
  OInv b d w.heap.size (w.heap.size + 1 + 1 + 1) (w.heap.size + 1) w.heap.size (w.heap.size + 1 + 1 + 1 + 1) n [] k ((((w.alloc (.cells #[.pointer (some ⟨b, 0, none⟩)] 97)).alloc (.cells #[.int .i64 d] 3)).alloc (.cells #[] 86)).alloc (.cells #[.slice (some ⟨w.heap.size + 1 + 1, 0, none⟩) 0 0] 53)) := by
 have hz : ∀ (x : World) (o : Obj), (x.alloc o).heap.size = x.heap.size + 1 := fun x o => by simp
 generalize e1 : w.alloc (.cells #[.pointer (some ⟨b, 0, none⟩)] 97) = w1
 generalize e2 : w1.alloc (.cells #[.int .i64 d] 3) = w2
 generalize e3 : w2.alloc (.cells #[] 86) = w3
 have z1 : w1.heap.size = w.heap.size + 1 := by rw [<- e1, hz]
 have z2 : w2.heap.size = w.heap.size + 1 + 1 := by rw [<- e2, hz, z1]
 have z3 : w3.heap.size = w.heap.size + 1 + 1 + 1 := by rw [<- e3, hz, z2]
 have b0 : w1.heap[w.heap.size]? = some (.cells #[.pointer (some ⟨b, 0, none⟩)] 97 (0, 0)) := by rw [<- e1]; exact heap_alloc_new w _
 have b1 : w2.heap[w.heap.size + 1]? = some (.cells #[.int .i64 d] 3 (0, 0)) := by rw [<- e2, <- z1]; exact heap_alloc_new w1 _
 have b2 : w3.heap[w.heap.size + 1 + 1]? = some (.cells #[] 86 (0, 0)) := by rw [<- e3, <- z2]; exact heap_alloc_new w2 _
 have up2 : ∀ c, c < w1.heap.size -> w2.heap[c]? = w1.heap[c]? := fun c hc => by rw [<- e2]; exact Below.heap_alloc w1 _ c hc
 have up3 : ∀ c, c < w2.heap.size -> w3.heap[c]? = w2.heap[c]? := fun c hc => by rw [<- e3]; exact Below.heap_alloc w2 _ c hc
 have up4 : ∀ o c, c < w3.heap.size -> (w3.alloc o).heap[c]? = w3.heap[c]? := fun o c hc => Below.heap_alloc w3 _ c hc
 refine ⟨Nat.zero_le _, List.Pairwise.nil, w.heap.size + 1 + 1, 0, [], ⟨?_, ?_, ?_⟩, ⟨rfl, #[], ?_, Nat.le_refl _, by unfold maxLen; omega, rfl, rfl⟩, rfl, fun u hu => by simp at hu, by omega, by omega, by omega, by omega, fun i x u hx _ => by simp at hx⟩
 ·rw [up4 _ _ (by omega), up3 _ (by omega), up2 _ (by omega)]; exact b0
 ·rw [up4 _ _ (by omega), up3 _ (by omega)]; exact b1
 ·rw [<- z3]; exact heap_alloc_new w3 _
 ·rw [up4 _ _ (by omega)]; exact b2
def ObjPost (b : Nat) (t : ByteArray) (p k n : Nat) (w : World) (e : Ending) (w' : World) : Prop :=
 G b w w' /\ ((∃ (er : Nat) (v : Value), row 125 (oneField (value n)) [] k (rest t p) = .error er /\ er ≠ 0 /\ er < 100 /\ e = .returned (.tuple #[v, .int .i64 er]) /\ (v = .nilIface ∨ ∃ T x, v = .iface T x)) ∨
  ∃ (s : List (Bs × J n)) (k' q : Nat) (v : Value), row 125 (oneField (value n)) [] k (rest t p) = .ok (s, k', rest t q) /\ p < q /\ q <= t.size /\ k' <= 200 /\ e = .returned (.tuple #[v, .int .i64 0]) /\ (∃ T x, v = .iface T x) /\ Rd b t q k' w' /\ St (fun c => c < w.heap.size) w' (n + 1) (Sum.inr (Sum.inr s)) v)
set_option maxRecDepth 100000 in
set_option maxHeartbeats 4000000 in
theorem object_any (n b : Nat) (t : ByteArray) (p k : Nat) (d : Int) (w : World) (hV : ValueOK n) (hd : d + n = 10) (hd0 : 0 <= d) (h : Rd b t p k w) (hlt : p < t.size) (ht : t.size <= 2000) (hk : k <= 200) :
  Calls Tryz.prog 61 #[.pointer (some ⟨b, 0, none⟩), .int .i64 d] w (ObjPost b t p k n w) := by
 have hbw := h.lt
 have HR : Hid (Rd b t p k w) := h
 have HV : Hid (ValueOK n) := hV
 clear h hV
 have HL : Hid (OInv b d w.heap.size (w.heap.size + 1 + 1 + 1) (w.heap.size + 1) w.heap.size (w.heap.size + 1 + 1 + 1 + 1) n [] k ((((w.alloc (.cells #[.pointer (some ⟨b, 0, none⟩)] 97)).alloc (.cells #[.int .i64 d] 3)).alloc (.cells #[] 86)).alloc (.cells #[.slice (some ⟨w.heap.size + 1 + 1, 0, none⟩) 0 0] 53))) := oinv_start b d n k w hbw
 go_enter Tryz.func61, Tryz.ntmps61
 go_wp2_with fail
 refine (row_object b t p k w.heap.size (w.heap.size + 1 + 1 + 1) (w.heap.size + 1) 125 [] w _ (oneField (value n)) (OInv b d w.heap.size (w.heap.size + 1 + 1 + 1) (w.heap.size + 1) w.heap.size (w.heap.size + 1 + 1 + 1 + 1) n) (OErr (w.heap.size + 1 + 1 + 1))
  ((((HR.out.alloc _).alloc _).alloc _).alloc _) hlt ht hk HL.out (((((G.refl b w).alloc _).alloc _).alloc _).alloc _) (by decide)
  (object_one n b t d _ _ _ w HV.out hd hd0 ht hbw (by omega) (by omega) (by omega) (by omega) (by omega))
  (fun s k w1 w2 hi hg => hi.kept hg hbw (by omega) (by omega) (by omega) (by omega)) (fun s k w1 hi => hi.err)).mono ?_
 rintro e w1 ⟨g1, h1⟩
 have HG1 : Hid (G b w w1) := g1
 clear g1 HL
 rcases h1 with ⟨er, hr, her, h100, rfl, he⟩ | ⟨s, k', q, hr, hpq, hq, hk2, rfl, hR, hI⟩
 ·obtain ⟨a, m, cap, hc⟩ := he
  have c2 := cell_of_one hc
  have HRw : Hid (row 125 (oneField (value n)) [] k (rest t p) = .error er) := hr
  clear hr hc
  go_wp2_with fail
  go_ret2
  exact ⟨HG1.out, Or.inl ⟨er, _, HRw.out, her, h100, rfl, Or.inr ⟨_, _, rfl⟩⟩⟩
 ·obtain ⟨hsk, hri, g, cap, vs, hx, hrw, hvl, hvo, hgN, e0, e1, e2, hel⟩ := hI
  have c2 := cell_of_one hx.h2
  have HRw : Hid (row 125 (oneField (value n)) [] k (rest t p) = .ok (s, k', rest t q)) := hr
  have HR1 : Hid (Rd b t q k' w1) := hR
  have HS : Hid (St (fun c => c < w.heap.size) w1 (n + 1) (Sum.inr (Sum.inr s)) (.iface 53 (.slice (some ⟨g, 0, none⟩) s.length cap))) :=
   st_object (vs := vs) hvl hrw.caps.1 hrw.caps.2 (by omega) hrw.lt (row_fields hrw hvl).2 (fun i x u hx hu => (hel i x u hx hu).mono (fun c _ hc => Or.inl (by omega)))
  clear hr hx hrw hel hR hri hvo hvl
  go_wp2_with fail
  go_ret2
  exact ⟨HG1.out, Or.inr ⟨s, k', q, _, HRw.out, hpq, hq, hk2, rfl, ⟨_, _, rfl⟩, HR1.out, HS.out⟩⟩
end Go.Proofs.YtjcdklbimaclkaaGreatDoor
