import Derived.Test.YtjcdklbimaclkaaGreatDoorGAa
import Derived.Test.YtjcdklbimaclkaaGreatDoorGAc
import Derived.IntWalk
import Derived.Lib.Replace
import Derived.Lib.SplitLaws
import Derived.Test.YtjcdklbimaclkaaGreatDoorShelf
import Derived.WalkKit
import Derived.WalkSpells
import Derived.BigQuiet
import Derived.Test.YtjcdklbimaclkaaGreatDoorGAk
import Derived.Test.YtjcdklbimaclkaaGreatDoorGAl
namespace Go.Proofs.YtjcdklbimaclkaaGreatDoor
open Go.RowKit
set_option linter.unusedVariables false
set_option linter.unusedSimpArgs false
theorem nDig_le (u : Nat) (h : u < 18446744073709551616) : (Lib.decDigits u).length <= 40 := by
 rw [Lib.decDigits_length]
 rcases Nat.lt_or_ge (Lib.nDigits u) 21 with h' | h'
 ·omega
 ·have h1 := Lib.lt_pow_nDigits (u / 10)
  exfalso
  have key : ∀ k v : Nat, k + 1 <= Lib.nDigits v -> k = 0 ∨ 10 ^ k <= v := by
   intro k
   induction k with
   | zero => intro v _; exact Or.inl rfl
   | succ k ih =>
    intro v hv
    right
    by_cases hs : v < 10
    ·rw [Lib.nDigits_small hs] at hv; omega
    ·rw [Lib.nDigits_big hs] at hv
     rcases ih (v / 10) (by omega) with h0 | h0
     ·subst h0; omega
     ·have : 10 ^ (k + 1) = 10 ^ k * 10 := Nat.pow_succ 10 k
      omega
  rcases key 20 u (by omega) with h0 | h0
  ·omega
  ·omega
set_option maxRecDepth 100000 in
set_option maxHeartbeats 1000000 in
theorem rfdigits_any : ∀ (u : Nat), u < 18446744073709551616 -> ∀ (w : World), Calls Tryz.prog 73 #[.int .u64 u] w fun e w' => e = .returned (.string ⟨(Lib.decDigits u).toArray⟩) /\ Below w.heap.size w w' := by
 intro u
 induction u using Nat.strongRecOn with
 | _ u ih =>
  intro hu w
  by_cases hs : u < 10
  ·have hI : (u : Int) < 10 := by omega
   obtain ⟨c, hcc⟩ : ∃ c, c = UInt8.ofNat (48 + u) := ⟨_, rfl⟩
   have HD : Hid (Lib.decDigits u = [c]) := by show _ = _; rw [hcc]; exact Lib.decDigits_one hs
   have HC : Hid ((48 + (u : Int)) = (c.toNat : Int)) := by
    show _ = _
    rw [hcc, UInt8.toNat_ofNat']
    omega
   clear hcc ih
   go_enter Tryz.func73, Tryz.ntmps73
   go_wp2_with fail
   refine Calls.mono (chr_at c w _ HC.out) ?_
   rintro e w1 ⟨rfl, b1⟩
   have HB : Hid (Below w.heap.size w w1) := b1
   clear b1
   go_wp2_with fail
   go_ret
   exact ⟨by rw [HD.out]; rfl, HB.out⟩
  ·have hI : ¬ (u : Int) < 10 := by omega
   obtain ⟨c, hcc⟩ : ∃ c, c = UInt8.ofNat (48 + u % 10) := ⟨_, rfl⟩
   have HD : Hid (Lib.decDigits u = Lib.decDigits (u / 10) ++ [c]) := by
    show Lib.decDigits u = _
    rw [hcc, Lib.decDigits, dif_neg hs]
   have HC : Hid ((48 + ((u : Int) % 10)) = (c.toNat : Int)) := by
    show _ = _
    rw [hcc, UInt8.toNat_ofNat']
    omega
   have hq1 : Op.intDiv .quo .u64 (u : Int) 10 = pure (.int .u64 ((u / 10 : Nat) : Int)) := by
    have h9 := Go.IntWalk.u64_quo (u : Int) 10 (by omega)
    simp only [Op.intDiv]
    rw [if_neg (by decide), h9]
    rfl
   have hq2 : Op.intDiv .rem .u64 (u : Int) 10 = pure (.int .u64 ((u : Int) % 10)) := by
    simp only [Op.intDiv]
    rw [if_neg (by decide), Int.tmod_eq_emod_of_nonneg (by omega)]
   have HIh : Hid (∀ (w : World), Calls Tryz.prog 73 #[.int .u64 ((u : Int) / 10)] w fun e w' => e = .returned (.string ⟨(Lib.decDigits (u / 10)).toArray⟩) /\ Below w.heap.size w w') := by
    intro w
    have h9 := ih (u / 10) (by omega) (by omega) w
    have e9 : ((u / 10 : Nat) : Int) = (u : Int) / 10 := by omega
    rw [e9] at h9
    exact h9
   have hq3 : Op.intDiv .quo .u64 (u : Int) 10 = pure (.int .u64 ((u : Int) / 10)) := by
    rw [hq1]
    have e9 : ((u / 10 : Nat) : Int) = (u : Int) / 10 := by omega
    rw [e9]
   have hl := nDig_le (u / 10) (by omega)
   clear ih hcc hq1
   go_enter Tryz.func73, Tryz.ntmps73
   go_wp2_with fail
   refine (HIh.out w).mono ?_
   rintro e w1 ⟨rfl, b1⟩
   have HB1 : Hid (Below w.heap.size w w1) := b1
   have HZl : Hid ((⟨(Lib.decDigits (u / 10)).toArray⟩ : ByteArray).size <= 40) := by show _ <= _; simpa [ByteArray.size] using hl
   have HS : Hid ((⟨(Lib.decDigits (u / 10)).toArray⟩ : ByteArray) ++ ⟨#[c]⟩ = ⟨(Lib.decDigits u).toArray⟩) := by
    show _ = _
    rw [HD.out, str_snoc]
   clear b1 hl
   generalize (⟨(Lib.decDigits (u / 10)).toArray⟩ : ByteArray) = x at *
   go_wp2_with fail
   refine Calls.mono (chr_at c w1 _ HC.out) ?_
   rintro e w2 ⟨rfl, b2⟩
   have HB2 : Hid (Below w.heap.size w w2) := HB1.out.trans (b2.mono HB1.out.size)
   have hz := HZl.out
   have q1 : ¬ 9223372036854775807 < x.size + 1 := by omega
   clear b2
   go_wp2_with fail
   go_ret
   exact ⟨by rw [<- HS.out]; rfl, HB2.out⟩
set_option maxRecDepth 100000 in
set_option maxHeartbeats 1000000 in
theorem rfDigits_any (i : Int) (h1 : -9223372036854775808 <= i) (h2 : i <= 9223372036854775807) (w : World) : Calls Tryz.prog 52 #[.int .i64 i] w fun e w' => e = .returned (.string ⟨(Lib.itoa i).toArray⟩) /\ Below w.heap.size w w' := by
 by_cases hn : i < 0
 ·have HD : Hid (Lib.itoa i = 45 :: Lib.decDigits i.natAbs) := by show Lib.itoa i = _; rw [Lib.itoa, if_pos hn]
  have hl := nDig_le i.natAbs (by omega)
  have HW : Hid (IntKind.u64.wrap (-IntKind.u64.wrap i) = (i.natAbs : Int)) := by
   show _ = _
   first
    | (rw [IntKind.wrap_u64, IntKind.wrap_u64]; omega)
    | (simp only [IntKind.wrap]; simp; omega)
  go_enter Tryz.func52, Tryz.ntmps52
  go_wp2_with fail
  rw [HW.out]
  refine (rfdigits_any i.natAbs (by omega) w).mono ?_
  rintro e w1 ⟨rfl, b1⟩
  have HB1 : Hid (Below w.heap.size w w1) := b1
  have HZl : Hid ((⟨(Lib.decDigits i.natAbs).toArray⟩ : ByteArray).size <= 40) := by show _ <= _; simpa [ByteArray.size] using hl
  have HS : Hid ((⟨#[45]⟩ : ByteArray) ++ ⟨(Lib.decDigits i.natAbs).toArray⟩ = ⟨(Lib.itoa i).toArray⟩) := by
   show _ = _
   rw [HD.out]
   apply ByteArray.ext
   simp [ByteArray.data_append]
  clear b1 hl
  generalize (⟨(Lib.decDigits i.natAbs).toArray⟩ : ByteArray) = x at *
  have hz := HZl.out
  have q1 : ¬ 9223372036854775807 < 1 + x.size := by omega
  go_wp2_with fail
  go_ret
  exact ⟨by rw [<- HS.out]; rfl, HB1.out⟩
 ·have HD : Hid (Lib.itoa i = Lib.decDigits i.toNat) := by show Lib.itoa i = _; rw [Lib.itoa, if_neg hn]
  have HI : Hid ((i.toNat : Int) = i) := by show _ = _; omega
  have h9 := rfdigits_any i.toNat (by omega) w
  rw [HI.out] at h9
  have H9 : Hid (Calls Tryz.prog 73 #[.int .u64 i] w fun e w' => e = .returned (.string ⟨(Lib.decDigits i.toNat).toArray⟩) /\ Below w.heap.size w w') := h9
  clear h9
  go_enter Tryz.func52, Tryz.ntmps52
  go_wp2_with fail
  refine Calls.mono H9.out ?_
  rintro e w1 ⟨rfl, b1⟩
  have HB1 : Hid (Below w.heap.size w w1) := b1
  rw [<- HD.out]
  obtain ⟨x, hx⟩ : ∃ x, x = (⟨(Lib.itoa i).toArray⟩ : ByteArray) := ⟨_, rfl⟩
  rw [<- hx]
  have HXx : Hid (x = (⟨(Lib.itoa i).toArray⟩ : ByteArray)) := hx
  clear b1 hx
  go_wp2_with fail
  go_ret
  exact ⟨by rw [<- HXx.out]; rfl, HB1.out⟩
end Go.Proofs.YtjcdklbimaclkaaGreatDoor
namespace Go.Proofs.YtjcdklbimaclkaaGreatDoor
set_option linter.unusedVariables false
set_option linter.unusedSimpArgs false
theorem index_cons (b : UInt8) (l sub : Bs) (h : sub.isPrefixOf (b :: l) = false) : Lib.index (b :: l) sub = if Lib.index l sub == -1 then -1 else Lib.index l sub + 1 := by
 rw [Lib.index, h]
 simp
theorem index_pre (s sub : Bs) (h : sub.isPrefixOf s = true) (hs : s ≠ []) : Lib.index s sub = ((0 : Nat) : Int) := by
 cases s with
 | nil => exact absurd rfl hs
 | cons b l =>
  rw [Lib.index, h]
  simp
theorem index_nil (sub : Bs) (h : sub ≠ []) : Lib.index [] sub = -1 := by
 cases sub with
 | nil => exact absurd rfl h
 | cons c r => simp [Lib.index]
def rep (old new s : Bs) : Bs := Lib.replaceK old new (Lib.count s old) s
theorem replaceAll_rep (s old new : Bs) (h : old ≠ new) : Lib.replaceAll s old new = rep old new s := by
 unfold Lib.replaceAll Lib.replace rep
 rw [if_neg (by simpa using h)]
 unfold Lib.replaceNum
 rw [if_pos (Or.inl (by decide))]
theorem rep_nil (old new : Bs) (h : old ≠ []) : rep old new [] = [] := by
 unfold rep
 rw [Lib.count_miss (index_nil old h)]
 rfl
theorem rep_hit (old new s : Bs) (h : old ≠ []) (hp : old.isPrefixOf s = true) : rep old new s = new ++ rep old new (s.drop old.length) := by
 have hs : s ≠ [] := by
  rintro rfl
  cases old with
  | nil => exact h rfl
  | cons c r => simp at hp
 have hi := index_pre s old hp hs
 unfold rep
 rw [Lib.count_hit (by simpa using h) hi, Nat.zero_add, Nat.add_comm, Lib.replaceK_hit _ _ _ _ 0 hi]
 simp
theorem rep_miss (old new : Bs) (b : UInt8) (l : Bs) (h : old ≠ []) (hp : old.isPrefixOf (b :: l) = false) : rep old new (b :: l) = b :: rep old new l := by
 have hx := index_cons b l old hp
 unfold rep
 by_cases hm : Lib.index l old = -1
 ·rw [Lib.count_miss hm, Lib.count_miss (by rw [hx, if_pos (beq_iff_eq.2 hm)])]
  rfl
 ·have hge := Lib.index_ge l old
  obtain ⟨j, hj⟩ : ∃ j : Nat, Lib.index l old = j := ⟨(Lib.index l old).toNat, by omega⟩
  have hx' : Lib.index (b :: l) old = ((j + 1 : Nat) : Int) := by rw [hx, if_neg (fun e => hm (beq_iff_eq.1 e)), hj]; omega
  have e1 : (b :: l).drop (j + 1 + old.length) = l.drop (j + old.length) := by
   rw [show j + 1 + old.length = (j + old.length) + 1 from by omega]
   rfl
  rw [Lib.count_hit (by simpa using h) hj, Lib.count_hit (by simpa using h) hx', e1, Nat.add_comm 1, Lib.replaceK_hit _ _ _ _ (j + 1) hx', Lib.replaceK_hit _ _ _ _ j hj, e1]
  simp
theorem rep_one (c : UInt8) (new : Bs) : ∀ s : Bs, rep [c] new s = s.flatMap fun b => if b = c then new else [b]
 | [] => rep_nil _ _ (by simp)
 | b :: l => by
  by_cases h : b = c
  ·subst h
   rw [rep_hit [b] new (b :: l) (by simp) (by simp), List.flatMap_cons, if_pos rfl]
   simp only [List.length_singleton, List.drop_succ_cons, List.drop_zero]
   rw [rep_one b new l]
  ·rw [rep_miss [c] new b l (by simp) (by simp [List.isPrefixOf, Ne.symm h]), List.flatMap_cons, if_neg h, rep_one c new l]
   rfl
/-! Pointers. -/
end Go.Proofs.YtjcdklbimaclkaaGreatDoor
namespace Go.Proofs.YtjcdklbimaclkaaGreatDoor
open Go.RowKit
set_option linter.unusedVariables false
set_option linter.unusedSimpArgs false
theorem rep_one_len (c : UInt8) (new : Bs) (hn : new.length <= 2) : ∀ s : Bs, (rep [c] new s).length <= 2 * s.length := by
 intro s
 rw [rep_one]
 induction s with
 | nil => simp
 | cons b s ih =>
  rw [List.flatMap_cons, List.length_append, List.length_cons]
  have : (if b = c then new else [b]).length <= 2 := by split <;> simp [hn]
  omega
theorem room_rep (s old new : ByteArray) (h1 : 1 <= old.size) (hn : new.size <= 2) (hs : s.size <= 100000000) : s.size + Lib.countB s old * new.size <= 140737488355328 := by
 have h := Lib.countB_le old h1 _ s (Nat.le_refl _)
 have := Nat.mul_le_mul h hn
 omega
def Room (w : World) : Prop := 0 < w.heap.size /\ ∃ m, w.cell? ⟨0, 0, none⟩ = some (.int .i64 m)
theorem Room.below {w w' : World} (h : Room w) (hb : Below w.heap.size w w') : Room w' := by
 obtain ⟨h0, m, hm⟩ := h
 exact ⟨by have := hb.size; omega, m, by rw [hb.cell (p := ⟨0, 0, none⟩) h0]; exact hm⟩
theorem Room.of {w : World} {m : Int} (h : w.cell? ⟨0, 0, none⟩ = some (.int .i64 m)) : Room w := by
 refine ⟨?_, m, h⟩
 rcases Nat.eq_zero_or_pos w.heap.size with h0 | h0
 ·simp [World.cell?, h0] at h
 ·exact h0
theorem size_ofR (l : Bs) : (⟨l.toArray⟩ : ByteArray).size = l.length := by simp [ByteArray.size]
theorem rep4_quote (s : Bs) : 34 :: (rep [9] [92, 116] (rep [10] [92, 110] (rep [34] [92, 34] (rep [92] [92, 92] s))) ++ [34]) = quote s := by
 unfold quote
 rw [rep_one, rep_one, rep_one, rep_one]
 have h : ∀ s : Bs, (((s.flatMap fun b => if b = 92 then [92, 92] else [b]).flatMap fun b => if b = 34 then [92, 34] else [b]).flatMap fun b => if b = 10 then [92, 110] else [b]).flatMap (fun b => if b = 9 then [92, 116] else [b]) = s.flatMap quoteB := by
  intro s
  induction s with
  | nil => rfl
  | cons c s ih =>
   simp only [List.flatMap_cons, List.flatMap_append]
   rw [ih]
   congr 1
   unfold quoteB
   by_cases h92 : c = 92
   ·subst h92; rfl
   by_cases h34 : c = 34
   ·subst h34; rfl
   by_cases h10 : c = 10
   ·subst h10; rfl
   by_cases h9 : c = 9
   ·subst h9; rfl
   simp [h92, h34, h10, h9]
 rw [h]
set_option maxRecDepth 100000 in
set_option maxHeartbeats 2000000 in
theorem rfquoted_any (s : ByteArray) (w : World) (hs : s.size <= 1100000) (hR : Room w) :
  Calls Tryz.prog 53 #[.string s] w fun e w' => e = .returned (.string ⟨(quote s.data.toList).toArray⟩) /\ Below w.heap.size w w' := by
 have HQ : Hid (34 :: (rep [9] [92, 116] (rep [10] [92, 110] (rep [34] [92, 34] (rep [92] [92, 92] s.data.toList))) ++ [34]) = quote s.data.toList) := rep4_quote _
 have HB0 : Hid (Below w.heap.size w w) := Below.refl _ _
 have HRm0 : Hid (Room w) := hR
 have HD0 : Hid (s.data.toList = s.data.toList) := rfl
 obtain ⟨h0, m0, hm0⟩ := hR
 go_enter Tryz.func53, Tryz.ntmps53
 go_wp2_with fail
 refine (Tryz.strings_ReplaceAll s ⟨#[92]⟩ ⟨#[92, 92]⟩ m0 _ (by omega) hm0 (by decide) (room_rep _ _ _ (by decide) (by decide) (by omega))).mono ?_
 rintro e w1 ⟨rfl, b1⟩
 have HB1 : Hid (Below w.heap.size w w1) := HB0.out.trans (b1.mono HB0.out.size)
 have HRm1 : Hid (Room w1) := HRm0.out.below b1
 obtain ⟨h01, m1, hm1⟩ := HRm1.out
 rw [show Lib.replaceAll s.data.toList (⟨#[92]⟩ : ByteArray).data.toList (⟨#[92, 92]⟩ : ByteArray).data.toList = rep [92] [92, 92] s.data.toList from by exact replaceAll_rep _ _ _ (by simp)]
 have hl1 : (rep [92] [92, 92] s.data.toList).length <= 2 * s.size := by
  have h9 := rep_one_len 92 [92, 92] (by simp) s.data.toList
  have h8 : (s.data.toList).length = s.size := by simp
  omega
 have hz1 : (⟨(rep [92] [92, 92] s.data.toList).toArray⟩ : ByteArray).size <= 2200000 := by rw [size_ofR]; omega
 have HD1 : Hid ((⟨(rep [92] [92, 92] s.data.toList).toArray⟩ : ByteArray).data.toList = rep [92] [92, 92] s.data.toList) := by
  show _ = _
  simp
 clear b1 hl1 hm0
 generalize hx1 : (⟨(rep [92] [92, 92] s.data.toList).toArray⟩ : ByteArray) = x1 at *
 generalize rep [92] [92, 92] s.data.toList = y1 at *
 clear hx1
 go_wp2_with fail
 refine (Tryz.strings_ReplaceAll x1 ⟨#[34]⟩ ⟨#[92, 34]⟩ m1 _ (by omega) hm1 (by decide) (room_rep _ _ _ (by decide) (by decide) (by omega))).mono ?_
 rintro e w2 ⟨rfl, b2⟩
 have HB2 : Hid (Below w.heap.size w w2) := HB1.out.trans (b2.mono HB1.out.size)
 have HRm2 : Hid (Room w2) := HRm1.out.below b2
 obtain ⟨h02, m2, hm2⟩ := HRm2.out
 rw [show Lib.replaceAll x1.data.toList (⟨#[34]⟩ : ByteArray).data.toList (⟨#[92, 34]⟩ : ByteArray).data.toList = rep [34] [92, 34] y1 from by rw [HD1.out]; exact replaceAll_rep _ _ _ (by simp)]
 have hl2 : (rep [34] [92, 34] y1).length <= 2 * x1.size := by
  have h9 := rep_one_len 34 [92, 34] (by simp) y1
  have h8 : (y1).length = x1.size := by rw [<- HD1.out]; simp
  omega
 have hz2 : (⟨(rep [34] [92, 34] y1).toArray⟩ : ByteArray).size <= 4400000 := by rw [size_ofR]; omega
 have HD2 : Hid ((⟨(rep [34] [92, 34] y1).toArray⟩ : ByteArray).data.toList = rep [34] [92, 34] y1) := by
  show _ = _
  simp
 clear b2 hl2 hm1
 generalize hx2 : (⟨(rep [34] [92, 34] y1).toArray⟩ : ByteArray) = x2 at *
 generalize rep [34] [92, 34] y1 = y2 at *
 clear hx2
 go_wp2_with fail
 refine (Tryz.strings_ReplaceAll x2 ⟨#[10]⟩ ⟨#[92, 110]⟩ m2 _ (by omega) hm2 (by decide) (room_rep _ _ _ (by decide) (by decide) (by omega))).mono ?_
 rintro e w3 ⟨rfl, b3⟩
 have HB3 : Hid (Below w.heap.size w w3) := HB2.out.trans (b3.mono HB2.out.size)
 have HRm3 : Hid (Room w3) := HRm2.out.below b3
 obtain ⟨h03, m3, hm3⟩ := HRm3.out
 rw [show Lib.replaceAll x2.data.toList (⟨#[10]⟩ : ByteArray).data.toList (⟨#[92, 110]⟩ : ByteArray).data.toList = rep [10] [92, 110] y2 from by rw [HD2.out]; exact replaceAll_rep _ _ _ (by simp)]
 have hl3 : (rep [10] [92, 110] y2).length <= 2 * x2.size := by
  have h9 := rep_one_len 10 [92, 110] (by simp) y2
  have h8 : (y2).length = x2.size := by rw [<- HD2.out]; simp
  omega
 have hz3 : (⟨(rep [10] [92, 110] y2).toArray⟩ : ByteArray).size <= 8800000 := by rw [size_ofR]; omega
 have HD3 : Hid ((⟨(rep [10] [92, 110] y2).toArray⟩ : ByteArray).data.toList = rep [10] [92, 110] y2) := by
  show _ = _
  simp
 clear b3 hl3 hm2
 generalize hx3 : (⟨(rep [10] [92, 110] y2).toArray⟩ : ByteArray) = x3 at *
 generalize rep [10] [92, 110] y2 = y3 at *
 clear hx3
 go_wp2_with fail
 refine (Tryz.strings_ReplaceAll x3 ⟨#[9]⟩ ⟨#[92, 116]⟩ m3 _ (by omega) hm3 (by decide) (room_rep _ _ _ (by decide) (by decide) (by omega))).mono ?_
 rintro e w4 ⟨rfl, b4⟩
 have HB4 : Hid (Below w.heap.size w w4) := HB3.out.trans (b4.mono HB3.out.size)
 have HRm4 : Hid (Room w4) := HRm3.out.below b4
 obtain ⟨h04, m4, hm4⟩ := HRm4.out
 rw [show Lib.replaceAll x3.data.toList (⟨#[9]⟩ : ByteArray).data.toList (⟨#[92, 116]⟩ : ByteArray).data.toList = rep [9] [92, 116] y3 from by rw [HD3.out]; exact replaceAll_rep _ _ _ (by simp)]
 have hl4 : (rep [9] [92, 116] y3).length <= 2 * x3.size := by
  have h9 := rep_one_len 9 [92, 116] (by simp) y3
  have h8 : (y3).length = x3.size := by rw [<- HD3.out]; simp
  omega
 have hz4 : (⟨(rep [9] [92, 116] y3).toArray⟩ : ByteArray).size <= 17600000 := by rw [size_ofR]; omega
 have HD4 : Hid ((⟨(rep [9] [92, 116] y3).toArray⟩ : ByteArray).data.toList = rep [9] [92, 116] y3) := by
  show _ = _
  simp
 clear b4 hl4 hm3
 generalize hx4 : (⟨(rep [9] [92, 116] y3).toArray⟩ : ByteArray) = x4 at *
 generalize rep [9] [92, 116] y3 = y4 at *
 clear hx4
 have q1 : ¬ 9223372036854775807 < 1 + x4.size := by omega
 have q2 : ¬ 9223372036854775807 < 1 + x4.size + 1 := by omega
 have HZ : Hid ((⟨#[34]⟩ : ByteArray) ++ x4 ++ ⟨#[34]⟩ = ⟨(quote s.data.toList).toArray⟩) := by
  show _ = _
  rw [<- HQ.out, <- HD4.out]
  apply ByteArray.ext
  simp [ByteArray.data_append]
 go_wp2_with fail
 go_ret
 exact ⟨by rw [<- HZ.out]; rfl, HB4.out⟩
def RTextOK (n : Nat) : Prop := ∀ (av : Nat -> Prop) (j : J n) (v : Value) (w : World), RSt av w n j v -> Fit n j -> (tell n j).length <= 100000 -> Room w ->
 Calls Tryz.prog 36 #[v] w fun e w' => e = .returned (.string ⟨(tell n j).toArray⟩) /\ Below w.heap.size w w'
set_option maxRecDepth 100000 in
set_option maxHeartbeats 2000000 in
theorem rftext_null (w : World) (pa pb : Option Addr) (na ca nb cb : Nat) : Calls Tryz.prog 36 #[rfV ⟨1, false, 0, []⟩ (.slice pa na ca) (.slice pb nb cb)] w fun e w' => e = .returned (.string ⟨(tellLeaf (none)).toArray⟩) /\ Below w.heap.size w w' := by
 unfold rfV
 go_enter Tryz.func36, Tryz.ntmps36
 go_wp2_with fail
 go_ret
 exact ⟨rfl, (Below.refl _ _).alloc (Nat.le_refl _) _⟩
set_option maxRecDepth 100000 in
set_option maxHeartbeats 2000000 in
theorem rftext_true (w : World) (pa pb : Option Addr) (na ca nb cb : Nat) : Calls Tryz.prog 36 #[rfV ⟨2, true, 0, []⟩ (.slice pa na ca) (.slice pb nb cb)] w fun e w' => e = .returned (.string ⟨(tellLeaf (some (Sum.inl true))).toArray⟩) /\ Below w.heap.size w w' := by
 unfold rfV
 go_enter Tryz.func36, Tryz.ntmps36
 go_wp2_with fail
 go_ret
 exact ⟨rfl, (Below.refl _ _).alloc (Nat.le_refl _) _⟩
set_option maxRecDepth 100000 in
set_option maxHeartbeats 2000000 in
theorem rftext_false (w : World) (pa pb : Option Addr) (na ca nb cb : Nat) : Calls Tryz.prog 36 #[rfV ⟨2, false, 0, []⟩ (.slice pa na ca) (.slice pb nb cb)] w fun e w' => e = .returned (.string ⟨(tellLeaf (some (Sum.inl false))).toArray⟩) /\ Below w.heap.size w w' := by
 unfold rfV
 go_enter Tryz.func36, Tryz.ntmps36
 go_wp2_with fail
 go_ret
 exact ⟨rfl, (Below.refl _ _).alloc (Nat.le_refl _) _⟩
set_option maxRecDepth 100000 in
set_option maxHeartbeats 2000000 in
theorem rftext_num (w : World) (pa pb : Option Addr) (na ca nb cb : Nat) (i : Int) (h1 : -9223372036854775808 <= i) (h2 : i <= 9223372036854775807) : Calls Tryz.prog 36 #[rfV ⟨3, false, i, []⟩ (.slice pa na ca) (.slice pb nb cb)] w fun e w' => e = .returned (.string ⟨(tellLeaf (some (Sum.inr (Sum.inl i)))).toArray⟩) /\ Below w.heap.size w w' := by
 unfold rfV
 go_enter Tryz.func36, Tryz.ntmps36
 go_wp2_with fail
 refine (rfDigits_any i h1 h2 _).mono ?_
 rintro e w1 ⟨rfl, b1⟩
 have HB1 : Hid (Below w.heap.size w w1) := ((Below.refl _ _).alloc (Nat.le_refl _) _).trans (b1.mono (by simp))
 obtain ⟨x, hx⟩ : ∃ x, x = (⟨(Lib.itoa i).toArray⟩ : ByteArray) := ⟨_, rfl⟩
 rw [<- hx]
 have HXx : Hid (x = (⟨(Lib.itoa i).toArray⟩ : ByteArray)) := hx
 clear b1 hx
 go_wp2_with fail
 go_ret
 exact ⟨by rw [tellLeaf, <- HXx.out]; rfl, HB1.out⟩
set_option maxRecDepth 100000 in
set_option maxHeartbeats 2000000 in
theorem rftext_str (w : World) (pa pb : Option Addr) (na ca nb cb : Nat) (s : Bs) (hs : s.length <= 100000) (hR : Room w) : Calls Tryz.prog 36 #[rfV ⟨4, false, 0, s⟩ (.slice pa na ca) (.slice pb nb cb)] w fun e w' => e = .returned (.string ⟨(tellLeaf (some (Sum.inr (Sum.inr s)))).toArray⟩) /\ Below w.heap.size w w' := by
 unfold rfV
 have hz : (⟨s.toArray⟩ : ByteArray).size <= 100000 := by rw [size_ofR]; exact hs
 have HD : Hid ((⟨s.toArray⟩ : ByteArray).data.toList = s) := by show _ = _; simp
 have HRm : Hid (∀ o, Room (w.alloc o)) := fun o => hR.below ((Below.refl _ _).alloc (Nat.le_refl _) _)
 clear hR
 generalize (⟨s.toArray⟩ : ByteArray) = sb at *
 go_enter Tryz.func36, Tryz.ntmps36
 go_wp2_with fail
 refine (rfquoted_any sb _ (Nat.le_trans hz (by decide)) (HRm.out _)).mono ?_
 rintro e w1 ⟨rfl, b1⟩
 have HB1 : Hid (Below w.heap.size w w1) := ((Below.refl _ _).alloc (Nat.le_refl _) _).trans (b1.mono (by simp))
 rw [HD.out]
 obtain ⟨x, hx⟩ : ∃ x, x = (⟨(quote s).toArray⟩ : ByteArray) := ⟨_, rfl⟩
 rw [<- hx]
 have HXx : Hid (x = (⟨(quote s).toArray⟩ : ByteArray)) := hx
 clear b1 hx
 go_wp2_with fail
 go_ret
 exact ⟨by rw [tellLeaf, <- HXx.out]; rfl, HB1.out⟩
theorem quoteB_pos' (c : UInt8) : 1 <= (quoteB c).length := by unfold quoteB; split <;> (try split) <;> (try split) <;> simp
theorem flatQ_ge : ∀ s : Bs, s.length <= (s.flatMap quoteB).length
 | [] => Nat.le_refl _
 | c :: s => by
  have := flatQ_ge s
  have := quoteB_pos' c
  rw [List.flatMap_cons, List.length_append, List.length_cons]
  omega
theorem quote_ge2 (s : Bs) : s.length <= (quote s).length := by
 have h := flatQ_ge s
 show _ <= (34 :: (s.flatMap quoteB ++ [34])).length
 rw [List.length_cons, List.length_append]
 omega
def TLoop (w : World) (ts : List Bs) (m K : Nat) (nm l : Value) (o i : Value) (wr : World) : Prop :=
 ∃ k : Nat, k <= m /\ i = .int .i64 k /\ o = .string ⟨(upTo ts k).toArray⟩ /\ Below w.heap.size w wr /\ Box wr w.heap.size ⟨K, false, 0, []⟩ nm l
theorem commas_in : ∀ (ts : List Bs) (t : Bs), t ∈ ts -> t.length <= (commas ts).length
 | [], _, h => by cases h
 | [x], t, h => by simp at h; subst h; exact Nat.le_refl _
 | x :: y :: r, t, h => by
  simp only [commas, List.length_append, List.length_cons]
  rcases List.mem_cons.1 h with rfl | h
  ·omega
  ·have := commas_in (y :: r) t h
   omega
theorem three (a b : Bs) (x y : UInt8) : (⟨#[x]⟩ : ByteArray) ++ ⟨a.toArray⟩ ++ ⟨#[y]⟩ = ⟨(x :: (a ++ [y])).toArray⟩ := by
 apply ByteArray.ext
 simp [ByteArray.data_append]
set_option maxRecDepth 100000 in
set_option maxHeartbeats 4000000 in
theorem rftext_list (n : Nat) (pa : Option Addr) (na ca : Nat) (ih : RTextOK n) (av : Nat -> Prop) (xs : List (J n)) (vn vl : Value) (w : World) (hL : RVals av w n (xs) vl) (hF : ∀ f ∈ xs, Fit n f) (hlen : (tell (n + 1) (Sum.inr (Sum.inl xs))).length <= 100000) (hR : Room w) :
  Calls Tryz.prog 36 #[rfV ⟨5, false, 0, []⟩ (.slice pa na ca) vl] w fun e w' => e = .returned (.string ⟨(tell (n + 1) (Sum.inr (Sum.inl xs))).toArray⟩) /\ Below w.heap.size w w' := by
 obtain ⟨pl, cl, rfl, hl1, hl2, hl3⟩ := hL.form
 have HL3 : Hid (∀ (i : Nat) (f : J n), xs[i]? = some f -> ∃ g nm' l', pl = some ⟨g, 0, none⟩ /\ g < w.heap.size /\ Six w g (i * 6) (headJ n f) nm' l' /\ RSt av w n f (rfV (headJ n f) nm' l')) := fun i f h => hl3 i f (h)
 unfold maxLen at hl2
 obtain ⟨ts, hts⟩ : ∃ ts, ts = xs.map (tell n) := ⟨_, rfl⟩
 have HTl : Hid (tell (n + 1) (Sum.inr (Sum.inl xs)) = 91 :: (commas ts ++ [93])) := by show tell _ _ = _; rw [hts]; rfl
 have hcl : (commas ts).length <= 100000 := by
  have h9 := hlen
  rw [HTl.out, List.length_cons, List.length_append] at h9
  omega
 have htl : ts.length = xs.length := by rw [hts, List.length_map]
 have HTs : Hid (∀ (i : Nat) (f : J n), xs[i]? = some f -> ts[i]? = some (tell n f)) := fun i f h => by rw [hts, List.getElem?_map, h]; rfl
 have HIn : Hid (∀ (i : Nat) (t : Bs), ts[i]? = some t -> t.length <= (commas ts).length) := fun i t h => commas_in ts t (List.mem_of_getElem? h)
 have HF : Hid (∀ f ∈ xs, Fit n f) := hF
 have HIh : Hid (RTextOK n) := ih
 have HRm : Hid (Room w) := hR
 have HUl : Hid (∀ k, (upTo ts k).length <= (commas ts).length) := fun k => upTo_len ts k
 unfold rfV
 obtain ⟨w0, hw0⟩ : ∃ w0, w0 = w.alloc (.cells #[.int .i64 5, .bool false, .int .i64 0, .string ⟨#[]⟩, .slice pa na ca, .slice pl xs.length cl] 38) := ⟨_, rfl⟩
 have HW0 : Hid (w0 = w.alloc (.cells #[.int .i64 5, .bool false, .int .i64 0, .string ⟨#[]⟩, .slice pa na ca, .slice pl xs.length cl] 38)) := hw0
 have HV0 : Hid (Box w0 w.heap.size ⟨5, false, 0, []⟩ (.slice pa na ca) (.slice pl xs.length cl)) := by show Box _ _ _ _ _; rw [hw0]; exact box_new w ⟨5, false, 0, []⟩ _ _
 have HB0 : Hid (Below w.heap.size w w0) := by show Below _ _ _; rw [hw0]; exact (Below.refl _ _).alloc (Nat.le_refl _) _
 clear hw0 hts hlen hF ih hR hL hl3
 go_enter Tryz.func36, Tryz.ntmps36
 go_wp2
 rw [<- HW0.out]
 go_loopw [3, 28] (fun o i wr => TLoop w ts xs.length 5 (.slice pa na ca) (.slice pl xs.length cl) o i wr) (fun _ i _ => xs.length - (intOf i).toNat)
 case atStart => exact ⟨0, Nat.zero_le _, rfl, by rw [upTo_zero], HB0.out, HV0.out⟩
 case round =>
  obtain ⟨k, hk, rfl, rfl, hB, hV⟩ := hrel
  have HB : Hid (Below w.heap.size w wr) := hB
  have HV : Hid (Box wr w.heap.size ⟨5, false, 0, []⟩ (.slice pa na ca) (.slice pl xs.length cl)) := hV
  have v0 := hV.c0
  have v4 := hV.c4
  have v5 := hV.c5
  obtain ⟨xo, hxo⟩ : ∃ xo, xo = (⟨(upTo ts k).toArray⟩ : ByteArray) := ⟨_, rfl⟩
  have hxz : xo.size <= 100000 := by rw [hxo, size_ofR]; have := HUl.out k; omega
  have HXo : Hid (xo = (⟨(upTo ts k).toArray⟩ : ByteArray)) := hxo
  rw [<- hxo]
  clear hB hV hxo HV0 HB0 HW0
  by_cases hlt : k < xs.length
  ·obtain ⟨f, hfk⟩ : ∃ f, xs[k]? = some f := ⟨xs[k], List.getElem?_eq_getElem hlt⟩
   have HK : Hid (xs[k]? = some f) := hfk
   obtain ⟨g', nm', l', rfl, hg', h6, hst⟩ := HL3.out k f hfk
   obtain ⟨⟨p1, k1, c1, rfl⟩, p2, k2, c2, rfl⟩ := rst_sl hst
   obtain ⟨x0, x1, x2, x3, x4, x5⟩ := h6.keep (HB.out.block g' hg')
   have HSt : Hid (∀ w1, Below w.heap.size w w1 -> RSt av w1 n f (rfV (headJ n f) (.slice p1 k1 c1) (.slice p2 k2 c2))) := fun w1 b => hst.below b
   have hT1 := HTs.out k f hfk
   have hT2 := HIn.out k _ hT1
   have hkt : k < ts.length := by omega
   have hgk : ts[k] = tell n f := by rw [List.getElem?_eq_getElem hkt] at hT1; exact Option.some.inj hT1
   have htz : (tell n f).length <= 100000 := by omega
   have HStep : Hid ((k = 0 -> upTo ts (k + 1) = ts[k]) /\ (0 < k -> upTo ts (k + 1) = upTo ts k ++ 44 :: ts[k])) := ⟨fun h0 => by subst h0; exact upTo_one ts hkt, fun h0 => upTo_step ts k hkt h0⟩
   have HGk : Hid (ts[k] = tell n f) := hgk
   have HTz : Hid ((⟨(tell n f).toArray⟩ : ByteArray).size <= 100000) := by show _ <= _; rw [size_ofR]; exact htz
   have HCall : Hid (∀ w1, Below w.heap.size w w1 -> Calls Tryz.prog 36 #[rfV (headJ n f) (.slice p1 k1 c1) (.slice p2 k2 c2)] w1 fun e w' => e = .returned (.string ⟨(tell n f).toArray⟩) /\ Below w1.heap.size w1 w') := fun w1 b => HIh.out av f _ w1 (HSt.out w1 b) (HF.out f (List.mem_of_getElem? HK.out)) htz (HRm.out.below b)
   have hkI : (k : Int) < (xs.length : Int) := by omega
   have v0' : ∀ o, (wr.alloc o).cell? ⟨w.heap.size, 0, none⟩ = some (.int .i64 5) := fun o => cell_alloc_old v0
   have v4' : ∀ o, (wr.alloc o).cell? ⟨w.heap.size, 4, none⟩ = some (.slice pa na ca) := fun o => cell_alloc_old v4
   clear hst h6 hfk hT1 hT2 hgk htz
   by_cases hk0 : k = 0
   ·have hkb : ¬ (0 : Int) < (k : Int) := by omega
    have HXn : Hid (xo = ⟨#[]⟩) := by show xo = _; rw [HXo.out, hk0, upTo_zero]
    have HU : Hid (upTo ts (k + 1) = ts[k]) := HStep.out.1 hk0
    have qa : ¬ 9223372036854775807 < xo.size + 1 := by omega
    clear hk0
    go_wp2_with fail
    have HB2 : Hid (Below w.heap.size w (wr.alloc (.cells #[.int .i64 (headJ n f).k, .bool (headJ n f).b, .int .i64 (headJ n f).i, .string ⟨(headJ n f).s.toArray⟩, .slice p1 k1 c1, .slice p2 k2 c2] 38))) := HB.out.alloc HB.out.size _
    have HV2 : Hid (Box (wr.alloc (.cells #[.int .i64 (headJ n f).k, .bool (headJ n f).b, .int .i64 (headJ n f).i, .string ⟨(headJ n f).s.toArray⟩, .slice p1 k1 c1, .slice p2 k2 c2] 38)) w.heap.size ⟨5, false, 0, []⟩ (.slice pa na ca) (.slice (some ⟨g', 0, none⟩) xs.length cl)) := HV.out.alloc _
    have HE2 : Hid (Box (wr.alloc (.cells #[.int .i64 (headJ n f).k, .bool (headJ n f).b, .int .i64 (headJ n f).i, .string ⟨(headJ n f).s.toArray⟩, .slice p1 k1 c1, .slice p2 k2 c2] 38)) wr.heap.size (headJ n f) (.slice p1 k1 c1) (.slice p2 k2 c2)) := box_new wr _ _ _
    have HTx0 : Hid (∃ tx, tx = (⟨(tell n f).toArray⟩ : ByteArray)) := ⟨_, rfl⟩
    have hc := HCall.out _ HB2.out
    unfold rfV at hc
    refine Calls.mono hc ?_
    rintro e w3 ⟨rfl, b3⟩
    have HB3 : Hid (Below w.heap.size w w3) := HB2.out.trans (b3.mono HB2.out.size)
    have HV3 : Hid (Box w3 w.heap.size ⟨5, false, 0, []⟩ (.slice pa na ca) (.slice (some ⟨g', 0, none⟩) xs.length cl)) := HV2.out.below b3
    obtain ⟨tx, htx⟩ : ∃ tx, tx = (⟨(tell n f).toArray⟩ : ByteArray) := ⟨_, rfl⟩
    have htz2 := HTz.out
    rw [<- htx] at htz2
    rw [<- htx]
    have HOut : Hid (xo ++ tx = ⟨(upTo ts (k + 1)).toArray⟩) := by
     show _ = _
     rw [HU.out, HGk.out, HXn.out, htx]
     apply ByteArray.ext
     simp [ByteArray.data_append]
    have qe0 : ¬ 9223372036854775807 < xo.size + tx.size := by omega
    have qe1 : ¬ 9223372036854775807 < xo.size + 1 + tx.size := by omega
    clear b3 hc htx
    go_wp2_with fail
    go_roundw
    case rel =>
     have hrelN : TLoop w ts xs.length 5 (.slice pa na ca) (.slice (some ⟨g', 0, none⟩) xs.length cl) (.string (xo ++ tx)) (.int .i64 ((k : Int) + 1)) w3 := ⟨k + 1, by omega, by go_num, by rw [HOut.out], HB3.out, HV3.out⟩
     first | exact hrelN | ((repeat apply Exists.intro); refine ⟨hrelN, ?_⟩; first | rfl | exact ⟨rfl, rfl⟩ | exact ⟨rfl, rfl, rfl⟩ | exact ⟨rfl, rfl, rfl, rfl⟩ | exact ⟨rfl, rfl, rfl, rfl, rfl⟩)
    case measure => (simp [intOf]; omega)
   ·have hkb : (0 : Int) < (k : Int) := by omega
    have HU : Hid (upTo ts (k + 1) = upTo ts k ++ 44 :: ts[k]) := HStep.out.2 (by omega)
    have qa : ¬ 9223372036854775807 < xo.size + 1 := by omega
    clear hk0
    go_wp2_with fail
    have HB2 : Hid (Below w.heap.size w (wr.alloc (.cells #[.int .i64 (headJ n f).k, .bool (headJ n f).b, .int .i64 (headJ n f).i, .string ⟨(headJ n f).s.toArray⟩, .slice p1 k1 c1, .slice p2 k2 c2] 38))) := HB.out.alloc HB.out.size _
    have HV2 : Hid (Box (wr.alloc (.cells #[.int .i64 (headJ n f).k, .bool (headJ n f).b, .int .i64 (headJ n f).i, .string ⟨(headJ n f).s.toArray⟩, .slice p1 k1 c1, .slice p2 k2 c2] 38)) w.heap.size ⟨5, false, 0, []⟩ (.slice pa na ca) (.slice (some ⟨g', 0, none⟩) xs.length cl)) := HV.out.alloc _
    have HE2 : Hid (Box (wr.alloc (.cells #[.int .i64 (headJ n f).k, .bool (headJ n f).b, .int .i64 (headJ n f).i, .string ⟨(headJ n f).s.toArray⟩, .slice p1 k1 c1, .slice p2 k2 c2] 38)) wr.heap.size (headJ n f) (.slice p1 k1 c1) (.slice p2 k2 c2)) := box_new wr _ _ _
    have HTx0 : Hid (∃ tx, tx = (⟨(tell n f).toArray⟩ : ByteArray)) := ⟨_, rfl⟩
    have hc := HCall.out _ HB2.out
    unfold rfV at hc
    refine Calls.mono hc ?_
    rintro e w3 ⟨rfl, b3⟩
    have HB3 : Hid (Below w.heap.size w w3) := HB2.out.trans (b3.mono HB2.out.size)
    have HV3 : Hid (Box w3 w.heap.size ⟨5, false, 0, []⟩ (.slice pa na ca) (.slice (some ⟨g', 0, none⟩) xs.length cl)) := HV2.out.below b3
    obtain ⟨tx, htx⟩ : ∃ tx, tx = (⟨(tell n f).toArray⟩ : ByteArray) := ⟨_, rfl⟩
    have htz2 := HTz.out
    rw [<- htx] at htz2
    rw [<- htx]
    have HOut : Hid (xo ++ ⟨#[44]⟩ ++ tx = ⟨(upTo ts (k + 1)).toArray⟩) := by
     show _ = _
     rw [HU.out, HGk.out, HXo.out, htx]
     apply ByteArray.ext
     simp [ByteArray.data_append]
    have qe0 : ¬ 9223372036854775807 < xo.size + tx.size := by omega
    have qe1 : ¬ 9223372036854775807 < xo.size + 1 + tx.size := by omega
    clear b3 hc htx
    go_wp2_with fail
    go_roundw
    case rel =>
     have hrelN : TLoop w ts xs.length 5 (.slice pa na ca) (.slice (some ⟨g', 0, none⟩) xs.length cl) (.string (xo ++ ⟨#[44]⟩ ++ tx)) (.int .i64 ((k : Int) + 1)) w3 := ⟨k + 1, by omega, by go_num, by rw [HOut.out], HB3.out, HV3.out⟩
     first | exact hrelN | ((repeat apply Exists.intro); refine ⟨hrelN, ?_⟩; first | rfl | exact ⟨rfl, rfl⟩ | exact ⟨rfl, rfl, rfl⟩ | exact ⟨rfl, rfl, rfl, rfl⟩ | exact ⟨rfl, rfl, rfl, rfl, rfl⟩)
    case measure => (simp [intOf]; omega)
  ·have HXa : Hid (xo = ⟨(commas ts).toArray⟩) := by show xo = _; rw [HXo.out, upTo_all ts k (by omega)]
   have HZ : Hid ((⟨#[91]⟩ : ByteArray) ++ xo ++ ⟨#[93]⟩ = ⟨(tell (n + 1) (Sum.inr (Sum.inl xs))).toArray⟩) := by
    show _ = _
    rw [HTl.out, HXa.out, three (commas ts) []]
   have qa : ¬ 9223372036854775807 < 1 + xo.size := by omega
   have qb : ¬ 9223372036854775807 < 1 + xo.size + 1 := by omega
   go_wp2_with fail
   go_ret
   exact ⟨by rw [<- HZ.out]; rfl, HB.out⟩
set_option maxRecDepth 100000 in
set_option maxHeartbeats 4000000 in
theorem rftext_obj (n : Nat) (pa : Option Addr) (na ca : Nat) (ih : RTextOK n) (av : Nat -> Prop) (fs : List (Bs × J n)) (vn vl : Value) (w : World) (hN : RStrs av w (fs.map fun f => f.1) vn) (hL : RVals av w n (fs.map fun f => f.2) vl) (hF : ∀ f ∈ fs, Fit n f.2) (hlen : (tell (n + 1) (Sum.inr (Sum.inr fs))).length <= 100000) (hR : Room w) :
  Calls Tryz.prog 36 #[rfV ⟨6, false, 0, []⟩ vn vl] w fun e w' => e = .returned (.string ⟨(tell (n + 1) (Sum.inr (Sum.inr fs))).toArray⟩) /\ Below w.heap.size w w' := by
 obtain ⟨pn, cn, rfl, hn1, hn2, hn3⟩ := hN.form
 rw [List.length_map] at hn1
 rw [List.length_map]
 have HN3 : Hid (∀ (i : Nat) (f : Bs × J n), fs[i]? = some f -> ∃ g, pn = some ⟨g, 0, none⟩ /\ g < w.heap.size /\ w.cell? ⟨g, i, none⟩ = some (.string ⟨f.1.toArray⟩)) := fun i f h => hn3 i f.1 (by rw [List.getElem?_map, h]; rfl)
 unfold maxLen at hn2
 clear hn3 hN
 obtain ⟨pl, cl, rfl, hl1, hl2, hl3⟩ := hL.form
 rw [List.length_map] at hl1
 rw [List.length_map]
 have HL3 : Hid (∀ (i : Nat) (f : Bs × J n), fs[i]? = some f -> ∃ g nm' l', pl = some ⟨g, 0, none⟩ /\ g < w.heap.size /\ Six w g (i * 6) (headJ n f.2) nm' l' /\ RSt av w n f.2 (rfV (headJ n f.2) nm' l')) := fun i f h => hl3 i f.2 (by rw [List.getElem?_map, h]; rfl)
 unfold maxLen at hl2
 obtain ⟨ts, hts⟩ : ∃ ts, ts = fs.map fun f => quote f.1 ++ 58 :: tell n f.2 := ⟨_, rfl⟩
 have HTl : Hid (tell (n + 1) (Sum.inr (Sum.inr fs)) = 123 :: (commas ts ++ [125])) := by show tell _ _ = _; rw [hts]; rfl
 have hcl : (commas ts).length <= 100000 := by
  have h9 := hlen
  rw [HTl.out, List.length_cons, List.length_append] at h9
  omega
 have htl : ts.length = fs.length := by rw [hts, List.length_map]
 have HTs : Hid (∀ (i : Nat) (f : Bs × J n), fs[i]? = some f -> ts[i]? = some (quote f.1 ++ 58 :: tell n f.2)) := fun i f h => by rw [hts, List.getElem?_map, h]; rfl
 have HIn : Hid (∀ (i : Nat) (t : Bs), ts[i]? = some t -> t.length <= (commas ts).length) := fun i t h => commas_in ts t (List.mem_of_getElem? h)
 have HF : Hid (∀ f ∈ fs, Fit n f.2) := hF
 have HIh : Hid (RTextOK n) := ih
 have HRm : Hid (Room w) := hR
 have HUl : Hid (∀ k, (upTo ts k).length <= (commas ts).length) := fun k => upTo_len ts k
 unfold rfV
 obtain ⟨w0, hw0⟩ : ∃ w0, w0 = w.alloc (.cells #[.int .i64 6, .bool false, .int .i64 0, .string ⟨#[]⟩, .slice pn fs.length cn, .slice pl fs.length cl] 38) := ⟨_, rfl⟩
 have HW0 : Hid (w0 = w.alloc (.cells #[.int .i64 6, .bool false, .int .i64 0, .string ⟨#[]⟩, .slice pn fs.length cn, .slice pl fs.length cl] 38)) := hw0
 have HV0 : Hid (Box w0 w.heap.size ⟨6, false, 0, []⟩ (.slice pn fs.length cn) (.slice pl fs.length cl)) := by show Box _ _ _ _ _; rw [hw0]; exact box_new w ⟨6, false, 0, []⟩ _ _
 have HB0 : Hid (Below w.heap.size w w0) := by show Below _ _ _; rw [hw0]; exact (Below.refl _ _).alloc (Nat.le_refl _) _
 clear hw0 hts hlen hF ih hR hL hl3
 go_enter Tryz.func36, Tryz.ntmps36
 go_wp2
 rw [<- HW0.out]
 go_loopw [3, 28] (fun o i wr => TLoop w ts fs.length 6 (.slice pn fs.length cn) (.slice pl fs.length cl) o i wr) (fun _ i _ => fs.length - (intOf i).toNat)
 case atStart => exact ⟨0, Nat.zero_le _, rfl, by rw [upTo_zero], HB0.out, HV0.out⟩
 case round =>
  obtain ⟨k, hk, rfl, rfl, hB, hV⟩ := hrel
  have HB : Hid (Below w.heap.size w wr) := hB
  have HV : Hid (Box wr w.heap.size ⟨6, false, 0, []⟩ (.slice pn fs.length cn) (.slice pl fs.length cl)) := hV
  have v0 := hV.c0
  have v4 := hV.c4
  have v5 := hV.c5
  obtain ⟨xo, hxo⟩ : ∃ xo, xo = (⟨(upTo ts k).toArray⟩ : ByteArray) := ⟨_, rfl⟩
  have hxz : xo.size <= 100000 := by rw [hxo, size_ofR]; have := HUl.out k; omega
  have HXo : Hid (xo = (⟨(upTo ts k).toArray⟩ : ByteArray)) := hxo
  rw [<- hxo]
  clear hB hV hxo HV0 HB0 HW0
  by_cases hlt : k < fs.length
  ·obtain ⟨f, hfk⟩ : ∃ f, fs[k]? = some f := ⟨fs[k], List.getElem?_eq_getElem hlt⟩
   have HK : Hid (fs[k]? = some f) := hfk
   obtain ⟨g', nm', l', rfl, hg', h6, hst⟩ := HL3.out k f hfk
   obtain ⟨⟨p1, k1, c1, rfl⟩, p2, k2, c2, rfl⟩ := rst_sl hst
   obtain ⟨x0, x1, x2, x3, x4, x5⟩ := h6.keep (HB.out.block g' hg')
   have HSt : Hid (∀ w1, Below w.heap.size w w1 -> RSt av w1 n f.2 (rfV (headJ n f.2) (.slice p1 k1 c1) (.slice p2 k2 c2))) := fun w1 b => hst.below b
   have hT1 := HTs.out k f hfk
   have hT2 := HIn.out k _ hT1
   have hkt : k < ts.length := by omega
   have hgk : ts[k] = quote f.1 ++ 58 :: tell n f.2 := by rw [List.getElem?_eq_getElem hkt] at hT1; exact Option.some.inj hT1
   obtain ⟨g, rfl, hg, hgc⟩ := HN3.out k f hfk
   have nn : wr.cell? ⟨g, k, none⟩ = some (.string ⟨f.1.toArray⟩) := (HB.out.cell (p := ⟨g, k, none⟩) hg).trans hgc
   have nn2 : ∀ o, (wr.alloc o).cell? ⟨g, k, none⟩ = some (.string ⟨f.1.toArray⟩) := fun o => cell_alloc_old nn
   have hql : f.1.length <= 100000 := by
    have := quote_ge2 f.1
    rw [List.length_append] at hT2
    omega
   have hqz : (quote f.1).length <= 100000 := by rw [List.length_append] at hT2; omega
   have htz : (tell n f.2).length <= 100000 := by rw [List.length_append, List.length_cons] at hT2; omega
   have HStep : Hid ((k = 0 -> upTo ts (k + 1) = ts[k]) /\ (0 < k -> upTo ts (k + 1) = upTo ts k ++ 44 :: ts[k])) := ⟨fun h0 => by subst h0; exact upTo_one ts hkt, fun h0 => upTo_step ts k hkt h0⟩
   have HGk : Hid (ts[k] = quote f.1 ++ 58 :: tell n f.2) := hgk
   have HTz : Hid ((⟨(tell n f.2).toArray⟩ : ByteArray).size <= 100000) := by show _ <= _; rw [size_ofR]; exact htz
   have HCall : Hid (∀ w1, Below w.heap.size w w1 -> Calls Tryz.prog 36 #[rfV (headJ n f.2) (.slice p1 k1 c1) (.slice p2 k2 c2)] w1 fun e w' => e = .returned (.string ⟨(tell n f.2).toArray⟩) /\ Below w1.heap.size w1 w') := fun w1 b => HIh.out av f.2 _ w1 (HSt.out w1 b) (HF.out f (List.mem_of_getElem? HK.out)) htz (HRm.out.below b)
   have hkI : (k : Int) < (fs.length : Int) := by omega
   have v0' : ∀ o, (wr.alloc o).cell? ⟨w.heap.size, 0, none⟩ = some (.int .i64 6) := fun o => cell_alloc_old v0
   have v4' : ∀ o, (wr.alloc o).cell? ⟨w.heap.size, 4, none⟩ = some (.slice (some ⟨g, 0, none⟩) fs.length cn) := fun o => cell_alloc_old v4
   clear hst h6 hfk hT1 hT2 hgk htz
   by_cases hk0 : k = 0
   ·have hkb : ¬ (0 : Int) < (k : Int) := by omega
    have HXn : Hid (xo = ⟨#[]⟩) := by show xo = _; rw [HXo.out, hk0, upTo_zero]
    have HU : Hid (upTo ts (k + 1) = ts[k]) := HStep.out.1 hk0
    have qa : ¬ 9223372036854775807 < xo.size + 1 := by omega
    clear hk0
    go_wp2_with fail
    have HB2 : Hid (Below w.heap.size w (wr.alloc (.cells #[.int .i64 (headJ n f.2).k, .bool (headJ n f.2).b, .int .i64 (headJ n f.2).i, .string ⟨(headJ n f.2).s.toArray⟩, .slice p1 k1 c1, .slice p2 k2 c2] 38))) := HB.out.alloc HB.out.size _
    have HV2 : Hid (Box (wr.alloc (.cells #[.int .i64 (headJ n f.2).k, .bool (headJ n f.2).b, .int .i64 (headJ n f.2).i, .string ⟨(headJ n f.2).s.toArray⟩, .slice p1 k1 c1, .slice p2 k2 c2] 38)) w.heap.size ⟨6, false, 0, []⟩ (.slice (some ⟨g, 0, none⟩) fs.length cn) (.slice (some ⟨g', 0, none⟩) fs.length cl)) := HV.out.alloc _
    have HE2 : Hid (Box (wr.alloc (.cells #[.int .i64 (headJ n f.2).k, .bool (headJ n f.2).b, .int .i64 (headJ n f.2).i, .string ⟨(headJ n f.2).s.toArray⟩, .slice p1 k1 c1, .slice p2 k2 c2] 38)) wr.heap.size (headJ n f.2) (.slice p1 k1 c1) (.slice p2 k2 c2)) := box_new wr _ _ _
    have HTx0 : Hid (∃ tx, tx = (⟨(tell n f.2).toArray⟩ : ByteArray)) := ⟨_, rfl⟩
    have hqq := (rfquoted_any ⟨f.1.toArray⟩ (wr.alloc (.cells #[.int .i64 (headJ n f.2).k, .bool (headJ n f.2).b, .int .i64 (headJ n f.2).i, .string ⟨(headJ n f.2).s.toArray⟩, .slice p1 k1 c1, .slice p2 k2 c2] 38)) (by rw [size_ofR]; exact Nat.le_trans hql (by decide)) (HRm.out.below HB2.out))
    rw [show (⟨f.1.toArray⟩ : ByteArray).data.toList = f.1 from by simp] at hqq
    refine Calls.mono hqq ?_
    rintro e w2 ⟨rfl, b2⟩
    have HB2b : Hid (Below w.heap.size w w2) := HB2.out.trans (b2.mono HB2.out.size)
    have HV2b : Hid (Box w2 w.heap.size ⟨6, false, 0, []⟩ (.slice (some ⟨g, 0, none⟩) fs.length cn) (.slice (some ⟨g', 0, none⟩) fs.length cl)) := HV2.out.below b2
    have HE2b : Hid (Box w2 wr.heap.size (headJ n f.2) (.slice p1 k1 c1) (.slice p2 k2 c2)) := HE2.out.below b2
    obtain ⟨qx, hqx⟩ : ∃ qx, qx = (⟨(quote f.1).toArray⟩ : ByteArray) := ⟨_, rfl⟩
    rw [<- hqx]
    have hqs : qx.size <= 100000 := by rw [hqx, size_ofR]; exact hqz
    have HQx : Hid (qx = (⟨(quote f.1).toArray⟩ : ByteArray)) := hqx
    have y0 := HE2b.out.c0
    have y1 := HE2b.out.c1
    have y2 := HE2b.out.c2
    have y3 := HE2b.out.c3
    have y4 := HE2b.out.c4
    have y5 := HE2b.out.c5
    have qb : ¬ 9223372036854775807 < qx.size + 1 := by omega
    have qc : ¬ 9223372036854775807 < xo.size + (qx.size + 1) := by omega
    have qd : ¬ 9223372036854775807 < xo.size + 1 + (qx.size + 1) := by omega
    clear b2 hqx hqq
    go_wp2_with fail
    have hc := HCall.out _ HB2b.out
    unfold rfV at hc
    refine Calls.mono hc ?_
    rintro e w3 ⟨rfl, b3⟩
    have HB3 : Hid (Below w.heap.size w w3) := HB2b.out.trans (b3.mono HB2b.out.size)
    have HV3 : Hid (Box w3 w.heap.size ⟨6, false, 0, []⟩ (.slice (some ⟨g, 0, none⟩) fs.length cn) (.slice (some ⟨g', 0, none⟩) fs.length cl)) := HV2b.out.below b3
    obtain ⟨tx, htx⟩ : ∃ tx, tx = (⟨(tell n f.2).toArray⟩ : ByteArray) := ⟨_, rfl⟩
    have htz2 := HTz.out
    rw [<- htx] at htz2
    rw [<- htx]
    have HOut : Hid (xo ++ (qx ++ ⟨#[58]⟩) ++ tx = ⟨(upTo ts (k + 1)).toArray⟩) := by
     show _ = _
     rw [HU.out, HGk.out, HXn.out, htx, HQx.out]
     apply ByteArray.ext
     simp [ByteArray.data_append]
    have qe0 : ¬ 9223372036854775807 < xo.size + tx.size := by omega
    have qe1 : ¬ 9223372036854775807 < xo.size + 1 + tx.size := by omega
    have qe2 : ¬ 9223372036854775807 < xo.size + (qx.size + 1) + tx.size := by omega
    have qe3 : ¬ 9223372036854775807 < xo.size + 1 + (qx.size + 1) + tx.size := by omega
    clear b3 hc htx
    go_wp2_with fail
    go_roundw
    case rel =>
     have hrelN : TLoop w ts fs.length 6 (.slice (some ⟨g, 0, none⟩) fs.length cn) (.slice (some ⟨g', 0, none⟩) fs.length cl) (.string (xo ++ (qx ++ ⟨#[58]⟩) ++ tx)) (.int .i64 ((k : Int) + 1)) w3 := ⟨k + 1, by omega, by go_num, by rw [HOut.out], HB3.out, HV3.out⟩
     first | exact hrelN | ((repeat apply Exists.intro); refine ⟨hrelN, ?_⟩; first | rfl | exact ⟨rfl, rfl⟩ | exact ⟨rfl, rfl, rfl⟩ | exact ⟨rfl, rfl, rfl, rfl⟩ | exact ⟨rfl, rfl, rfl, rfl, rfl⟩)
    case measure => (simp [intOf]; omega)
   ·have hkb : (0 : Int) < (k : Int) := by omega
    have HU : Hid (upTo ts (k + 1) = upTo ts k ++ 44 :: ts[k]) := HStep.out.2 (by omega)
    have qa : ¬ 9223372036854775807 < xo.size + 1 := by omega
    clear hk0
    go_wp2_with fail
    have HB2 : Hid (Below w.heap.size w (wr.alloc (.cells #[.int .i64 (headJ n f.2).k, .bool (headJ n f.2).b, .int .i64 (headJ n f.2).i, .string ⟨(headJ n f.2).s.toArray⟩, .slice p1 k1 c1, .slice p2 k2 c2] 38))) := HB.out.alloc HB.out.size _
    have HV2 : Hid (Box (wr.alloc (.cells #[.int .i64 (headJ n f.2).k, .bool (headJ n f.2).b, .int .i64 (headJ n f.2).i, .string ⟨(headJ n f.2).s.toArray⟩, .slice p1 k1 c1, .slice p2 k2 c2] 38)) w.heap.size ⟨6, false, 0, []⟩ (.slice (some ⟨g, 0, none⟩) fs.length cn) (.slice (some ⟨g', 0, none⟩) fs.length cl)) := HV.out.alloc _
    have HE2 : Hid (Box (wr.alloc (.cells #[.int .i64 (headJ n f.2).k, .bool (headJ n f.2).b, .int .i64 (headJ n f.2).i, .string ⟨(headJ n f.2).s.toArray⟩, .slice p1 k1 c1, .slice p2 k2 c2] 38)) wr.heap.size (headJ n f.2) (.slice p1 k1 c1) (.slice p2 k2 c2)) := box_new wr _ _ _
    have HTx0 : Hid (∃ tx, tx = (⟨(tell n f.2).toArray⟩ : ByteArray)) := ⟨_, rfl⟩
    have hqq := (rfquoted_any ⟨f.1.toArray⟩ (wr.alloc (.cells #[.int .i64 (headJ n f.2).k, .bool (headJ n f.2).b, .int .i64 (headJ n f.2).i, .string ⟨(headJ n f.2).s.toArray⟩, .slice p1 k1 c1, .slice p2 k2 c2] 38)) (by rw [size_ofR]; exact Nat.le_trans hql (by decide)) (HRm.out.below HB2.out))
    rw [show (⟨f.1.toArray⟩ : ByteArray).data.toList = f.1 from by simp] at hqq
    refine Calls.mono hqq ?_
    rintro e w2 ⟨rfl, b2⟩
    have HB2b : Hid (Below w.heap.size w w2) := HB2.out.trans (b2.mono HB2.out.size)
    have HV2b : Hid (Box w2 w.heap.size ⟨6, false, 0, []⟩ (.slice (some ⟨g, 0, none⟩) fs.length cn) (.slice (some ⟨g', 0, none⟩) fs.length cl)) := HV2.out.below b2
    have HE2b : Hid (Box w2 wr.heap.size (headJ n f.2) (.slice p1 k1 c1) (.slice p2 k2 c2)) := HE2.out.below b2
    obtain ⟨qx, hqx⟩ : ∃ qx, qx = (⟨(quote f.1).toArray⟩ : ByteArray) := ⟨_, rfl⟩
    rw [<- hqx]
    have hqs : qx.size <= 100000 := by rw [hqx, size_ofR]; exact hqz
    have HQx : Hid (qx = (⟨(quote f.1).toArray⟩ : ByteArray)) := hqx
    have y0 := HE2b.out.c0
    have y1 := HE2b.out.c1
    have y2 := HE2b.out.c2
    have y3 := HE2b.out.c3
    have y4 := HE2b.out.c4
    have y5 := HE2b.out.c5
    have qb : ¬ 9223372036854775807 < qx.size + 1 := by omega
    have qc : ¬ 9223372036854775807 < xo.size + (qx.size + 1) := by omega
    have qd : ¬ 9223372036854775807 < xo.size + 1 + (qx.size + 1) := by omega
    clear b2 hqx hqq
    go_wp2_with fail
    have hc := HCall.out _ HB2b.out
    unfold rfV at hc
    refine Calls.mono hc ?_
    rintro e w3 ⟨rfl, b3⟩
    have HB3 : Hid (Below w.heap.size w w3) := HB2b.out.trans (b3.mono HB2b.out.size)
    have HV3 : Hid (Box w3 w.heap.size ⟨6, false, 0, []⟩ (.slice (some ⟨g, 0, none⟩) fs.length cn) (.slice (some ⟨g', 0, none⟩) fs.length cl)) := HV2b.out.below b3
    obtain ⟨tx, htx⟩ : ∃ tx, tx = (⟨(tell n f.2).toArray⟩ : ByteArray) := ⟨_, rfl⟩
    have htz2 := HTz.out
    rw [<- htx] at htz2
    rw [<- htx]
    have HOut : Hid (xo ++ ⟨#[44]⟩ ++ (qx ++ ⟨#[58]⟩) ++ tx = ⟨(upTo ts (k + 1)).toArray⟩) := by
     show _ = _
     rw [HU.out, HGk.out, HXo.out, htx, HQx.out]
     apply ByteArray.ext
     simp [ByteArray.data_append]
    have qe0 : ¬ 9223372036854775807 < xo.size + tx.size := by omega
    have qe1 : ¬ 9223372036854775807 < xo.size + 1 + tx.size := by omega
    have qe2 : ¬ 9223372036854775807 < xo.size + (qx.size + 1) + tx.size := by omega
    have qe3 : ¬ 9223372036854775807 < xo.size + 1 + (qx.size + 1) + tx.size := by omega
    clear b3 hc htx
    go_wp2_with fail
    go_roundw
    case rel =>
     have hrelN : TLoop w ts fs.length 6 (.slice (some ⟨g, 0, none⟩) fs.length cn) (.slice (some ⟨g', 0, none⟩) fs.length cl) (.string (xo ++ ⟨#[44]⟩ ++ (qx ++ ⟨#[58]⟩) ++ tx)) (.int .i64 ((k : Int) + 1)) w3 := ⟨k + 1, by omega, by go_num, by rw [HOut.out], HB3.out, HV3.out⟩
     first | exact hrelN | ((repeat apply Exists.intro); refine ⟨hrelN, ?_⟩; first | rfl | exact ⟨rfl, rfl⟩ | exact ⟨rfl, rfl, rfl⟩ | exact ⟨rfl, rfl, rfl, rfl⟩ | exact ⟨rfl, rfl, rfl, rfl, rfl⟩)
    case measure => (simp [intOf]; omega)
  ·have HXa : Hid (xo = ⟨(commas ts).toArray⟩) := by show xo = _; rw [HXo.out, upTo_all ts k (by omega)]
   have HZ : Hid ((⟨#[123]⟩ : ByteArray) ++ xo ++ ⟨#[125]⟩ = ⟨(tell (n + 1) (Sum.inr (Sum.inr fs))).toArray⟩) := by
    show _ = _
    rw [HTl.out, HXa.out, three (commas ts) []]
   have qa : ¬ 9223372036854775807 < 1 + xo.size := by omega
   have qb : ¬ 9223372036854775807 < 1 + xo.size + 1 := by omega
   go_wp2_with fail
   go_ret
   exact ⟨by rw [<- HZ.out]; rfl, HB.out⟩
theorem rftext_leaf (l : Leaf) (w : World) (pa pb : Option Addr) (na ca nb cb : Nat) (hf : FitLeaf l) (hl : (tellLeaf l).length <= 100000) (hR : Room w) : Calls Tryz.prog 36 #[rfV (headL l) (.slice pa na ca) (.slice pb nb cb)] w fun e w' => e = .returned (.string ⟨(tellLeaf l).toArray⟩) /\ Below w.heap.size w w' := by
 rcases l with _ | b | i | s
 ·exact rftext_null w _ _ _ _ _ _
 ·cases b
  ·exact rftext_false w _ _ _ _ _ _
  ·exact rftext_true w _ _ _ _ _ _
 ·have h : -1000000000000000000 < i /\ i < 1000000000000000000 := hf
  exact rftext_num w _ _ _ _ _ _ i (by omega) (by omega)
 ·have h9 : (quote s).length <= 100000 := hl
  have := quote_ge2 s
  exact rftext_str w _ _ _ _ _ _ s (by omega) hR
theorem rftext_ok : ∀ n : Nat, RTextOK n
 | 0, av, l, v, w, h, hf, hl, hR => by
  have e : v = rfV (headL l) (.slice none 0 0) (.slice none 0 0) := h
  subst e
  exact rftext_leaf l w _ _ _ _ _ _ hf hl hR
 | n + 1, av, Sum.inl l, v, w, h, hf, hl, hR => by
  obtain ⟨nm, lv, rfl, h1, h2⟩ := h.open
  obtain ⟨p, c, rfl, _⟩ := h1.form
  obtain ⟨q, d, rfl, _⟩ := h2.form
  exact rftext_leaf l w _ _ _ _ _ _ hf hl hR
 | n + 1, av, Sum.inr (Sum.inl xs), v, w, h, hf, hl, hR => by
  obtain ⟨nm, lv, rfl, h1, h2⟩ := h.open
  obtain ⟨p, c, rfl, _⟩ := h1.form
  exact rftext_list n _ _ _ (rftext_ok n) av xs (.slice none 0 0) lv w h2 hf hl hR
 | n + 1, av, Sum.inr (Sum.inr fs), v, w, h, hf, hl, hR => by
  obtain ⟨nm, lv, rfl, h1, h2⟩ := h.open
  exact rftext_obj n none 0 0 (rftext_ok n) av fs nm lv w h1 h2 hf hl hR
def rtoldE (n : Nat) (j : J n) : Array Value :=
 if 10 < depth n j then #[.string ByteArray.empty, .int .i64 4]
 else if 200 < nodes n j then #[.string ByteArray.empty, .int .i64 2]
 else if 2000 < (tell n j).length then #[.string ByteArray.empty, .int .i64 2]
 else #[.string ⟨(tell n j).toArray⟩, .int .i64 0]
set_option maxRecDepth 100000 in
set_option maxHeartbeats 2000000 in
theorem rftellv_any (n : Nat) (av : Nat -> Prop) (j : J n) (v : Value) (w : World) (hst : RSt av w n j v) (hf : Fit n j) (hn : nodes n j <= 1000000) (hn2 : n <= 1000) (hl : (tell n j).length <= 100000) (hR : Room w) :
  Calls Tryz.prog 18 #[v] w fun e w' => e = .returned (.tuple (rtoldE n j)) /\ Below w.heap.size w w' := by
 obtain ⟨nm, l, rfl⟩ := rst_form hst
 obtain ⟨⟨p1, k1, c1, rfl⟩, p2, k2, c2, rfl⟩ := rst_sl hst
 have HZ : Hid (∀ w1, Below w.heap.size w w1 -> Calls Tryz.prog 35 #[rfV (headJ n j) (.slice p1 k1 c1) (.slice p2 k2 c2)] w1 fun e w' => e = .returned (.tuple #[.int .i64 (nodes n j), .int .i64 (depth n j)]) /\ Below w1.heap.size w1 w') := fun w1 b => rfsize_ok n av j _ w1 (hst.below b) hn hn2
 have HX : Hid (∀ w1, Below w.heap.size w w1 -> Calls Tryz.prog 36 #[rfV (headJ n j) (.slice p1 k1 c1) (.slice p2 k2 c2)] w1 fun e w' => e = .returned (.string ⟨(tell n j).toArray⟩) /\ Below w1.heap.size w1 w') := fun w1 b => rftext_ok n av j _ w1 (hst.below b) hf hl (hR.below b)
 have HE : Hid (rtoldE n j = if 10 < depth n j then #[.string ByteArray.empty, .int .i64 4] else if 200 < nodes n j then #[.string ByteArray.empty, .int .i64 2] else if 2000 < (tell n j).length then #[.string ByteArray.empty, .int .i64 2] else #[.string ⟨(tell n j).toArray⟩, .int .i64 0]) := rfl
 have hd1 := depth_leR n j
 have hsz : (⟨(tell n j).toArray⟩ : ByteArray).size = (tell n j).length := size_ofR _
 generalize headJ n j = h at *
 clear hst hf hR
 generalize rtoldE n j = res at *
 generalize nodes n j = nn at *
 generalize depth n j = dd at *
 generalize (tell n j).length = ll at *
 generalize (⟨(tell n j).toArray⟩ : ByteArray) = tx at *
 have HV0 : Hid (Box (w.alloc (.cells #[.int .i64 h.k, .bool h.b, .int .i64 h.i, .string ⟨h.s.toArray⟩, .slice p1 k1 c1, .slice p2 k2 c2] 38)) w.heap.size h (.slice p1 k1 c1) (.slice p2 k2 c2)) := box_new w h _ _
 have HB0 : Hid (Below w.heap.size w (w.alloc (.cells #[.int .i64 h.k, .bool h.b, .int .i64 h.i, .string ⟨h.s.toArray⟩, .slice p1 k1 c1, .slice p2 k2 c2] 38))) := (Below.refl _ _).alloc (Nat.le_refl _) _
 unfold rfV at HZ HX ⊢
 go_enter Tryz.func18, Tryz.ntmps18
 go_wp2_with fail
 obtain ⟨w0, hw0⟩ : ∃ w0, w0 = w.alloc (.cells #[.int .i64 h.k, .bool h.b, .int .i64 h.i, .string ⟨h.s.toArray⟩, .slice p1 k1 c1, .slice p2 k2 c2] 38) := ⟨_, rfl⟩
 rw [<- hw0] at HV0 HB0 ⊢
 clear hw0
 refine Calls.mono (HZ.out w0 HB0.out) ?_
 rintro e w1 ⟨rfl, b1⟩
 have HB1 : Hid (Below w.heap.size w w1) := HB0.out.trans (b1.mono HB0.out.size)
 have HV1 : Hid (Box w1 w.heap.size h (.slice p1 k1 c1) (.slice p2 k2 c2)) := HV0.out.below b1
 have x0 := HV1.out.c0
 have x1 := HV1.out.c1
 have x2 := HV1.out.c2
 have x3 := HV1.out.c3
 have x4 := HV1.out.c4
 have x5 := HV1.out.c5
 clear b1
 by_cases h10 : 10 < dd
 ·have hI : (10 : Int) < (dd : Int) := by omega
  have HR : Hid (res = #[.string ByteArray.empty, .int .i64 4]) := by show _ = _; rw [HE.out, if_pos h10]
  go_wp2_with fail
  go_ret2
  exact ⟨by rw [HR.out]; rfl, HB1.out⟩
 ·have hI : ¬ (10 : Int) < (dd : Int) := by omega
  have HR0 : Hid (res = if 200 < nn then #[.string ByteArray.empty, .int .i64 2] else if 2000 < ll then #[.string ByteArray.empty, .int .i64 2] else #[.string tx, .int .i64 0]) := by show _ = _; rw [HE.out, if_neg h10]
  go_wp2_with fail
  refine Calls.mono (HX.out w1 HB1.out) ?_
  rintro e w2 ⟨rfl, b2⟩
  have HB2 : Hid (Below w.heap.size w w2) := HB1.out.trans (b2.mono HB1.out.size)
  clear b2 x0 x1 x2 x3 x4 x5
  by_cases h200 : 200 < nn
  ·have hI2 : ¬ (nn : Int) <= 200 := by omega
   have HR : Hid (res = #[.string ByteArray.empty, .int .i64 2]) := by show _ = _; rw [HR0.out, if_pos h200]
   go_wp2_with fail
   go_ret2
   exact ⟨by rw [HR.out]; rfl, HB2.out⟩
  ·have hI2 : (nn : Int) <= 200 := by omega
   by_cases h2000 : 2000 < ll
   ·have hI3 : ¬ (tx.size : Int) <= 2000 := by omega
    have HR : Hid (res = #[.string ByteArray.empty, .int .i64 2]) := by show _ = _; rw [HR0.out, if_neg h200, if_pos h2000]
    go_wp2_with fail
    go_ret2
    exact ⟨by rw [HR.out]; rfl, HB2.out⟩
   ·have hI3 : (tx.size : Int) <= 2000 := by omega
    have HR : Hid (res = #[.string tx, .int .i64 0]) := by show _ = _; rw [HR0.out, if_neg h200, if_neg h2000]
    go_wp2_with fail
    go_ret2
    exact ⟨by rw [HR.out]; rfl, HB2.out⟩
end Go.Proofs.YtjcdklbimaclkaaGreatDoor
