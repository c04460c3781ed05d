import Derived.Test.YtjcdklbimaclkaaGreatDoorGAa
import Derived.Test.YtjcdklbimaclkaaGreatDoorShelf
import Derived.Deep.RegionWith
import Derived.Test.YtjcdklbimaclkaaGreatDoorGAg
import Derived.Test.YtjcdklbimaclkaaGreatDoorGAh
import Derived.WalkKit
import Derived.WalkSpells
import Derived.Test.YtjcdklbimaclkaaGreatDoorRows
import Derived.Test.YtjcdklbimaclkaaGreatDoorGAc
import Derived.Lib.AppendStr
namespace Go.Proofs.YtjcdklbimaclkaaGreatDoor
open Go.RowKit
set_option linter.unusedVariables false
set_option linter.unusedSimpArgs false
theorem digits_list (t : ByteArray) (p : Nat) (hp : p <= t.size) : (t.extract p (digitsAt t p)).data.toList = (rest t p).takeWhile isDigit := by
 have h1 : (t.extract p (digitsAt t p)).data.toList = (rest t p).take (digitsAt t p - p) := by
  unfold rest
  simp
 rw [h1]
 have h2 : digitsAt t p - p = ((rest t p).takeWhile isDigit).length := by unfold digitsAt; omega
 rw [h2]
 exact (List.prefix_iff_eq_take.1 (List.takeWhile_prefix isDigit)).symm
theorem digits_rest (t : ByteArray) (p : Nat) : (rest t p).dropWhile isDigit = rest t (digitsAt t p) := by
 have h := List.takeWhile_append_dropWhile (p := isDigit) (l := rest t p)
 have h2 : rest t (digitsAt t p) = (rest t p).drop ((rest t p).takeWhile isDigit).length := by
  unfold digitsAt rest
  rw [List.drop_drop]
 rw [h2]
 have h3 : (rest t p).drop ((rest t p).takeWhile isDigit).length = ((rest t p).takeWhile isDigit ++ (rest t p).dropWhile isDigit).drop ((rest t p).takeWhile isDigit).length := by rw [h]
 rw [h3, List.drop_left]
theorem takeWhile_digits (r : Bs) : ∀ c ∈ r.takeWhile isDigit, isDigit c = true := fun c hc => by
 have := List.all_takeWhile (p := isDigit) (l := r)
 rw [List.all_eq_true] at this
 exact this c hc
def signAt (t : ByteArray) (p : Nat) : Nat := if hd (rest t p) = 45 then p + 1 else p
theorem sign_rest (t : ByteArray) (p : Nat) : (if (hd (rest t p) == 45) = true then (rest t p).tail else rest t p) = rest t (signAt t p) := by
 unfold signAt
 by_cases h : hd (rest t p) = 45
 ·rw [if_pos h, if_pos (by simp [h]), rest_tail]
 ·rw [if_neg h, if_neg (by simp [h])]
theorem number_eq (t : ByteArray) (p : Nat) : number (rest t p) =
  (if (rest t (signAt t p)).takeWhile isDigit = [] then .error eSyntax
  else if hd ((rest t (signAt t p)).takeWhile isDigit) = 48 /\ ((hd (rest t p) == 45) = true ∨ 1 < ((rest t (signAt t p)).takeWhile isDigit).length) then .error eSyntax
  else if 18 < ((rest t (signAt t p)).takeWhile isDigit).length then .error eLarge
  else .ok (some (Sum.inr (Sum.inl (numVal (hd (rest t p) == 45) ((rest t (signAt t p)).takeWhile isDigit)))), rest t (digitsAt t (signAt t p)))) := by
 unfold number
 simp only []
 rw [sign_rest, digits_rest]
theorem hd_data {D : ByteArray} {ds : Bs} (h : D.data.toList = ds) (h0 : 0 < D.size) : hd ds = D[0] := by
 have h' : 0 < D.data.toList.length := by simpa using h0
 have e : D.data.toList = D[0] :: D.data.toList.tail := by
  cases hD : D.data.toList with
  | nil => rw [hD] at h'; simp at h'
  | cons c r =>
   have : D.data.toList[0] = D[0] := rfl
   simp only [hD] at this
   rw [<- this]
   rfl
 rw [<- h, e]
 rfl
theorem number_text (t : ByteArray) (p : Nat) (hp : p <= t.size) : (t.extract p (digitsAt t (signAt t p))).data.toList = (if hd (rest t p) == 45 then [45] else []) ++ (rest t (signAt t p)).takeWhile isDigit := by
 have h1 : ∀ q, (t.extract p q).data.toList = (rest t p).take (q - p) := by
  intro q
  unfold rest
  simp
 rw [h1]
 by_cases h : hd (rest t p) = 45
 ·have hlt : p < t.size := lt_of_hd (by rw [h]; decide)
  have e : signAt t p = p + 1 := by unfold signAt; rw [if_pos h]
  rw [e, if_pos (by simp [h])]
  have h2 : digitsAt t (p + 1) - p = ((rest t (p + 1)).takeWhile isDigit).length + 1 := by unfold digitsAt; omega
  rw [h2, rest_cons hlt, List.take_succ_cons]
  rw [hd_lt hlt] at h
  rw [h, <- List.prefix_iff_eq_take.1 (List.takeWhile_prefix isDigit)]
  rfl
 ·have e : signAt t p = p := by unfold signAt; rw [if_neg h]
  rw [e, if_neg (by simp [h])]
  have h2 : digitsAt t p - p = ((rest t p).takeWhile isDigit).length := by unfold digitsAt; omega
  rw [h2, <- List.prefix_iff_eq_take.1 (List.takeWhile_prefix isDigit)]
  rfl
def NumPost (b : Nat) (t : ByteArray) (p k : Nat) (w : World) (e : Ending) (w' : World) : Prop :=
 G b w w' /\ ((∃ er : Nat, number (rest t p) = .error er /\ er ≠ 0 /\ er < 100 /\ e = .returned (.tuple #[.nilIface, .int .i64 er])) ∨
  ∃ l q, number (rest t p) = .ok (l, rest t q) /\ p < q /\ q <= t.size /\ e = .returned (.tuple #[leafV l, .int .i64 0]) /\ Rd b t q k w')
theorem bytesWorld_grown (w : World) (e : TypeId) (x : ByteArray) (row : Option Nat) : w.grownBy (Lib.bytesWorld w e x) row := by
 refine ⟨?_, ?_, ?_, by rw [Lib.bytesWorld_size]; omega, fun k hk _ => Lib.bytesWorld_at_old w e x k hk⟩
 all_goals
  unfold Lib.bytesWorld World.freeze
  split <;> rfl
theorem num_world {b : Nat} {t : ByteArray} {q k : Nat} {w w2 w3 : World} {e : TypeId} (hG : G b w w2) (hR : Rd b t q k w2) (h : w3 = w2.drew ∨ ∃ x, w3 = Lib.bytesWorld w2.drew e x) : G b w w3 /\ Rd b t q k w3 := by
 rcases h with rfl | ⟨x, rfl⟩
 ·exact ⟨hG.drew, hR.drew⟩
 ·exact ⟨hG.drew.trans (bytesWorld_grown _ _ _ _), (hR.drew).kept (bytesWorld_grown _ _ _ none) (fun e => by cases e)⟩
set_option maxRecDepth 100000 in
set_option maxHeartbeats 4000000 in
theorem number_below (b : Nat) (t : ByteArray) (p k : Nat) (w : World) (h : Rd b t p k w) (hp : p <= t.size) (ht : t.size <= 2000) (hc : hd (rest t p) = 45) :
  Calls Tryz.prog 62 #[.pointer (some ⟨b, 0, none⟩)] w (NumPost b t p k w) := by
 have hcb : (hd (rest t p) == 45) = true := by rw [hc]; rfl
 have hs : signAt t p = p + 1 := by unfold signAt; rw [if_pos hc]
 have hlt : p < t.size := lt_of_hd (by rw [hc]; decide)
 have hsp : signAt t p <= t.size := by rw [hs]; omega
 have hpl := h.place
 have hle := digitsAt_le hsp
 have hge : signAt t p <= digitsAt t (signAt t p) := by unfold digitsAt; omega
 have hDl := digits_list t (signAt t p) hsp
 have hDs : (t.extract (signAt t p) (digitsAt t (signAt t p))).size = ((rest t (signAt t p)).takeWhile isDigit).length := by
  rw [<- hDl, Array.length_toList]; rfl
 have hTx := number_text t p hp
 have hdig := takeWhile_digits (rest t (signAt t p))
 have HN : Hid (number (rest t p) = _) := number_eq t p
 rw [hcb] at HN hTx
 have hdA : digitsAt t (signAt t p) = signAt t p + ((rest t (signAt t p)).takeWhile isDigit).length := rfl
 have HR : Hid (Rd b t p k w) := h
 have HC : Hid (hd (rest t p) = 45) := hc
 have HS : Hid (signAt t p = p + 1) := hs
 have hsge : p <= signAt t p := by rw [hs]; omega
 generalize hds : (rest t (signAt t p)).takeWhile isDigit = ds at *
 generalize hQ : digitsAt t (signAt t p) = q at *
 have HQ : Hid (digitsAt t (signAt t p) = q) := hQ
 have HDL : Hid ((t.extract (signAt t p) q).data.toList = ds) := hDl
 have HDS : Hid ((t.extract (signAt t p) q).size = ds.length) := hDs
 have HTX : Hid ((t.extract p q).data.toList = (if true = true then [45] else []) ++ ds) := hTx
 have HDG : Hid (∀ c ∈ ds, isDigit c = true) := hdig
 have HDA : Hid (q = signAt t p + ds.length) := hdA
 clear h hc hcb hs hds hQ hDl hDs hTx hdig hdA
 go_enter Tryz.func62, Tryz.ntmps62
 go_wp2_with fail
 refine (take_yes b t p k 45 _ HR.out ht hlt HC.out).mono ?_
 rintro e w1 ⟨rfl, g1, r1⟩
 have HG1 : Hid (G b w w1) := g1
 have HR1 : Hid (Rd b t (signAt t p) k w1) := by rw [HS.out]; exact r1
 clear g1 r1 hpl
 go_wp2_with fail
 refine (digits_any b t (signAt t p) k _ HR1.out hsp ht).mono ?_
 rintro e w2 ⟨rfl, g1, r1⟩
 rw [HQ.out] at r1 ⊢
 have HG2 : Hid (G b w w2) := HG1.out.trans g1
 have HR2 : Hid (Rd b t q k w2) := r1
 have c0 := r1.text
 have c1 := r1.place
 clear g1 r1
 generalize hD : t.extract (signAt t p) q = D at *
 have HD : Hid (t.extract (signAt t p) q = D) := hD
 clear hD
 by_cases hnil : ds = []
 ·have hb : (D.toList == []) = true := by rw [ByteArray.toList_eq, HDL.out, hnil]; rfl
  go_wp2_with fail
  go_ret2
  exact ⟨HG2.out, Or.inl ⟨3, by rw [HN.out, if_pos hnil], by decide, by decide, rfl⟩⟩
 have hb : (D.toList == []) = false := by rw [ByteArray.toList_eq, HDL.out]; simpa using hnil
 have HNil : Hid (ds ≠ []) := hnil
 have h0 : 0 < D.size := by have := HDS.out; have := List.length_pos_iff.2 hnil; omega
 have HH : Hid (hd ds = D[0]) := hd_data HDL.out h0
 have h0' : (0 : Int) < (D.size : Int) := by omega
 clear hnil
 by_cases hz : D[0] = 48
 ·have hzb : ((D[0].toNat : Int) == 48) = true := by rw [hz]; rfl
  have HZ : Hid (D[0] = 48) := hz
  clear hz
  go_wp2_with fail
  go_ret2
  exact ⟨HG2.out, Or.inl ⟨3, by rw [HN.out, if_neg HNil.out, if_pos ⟨by rw [HH.out, HZ.out], Or.inl trivial⟩], by decide, by decide, rfl⟩⟩
 have hzb : ((D[0].toNat : Int) == 48) = false := ne_bool 48 (by decide) hz
 have HZ : Hid (¬ (hd ds = 48 /\ (true = true ∨ 1 < ds.length))) := fun e => hz (by rw [<- HH.out]; exact e.1)
 clear hz
 by_cases h18 : (18 : Int) < (D.size : Int)
 ·go_wp2_with fail
  go_ret2
  exact ⟨HG2.out, Or.inl ⟨2, by rw [HN.out, if_neg HNil.out, if_neg (by have := HH.out; have := HZ.out; exact HZ.out), if_pos (by have := HDS.out; omega)], by decide, by decide, rfl⟩⟩
 have HP : Hid (Lib.parseIntB 64 (t.extract p q).data.toList = .ok (numVal true ds)) := by
  show Lib.parseIntB 64 (t.extract p q).data.toList = _
  rw [HTX.out]
  exact parse_ok true ds HDG.out HNil.out (by have := HDS.out; omega)
 have hxs : (t.extract p q).size <= 9223372036854775806 := by simp; omega
 have HX : Hid ((t.extract p q).size <= 9223372036854775806) := hxs
 have hI1 : (p : Int) <= (q : Int) := by omega
 have hI2 : (q : Int) <= (t.size : Int) := by omega
 clear hxs
 go_wp2_with fail
 go_region_with (first | (go_at_call 89; refine (Tryz.strconv_ParseInt_10_at64_ok _ (by exact HX.out) _ (by exact HP.out) _).mono ?_; rintro e w3 ⟨rfl, hw3⟩))
 all_goals
  obtain ⟨g3, r3⟩ := num_world HG2.out HR2.out hw3
  have HG3 : Hid (G b w w3) := g3
  have HR3 : Hid (Rd b t q k w3) := r3
  clear hw3 g3 r3
  go_wp2_with fail
  go_ret2
  refine ⟨HG3.out, Or.inr ⟨some (Sum.inr (Sum.inl (numVal true ds))), q, ?_, ?_, hle, rfl, HR3.out⟩⟩
  ·rw [HN.out, if_neg HNil.out, if_neg HZ.out, if_neg (by have := HDS.out; omega)]
  ·have h1 := HDA.out
   have h2 := List.length_pos_iff.2 HNil.out
   omega

set_option maxRecDepth 100000 in
set_option maxHeartbeats 4000000 in
theorem number_plain (b : Nat) (t : ByteArray) (p k : Nat) (w : World) (h : Rd b t p k w) (hp : p <= t.size) (ht : t.size <= 2000) (hc : hd (rest t p) ≠ 45) :
  Calls Tryz.prog 62 #[.pointer (some ⟨b, 0, none⟩)] w (NumPost b t p k w) := by
 have hcb : (hd (rest t p) == 45) = false := beq_eq_false_iff_ne.2 hc
 have hs : signAt t p = p := by unfold signAt; rw [if_neg hc]
 have hsp : signAt t p <= t.size := by rw [hs]; omega
 have hpl := h.place
 have hle := digitsAt_le hsp
 have hge : signAt t p <= digitsAt t (signAt t p) := by unfold digitsAt; omega
 have hDl := digits_list t (signAt t p) hsp
 have hDs : (t.extract (signAt t p) (digitsAt t (signAt t p))).size = ((rest t (signAt t p)).takeWhile isDigit).length := by
  rw [<- hDl, Array.length_toList]; rfl
 have hTx := number_text t p hp
 have hdig := takeWhile_digits (rest t (signAt t p))
 have HN : Hid (number (rest t p) = _) := number_eq t p
 rw [hcb] at HN hTx
 have hdA : digitsAt t (signAt t p) = signAt t p + ((rest t (signAt t p)).takeWhile isDigit).length := rfl
 have HR : Hid (Rd b t p k w) := h
 have HC : Hid (hd (rest t p) ≠ 45) := hc
 have HS : Hid (signAt t p = p) := hs
 have hsge : p <= signAt t p := by rw [hs]; omega
 generalize hds : (rest t (signAt t p)).takeWhile isDigit = ds at *
 generalize hQ : digitsAt t (signAt t p) = q at *
 have HQ : Hid (digitsAt t (signAt t p) = q) := hQ
 have HDL : Hid ((t.extract (signAt t p) q).data.toList = ds) := hDl
 have HDS : Hid ((t.extract (signAt t p) q).size = ds.length) := hDs
 have HTX : Hid ((t.extract p q).data.toList = (if false = true then [45] else []) ++ ds) := hTx
 have HDG : Hid (∀ c ∈ ds, isDigit c = true) := hdig
 have HDA : Hid (q = signAt t p + ds.length) := hdA
 clear h hc hcb hs hds hQ hDl hDs hTx hdig hdA
 go_enter Tryz.func62, Tryz.ntmps62
 go_wp2_with fail
 refine (take_no b t p k 45 _ HR.out hp ht HC.out).mono ?_
 rintro e w1 ⟨rfl, g1, r1⟩
 have HG1 : Hid (G b w w1) := g1
 have HR1 : Hid (Rd b t (signAt t p) k w1) := by rw [HS.out]; exact r1
 clear g1 r1 hpl
 go_wp2_with fail
 refine (digits_any b t (signAt t p) k _ HR1.out hsp ht).mono ?_
 rintro e w2 ⟨rfl, g1, r1⟩
 rw [HQ.out] at r1 ⊢
 have HG2 : Hid (G b w w2) := HG1.out.trans g1
 have HR2 : Hid (Rd b t q k w2) := r1
 have c0 := r1.text
 have c1 := r1.place
 clear g1 r1
 generalize hD : t.extract (signAt t p) q = D at *
 have HD : Hid (t.extract (signAt t p) q = D) := hD
 clear hD
 by_cases hnil : ds = []
 ·have hb : (D.toList == []) = true := by rw [ByteArray.toList_eq, HDL.out, hnil]; rfl
  go_wp2_with fail
  go_ret2
  exact ⟨HG2.out, Or.inl ⟨3, by rw [HN.out, if_pos hnil], by decide, by decide, rfl⟩⟩
 have hb : (D.toList == []) = false := by rw [ByteArray.toList_eq, HDL.out]; simpa using hnil
 have HNil : Hid (ds ≠ []) := hnil
 have h0 : 0 < D.size := by have := HDS.out; have := List.length_pos_iff.2 hnil; omega
 have HH : Hid (hd ds = D[0]) := hd_data HDL.out h0
 have h0' : (0 : Int) < (D.size : Int) := by omega
 clear hnil
 by_cases hz : D[0] = 48
 ·have hzb : ((D[0].toNat : Int) == 48) = true := by rw [hz]; rfl
  have HZ0 : Hid (D[0] = 48) := hz
  clear hz
  by_cases h1 : (1 : Int) < (D.size : Int)
  ·go_wp2_with fail
   go_ret2
   exact ⟨HG2.out, Or.inl ⟨3, by rw [HN.out, if_neg HNil.out, if_pos ⟨by rw [HH.out, HZ0.out], Or.inr (by have := HDS.out; omega)⟩], by decide, by decide, rfl⟩⟩
  have HZ : Hid (¬ (hd ds = 48 /\ (false = true ∨ 1 < ds.length))) := by
   show ¬ (hd ds = 48 /\ (false = true ∨ 1 < ds.length))
   intro e
   rcases e.2 with h | h
   ·cases h
   ·have := HDS.out
    omega
  have h18 : ¬ (18 : Int) < (D.size : Int) := by omega
  have HP : Hid (Lib.parseIntB 64 (t.extract p q).data.toList = .ok (numVal false ds)) := by
   show Lib.parseIntB 64 (t.extract p q).data.toList = _
   rw [HTX.out]
   exact parse_ok false ds HDG.out HNil.out (by have := HDS.out; omega)
  have hxs : (t.extract p q).size <= 9223372036854775806 := by simp; omega
  have HX : Hid ((t.extract p q).size <= 9223372036854775806) := hxs
  have hI1 : (p : Int) <= (q : Int) := by omega
  have hI2 : (q : Int) <= (t.size : Int) := by omega
  clear hxs
  go_wp2_with fail
  go_region_with (first | (go_at_call 89; refine (Tryz.strconv_ParseInt_10_at64_ok _ (by exact HX.out) _ (by exact HP.out) _).mono ?_; rintro e w3 ⟨rfl, hw3⟩))
  all_goals
   obtain ⟨g3, r3⟩ := num_world HG2.out HR2.out hw3
   have HG3 : Hid (G b w w3) := g3
   have HR3 : Hid (Rd b t q k w3) := r3
   clear hw3 g3 r3
   go_wp2_with fail
   go_ret2
   refine ⟨HG3.out, Or.inr ⟨some (Sum.inr (Sum.inl (numVal false ds))), q, ?_, ?_, hle, rfl, HR3.out⟩⟩
   ·rw [HN.out, if_neg HNil.out, if_neg HZ.out, if_neg (by have := HDS.out; omega)]
   ·have h1 := HDA.out
    have h2 := List.length_pos_iff.2 HNil.out
    omega
 have hzb : ((D[0].toNat : Int) == 48) = false := ne_bool 48 (by decide) hz
 have HZ : Hid (¬ (hd ds = 48 /\ (false = true ∨ 1 < ds.length))) := fun e => hz (by rw [<- HH.out]; exact e.1)
 clear hz
 by_cases h18 : (18 : Int) < (D.size : Int)
 ·go_wp2_with fail
  go_ret2
  exact ⟨HG2.out, Or.inl ⟨2, by rw [HN.out, if_neg HNil.out, if_neg (by have := HH.out; have := HZ.out; exact HZ.out), if_pos (by have := HDS.out; omega)], by decide, by decide, rfl⟩⟩
 have HP : Hid (Lib.parseIntB 64 (t.extract p q).data.toList = .ok (numVal false ds)) := by
  show Lib.parseIntB 64 (t.extract p q).data.toList = _
  rw [HTX.out]
  exact parse_ok false ds HDG.out HNil.out (by have := HDS.out; omega)
 have hxs : (t.extract p q).size <= 9223372036854775806 := by simp; omega
 have HX : Hid ((t.extract p q).size <= 9223372036854775806) := hxs
 have hI1 : (p : Int) <= (q : Int) := by omega
 have hI2 : (q : Int) <= (t.size : Int) := by omega
 clear hxs
 go_wp2_with fail
 go_region_with (first | (go_at_call 89; refine (Tryz.strconv_ParseInt_10_at64_ok _ (by exact HX.out) _ (by exact HP.out) _).mono ?_; rintro e w3 ⟨rfl, hw3⟩))
 all_goals
  obtain ⟨g3, r3⟩ := num_world HG2.out HR2.out hw3
  have HG3 : Hid (G b w w3) := g3
  have HR3 : Hid (Rd b t q k w3) := r3
  clear hw3 g3 r3
  go_wp2_with fail
  go_ret2
  refine ⟨HG3.out, Or.inr ⟨some (Sum.inr (Sum.inl (numVal false ds))), q, ?_, ?_, hle, rfl, HR3.out⟩⟩
  ·rw [HN.out, if_neg HNil.out, if_neg HZ.out, if_neg (by have := HDS.out; omega)]
  ·have h1 := HDA.out
   have h2 := List.length_pos_iff.2 HNil.out
   omega

theorem number_any (b : Nat) (t : ByteArray) (p k : Nat) (w : World) (h : Rd b t p k w) (hp : p <= t.size) (ht : t.size <= 2000) :
  Calls Tryz.prog 62 #[.pointer (some ⟨b, 0, none⟩)] w (NumPost b t p k w) := by
 by_cases hc : hd (rest t p) = 45
 ·exact number_below b t p k w h hp ht hc
 ·exact number_plain b t p k w h hp ht hc
end Go.Proofs.YtjcdklbimaclkaaGreatDoor
namespace Go.Proofs.YtjcdklbimaclkaaGreatDoor
set_option linter.unusedVariables false
set_option linter.unusedSimpArgs false
def Counts {σ : Type} (one : σ -> Nat -> Bs -> Except Nat (σ × Nat × Bs)) : Prop := ∀ s k r s' k' r', one s k r = .ok (s', k', r') -> k <= k'
theorem rowGo_counts {σ : Type} {z : UInt8} {one : σ -> Nat -> Bs -> Except Nat (σ × Nat × Bs)} (h : Counts one) : ∀ (f : Nat) (s : σ) (k : Nat) (r : Bs) (s' : σ) (k' : Nat) (r' : Bs), rowGo z one f s k r = .ok (s', k', r') -> k <= k'
 | 0, s, k, r, s', k', r', e => by simp [rowGo] at e
 | f + 1, s, k, r, s', k', r', e => by
  rw [rowGo] at e
  cases ho : one s k r with
  | error er => rw [ho] at e; cases e
  | ok p =>
   obtain ⟨s1, k1, r1⟩ := p
   have h1 := h s k r s1 k1 r1 ho
   rw [ho] at e
   simp only [] at e
   split at e
   ·cases e; exact h1
   ·split at e
    ·exact Nat.le_trans h1 (rowGo_counts h f s1 k1 _ s' k' r' e)
    ·cases e
theorem row_counts {σ : Type} {z : UInt8} {one : σ -> Nat -> Bs -> Except Nat (σ × Nat × Bs)} (h : Counts one) (s : σ) (k : Nat) (r : Bs) (s' : σ) (k' : Nat) (r' : Bs) (e : row z one s k r = .ok (s', k', r')) : k <= k' := by
 unfold row at e
 split at e
 ·cases e; exact Nat.le_refl _
 ·exact rowGo_counts h _ _ _ _ _ _ _ e
theorem value_counts : ∀ (n : Nat) (k : Nat) (r : Bs) (j : J n) (k' : Nat) (r' : Bs), value n k r = .ok (j, k', r') -> k < k'
 | 0, k, r, j, k', r', e => by
  rw [value] at e
  split at e
  ·cases e
  ·unfold leafAt at e
   cases hl : leafE (skip r) with
   | error er => rw [hl] at e; cases e
   | ok p => rw [hl] at e; cases e; omega
 | n + 1, k, r, j, k', r', e => by
  rw [value] at e
  split at e
  ·cases e
  ·split at e
   ·cases hr : row 93 (oneItem (value n)) [] (k + 1) (skip r) with
    | error er => rw [hr] at e; cases e
    | ok p =>
     obtain ⟨s1, k1, r1⟩ := p
     rw [hr] at e
     cases e
     have := row_counts (one := oneItem (value n)) (fun s k r s' k' r' ho => by
      unfold oneItem at ho
      cases hv : value n k r with
      | error er => rw [hv] at ho; cases ho
      | ok p =>
       obtain ⟨v, k1, r1⟩ := p
       rw [hv] at ho
       cases ho
       exact Nat.le_of_lt (value_counts n k r v _ _ hv)) _ _ _ _ _ _ hr
     omega
   ·split at e
    ·cases hr : row 125 (oneField (value n)) [] (k + 1) (skip r) with
     | error er => rw [hr] at e; cases e
     | ok p =>
      obtain ⟨s1, k1, r1⟩ := p
      rw [hr] at e
      cases e
      have := row_counts (one := oneField (value n)) (fun s k r s' k' r' ho => by
       unfold oneField at ho
       cases hn : nameE s r with
       | error er => rw [hn] at ho; cases ho
       | ok p =>
        obtain ⟨nm, r1⟩ := p
        rw [hn] at ho
        simp only [] at ho
        cases hv : value n k r1 with
        | error er => rw [hv] at ho; cases ho
        | ok p =>
         obtain ⟨v, k1, r2⟩ := p
         rw [hv] at ho
         cases ho
         exact Nat.le_of_lt (value_counts n k r1 v _ _ hv)) _ _ _ _ _ _ hr
      omega
    ·unfold leafAt at e
     cases hl : leafE (skip r) with
     | error er => rw [hl] at e; cases e
     | ok p => rw [hl] at e; cases e; omega
end Go.Proofs.YtjcdklbimaclkaaGreatDoor
namespace Go.Proofs.YtjcdklbimaclkaaGreatDoor
open Go.RowKit
set_option linter.unusedVariables false
set_option linter.unusedSimpArgs false
theorem value_err {n k : Nat} {r : Bs} (h : beginE n k (skip r) ≠ 0) : value n k r = .error (beginE n k (skip r)) := by
 cases n with
 | zero => rw [value, if_pos h]
 | succ n => rw [value, if_pos h]
theorem value_leaf {n k : Nat} {r : Bs} (h : beginE n k (skip r) = 0) (h1 : hd (skip r) ≠ 91) (h2 : hd (skip r) ≠ 123) : value n k r = leafAt n k (skip r) := by
 cases n with
 | zero => rw [value, if_neg (by simp [h])]
 | succ n => rw [value, if_neg (by simp [h]), if_neg h1, if_neg h2]
theorem value_list {n k : Nat} {r : Bs} (h : beginE (n + 1) k (skip r) = 0) (h1 : hd (skip r) = 91) : value (n + 1) k r = match row 93 (oneItem (value n)) [] (k + 1) (skip r) with
      | .error e => .error e
      | .ok (s, k', r') => .ok (Sum.inr (Sum.inl s), k', r') := by
 rw [value, if_neg (by simp [h]), if_pos h1]
 cases row 93 (oneItem (value n)) [] (k + 1) (skip r) <;> rfl
theorem value_obj {n k : Nat} {r : Bs} (h : beginE (n + 1) k (skip r) = 0) (h1 : hd (skip r) = 123) : value (n + 1) k r = match row 125 (oneField (value n)) [] (k + 1) (skip r) with
      | .error e => .error e
      | .ok (s, k', r') => .ok (Sum.inr (Sum.inr s), k', r') := by
 rw [value, if_neg (by simp [h]), if_neg (by rw [h1]; decide), if_pos h1]
 cases row 125 (oneField (value n)) [] (k + 1) (skip r) <;> rfl
theorem leafV_iface (l : Leaf) : ∃ T x, leafV l = .iface T x := by
 rcases l with _ | b | i | s <;> exact ⟨_, _, rfl⟩
theorem begin_0 {n k : Nat} {r : Bs} (ho : hd r ∈ opens) (hk : k < 200) (hd' : n ≠ 0 ∨ (hd r ≠ 91 /\ hd r ≠ 123)) : beginE n k r = 0 := by
 unfold beginE
 rw [if_neg (by simpa using ho), if_neg (by omega), if_neg]
 rintro ⟨h1, h2⟩
 rcases hd' with h | ⟨h3, h4⟩
 ·exact h h1
 ·rcases h2 with h2 | h2
  ·exact h3 h2
  ·exact h4 h2
set_option maxRecDepth 100000 in
set_option maxHeartbeats 2000000 in
theorem value_syntax (n b : Nat) (t : ByteArray) (p k : Nat) (d : Int) (w : World) (h : Rd b t p k w) (hp : p <= t.size) (ht : t.size <= 2000) (hk : k <= 200) (hd10 : d + n = 10) (hc : ¬ hd (skip (rest t p)) ∈ opens) :
  Calls Tryz.prog 45 #[.pointer (some ⟨b, 0, none⟩), .int .i64 d] w (ValPost b t p k n w) := by
 have HB : Hid (beginE n k (skip (rest t p)) = 3) := by
  show beginE n k (skip (rest t p)) = 3
  unfold beginE; rw [if_pos hc]
 have hsl := skipAt_le t p
 have hsg := skipAt_ge t p hp
 have hSk : rest t (skipAt t p) = skip (rest t p) := rest_skip t p hp
 rw [<- hSk] at hc
 have HR : Hid (Rd b t p k w) := h
 have HSk : Hid (rest t (skipAt t p) = skip (rest t p)) := hSk
 have HC : Hid (¬ hd (rest t (skipAt t p)) ∈ opens) := hc
 clear h hSk hc
 go_enter Tryz.func45, Tryz.ntmps45
 go_wp2_with fail
 refine (skipBlanks_any b t p k _ HR.out hp ht).mono ?_
 rintro e w1 ⟨rfl, g1, r1⟩
 have HG1 : Hid (G b w w1) := g1
 have HR1 : Hid (Rd b t (skipAt t p) k w1) := r1
 clear g1 r1
 go_wp2_with fail
 refine (begin_syntax b t (skipAt t p) k d _ HR1.out hsl ht HC.out).mono ?_
 rintro e w2 ⟨rfl, g1⟩
 have HG2 : Hid (G b w w2) := HG1.out.trans g1
 clear g1
 go_wp2_with fail
 go_ret2
 exact ⟨HG2.out, Or.inl ⟨3, _, by rw [value_err (by rw [HB.out]; decide), HB.out], by decide, by decide, rfl, Or.inl rfl⟩⟩
set_option maxRecDepth 100000 in
set_option maxHeartbeats 2000000 in
theorem value_large (n b : Nat) (t : ByteArray) (p k : Nat) (d : Int) (w : World) (h : Rd b t p k w) (hp : p <= t.size) (ht : t.size <= 2000) (hk : k <= 200) (hd10 : d + n = 10) (hk2 : 200 <= k) (hc : hd (skip (rest t p)) ∈ opens) :
  Calls Tryz.prog 45 #[.pointer (some ⟨b, 0, none⟩), .int .i64 d] w (ValPost b t p k n w) := by
 have HB : Hid (beginE n k (skip (rest t p)) = 2) := by
  show beginE n k (skip (rest t p)) = 2
  unfold beginE; rw [if_neg (by simpa using hc), if_pos hk2]
 have hsl := skipAt_le t p
 have hsg := skipAt_ge t p hp
 have hSk : rest t (skipAt t p) = skip (rest t p) := rest_skip t p hp
 rw [<- hSk] at hc
 have HR : Hid (Rd b t p k w) := h
 have HSk : Hid (rest t (skipAt t p) = skip (rest t p)) := hSk
 have HC : Hid (hd (rest t (skipAt t p)) ∈ opens) := hc
 clear h hSk hc
 go_enter Tryz.func45, Tryz.ntmps45
 go_wp2_with fail
 refine (skipBlanks_any b t p k _ HR.out hp ht).mono ?_
 rintro e w1 ⟨rfl, g1, r1⟩
 have HG1 : Hid (G b w w1) := g1
 have HR1 : Hid (Rd b t (skipAt t p) k w1) := r1
 clear g1 r1
 go_wp2_with fail
 refine (begin_large b t (skipAt t p) k d _ HR1.out hsl ht HC.out hk2 (by omega)).mono ?_
 rintro e w2 ⟨rfl, g1⟩
 have HG2 : Hid (G b w w2) := HG1.out.trans g1
 clear g1
 go_wp2_with fail
 go_ret2
 exact ⟨HG2.out, Or.inl ⟨2, _, by rw [value_err (by rw [HB.out]; decide), HB.out], by decide, by decide, rfl, Or.inl rfl⟩⟩
set_option maxRecDepth 100000 in
set_option maxHeartbeats 2000000 in
theorem value_deep (n b : Nat) (t : ByteArray) (p k : Nat) (d : Int) (w : World) (h : Rd b t p k w) (hp : p <= t.size) (ht : t.size <= 2000) (hk : k <= 200) (hd10 : d + n = 10) (hk2 : k < 200) (hn : n = 0) (hc : hd (skip (rest t p)) = 91 ∨ hd (skip (rest t p)) = 123) :
  Calls Tryz.prog 45 #[.pointer (some ⟨b, 0, none⟩), .int .i64 d] w (ValPost b t p k n w) := by
 have HB : Hid (beginE n k (skip (rest t p)) = 4) := by
  show beginE n k (skip (rest t p)) = 4
  unfold beginE; rw [if_neg (by rcases hc with hc | hc <;> rw [hc] <;> decide), if_neg (by omega), if_pos ⟨hn, hc⟩]
 have hsl := skipAt_le t p
 have hsg := skipAt_ge t p hp
 have hSk : rest t (skipAt t p) = skip (rest t p) := rest_skip t p hp
 rw [<- hSk] at hc
 have HR : Hid (Rd b t p k w) := h
 have HSk : Hid (rest t (skipAt t p) = skip (rest t p)) := hSk
 have HC : Hid (hd (rest t (skipAt t p)) = 91 ∨ hd (rest t (skipAt t p)) = 123) := hc
 clear h hSk hc
 go_enter Tryz.func45, Tryz.ntmps45
 go_wp2_with fail
 refine (skipBlanks_any b t p k _ HR.out hp ht).mono ?_
 rintro e w1 ⟨rfl, g1, r1⟩
 have HG1 : Hid (G b w w1) := g1
 have HR1 : Hid (Rd b t (skipAt t p) k w1) := r1
 clear g1 r1
 go_wp2_with fail
 refine (begin_deep b t (skipAt t p) k d _ HR1.out hsl ht hk2 (by omega) HC.out).mono ?_
 rintro e w2 ⟨rfl, g1⟩
 have HG2 : Hid (G b w w2) := HG1.out.trans g1
 clear g1
 go_wp2_with fail
 go_ret2
 exact ⟨HG2.out, Or.inl ⟨4, _, by rw [value_err (by rw [HB.out]; decide), HB.out], by decide, by decide, rfl, Or.inl rfl⟩⟩
set_option maxRecDepth 100000 in
set_option maxHeartbeats 4000000 in
theorem value_null (n b : Nat) (t : ByteArray) (p k : Nat) (d : Int) (w : World) (h : Rd b t p k w) (hp : p <= t.size) (ht : t.size <= 2000) (hk2 : k < 200) (hd10 : d + n = 10) (hc : hd (skip (rest t p)) = 110) :
  Calls Tryz.prog 45 #[.pointer (some ⟨b, 0, none⟩), .int .i64 d] w (ValPost b t p k n w) := by
 have HVl : Hid (value n k (rest t p) = leafAt n k (skip (rest t p))) := value_leaf (begin_0 (by rw [hc]; decide) hk2 (Or.inr (by rw [hc]; decide))) (by rw [hc]; decide) (by rw [hc]; decide)
 have HLe : Hid (leafE (skip (rest t p)) = word nullB (skip (rest t p)) (none)) := by
  show leafE (skip (rest t p)) = _
  rw [leafE]
  simp [hc]
 have hsl := skipAt_le t p
 have hsg := skipAt_ge t p hp
 have hSk : rest t (skipAt t p) = skip (rest t p) := rest_skip t p hp
 rw [<- hSk] at hc
 have HR : Hid (Rd b t p k w) := h
 have HSk : Hid (rest t (skipAt t p) = skip (rest t p)) := hSk
 have HC : Hid (hd (rest t (skipAt t p)) = 110) := hc
 have HO : Hid (hd (rest t (skipAt t p)) ∈ opens) := by show hd (rest t (skipAt t p)) ∈ opens; rw [hc]; decide
 clear h hSk hc
 go_enter Tryz.func45, Tryz.ntmps45
 go_wp2_with fail
 refine (skipBlanks_any b t p k _ HR.out hp ht).mono ?_
 rintro e w1 ⟨rfl, g1, r1⟩
 have HG1 : Hid (G b w w1) := g1
 have HR1 : Hid (Rd b t (skipAt t p) k w1) := r1
 clear g1 r1
 go_wp2_with fail
 refine (begin_ok b t (skipAt t p) k d _ HR1.out hsl ht HO.out hk2 (Or.inr (by rw [HC.out]; decide))).mono ?_
 rintro e w2 ⟨rfl, g1, r1⟩
 have HG2 : Hid (G b w w2) := HG1.out.trans g1
 have HR2 : Hid (Rd b t (skipAt t p) (k + 1) w2) := r1
 clear g1 r1
 go_wp2_with fail
 refine (next_g b t (skipAt t p) (k + 1) _ HR2.out hsl ht).mono ?_
 rintro e w3 ⟨rfl, g1, r1⟩
 have HG3 : Hid (G b w w3) := HG2.out.trans g1
 have HR3 : Hid (Rd b t (skipAt t p) (k + 1) w3) := r1
 clear g1 r1
 rw [HC.out]
 cases hpre : (nullB).isPrefixOf (rest t (skipAt t p)) with
 | true =>
  have HP : Hid ((nullB).isPrefixOf (rest t (skipAt t p)) = true) := hpre
  have hle : skipAt t p + 4 <= t.size := by
   have h1 := List.isPrefixOf_iff_prefix.1 hpre
   have h2 := h1.length_le
   rw [rest_len] at h2
   have h3 : (nullB).length = 4 := rfl
   omega
  clear hpre
  go_wp2_with fail
  refine (word_yes b t { data := #[110, 117, 108, 108] } (skipAt t p) (k + 1) _ HR3.out hsl ht (by decide) HP.out).mono ?_
  rintro e w4 ⟨rfl, g1, r1⟩
  have HG4 : Hid (G b w w4) := HG3.out.trans g1
  have HR4 : Hid (Rd b t (skipAt t p + 4) (k + 1) w4) := r1
  clear g1 r1
  go_wp2_with fail
  go_ret2
  refine ⟨HG4.out, Or.inr ⟨leaf n (none), k + 1, skipAt t p + 4, leafV (none), ?_, by omega, hle, by omega, by omega, rfl, ⟨_, _, rfl⟩, HR4.out, st_leaf _ _ _ _⟩⟩
  rw [HVl.out, leafAt, HLe.out, word, <- HSk.out, if_pos HP.out]
  have : (rest t (skipAt t p)).drop (nullB).length = rest t (skipAt t p + 4) := by
   unfold rest
   rw [List.drop_drop]
   rfl
  rw [this]
 | false =>
  have HP : Hid ((nullB).isPrefixOf (rest t (skipAt t p)) = false) := hpre
  clear hpre
  go_wp2_with fail
  refine (word_no b t { data := #[110, 117, 108, 108] } (skipAt t p) (k + 1) _ HR3.out hsl ht (by decide) HP.out).mono ?_
  rintro e w4 ⟨rfl, g1⟩
  have HG4 : Hid (G b w w4) := HG3.out.trans g1
  clear g1
  go_wp2_with fail
  go_ret2
  refine ⟨HG4.out, Or.inl ⟨3, leafV (none), ?_, by decide, by decide, rfl, Or.inr ⟨_, _, rfl⟩⟩⟩
  rw [HVl.out, leafAt, HLe.out, word, <- HSk.out, if_neg (by rw [HP.out]; decide)]
set_option maxRecDepth 100000 in
set_option maxHeartbeats 4000000 in
theorem value_true (n b : Nat) (t : ByteArray) (p k : Nat) (d : Int) (w : World) (h : Rd b t p k w) (hp : p <= t.size) (ht : t.size <= 2000) (hk2 : k < 200) (hd10 : d + n = 10) (hc : hd (skip (rest t p)) = 116) :
  Calls Tryz.prog 45 #[.pointer (some ⟨b, 0, none⟩), .int .i64 d] w (ValPost b t p k n w) := by
 have HVl : Hid (value n k (rest t p) = leafAt n k (skip (rest t p))) := value_leaf (begin_0 (by rw [hc]; decide) hk2 (Or.inr (by rw [hc]; decide))) (by rw [hc]; decide) (by rw [hc]; decide)
 have HLe : Hid (leafE (skip (rest t p)) = word trueB (skip (rest t p)) (some (Sum.inl true))) := by
  show leafE (skip (rest t p)) = _
  rw [leafE]
  simp [hc]
 have hsl := skipAt_le t p
 have hsg := skipAt_ge t p hp
 have hSk : rest t (skipAt t p) = skip (rest t p) := rest_skip t p hp
 rw [<- hSk] at hc
 have HR : Hid (Rd b t p k w) := h
 have HSk : Hid (rest t (skipAt t p) = skip (rest t p)) := hSk
 have HC : Hid (hd (rest t (skipAt t p)) = 116) := hc
 have HO : Hid (hd (rest t (skipAt t p)) ∈ opens) := by show hd (rest t (skipAt t p)) ∈ opens; rw [hc]; decide
 clear h hSk hc
 go_enter Tryz.func45, Tryz.ntmps45
 go_wp2_with fail
 refine (skipBlanks_any b t p k _ HR.out hp ht).mono ?_
 rintro e w1 ⟨rfl, g1, r1⟩
 have HG1 : Hid (G b w w1) := g1
 have HR1 : Hid (Rd b t (skipAt t p) k w1) := r1
 clear g1 r1
 go_wp2_with fail
 refine (begin_ok b t (skipAt t p) k d _ HR1.out hsl ht HO.out hk2 (Or.inr (by rw [HC.out]; decide))).mono ?_
 rintro e w2 ⟨rfl, g1, r1⟩
 have HG2 : Hid (G b w w2) := HG1.out.trans g1
 have HR2 : Hid (Rd b t (skipAt t p) (k + 1) w2) := r1
 clear g1 r1
 go_wp2_with fail
 refine (next_g b t (skipAt t p) (k + 1) _ HR2.out hsl ht).mono ?_
 rintro e w3 ⟨rfl, g1, r1⟩
 have HG3 : Hid (G b w w3) := HG2.out.trans g1
 have HR3 : Hid (Rd b t (skipAt t p) (k + 1) w3) := r1
 clear g1 r1
 rw [HC.out]
 cases hpre : (trueB).isPrefixOf (rest t (skipAt t p)) with
 | true =>
  have HP : Hid ((trueB).isPrefixOf (rest t (skipAt t p)) = true) := hpre
  have hle : skipAt t p + 4 <= t.size := by
   have h1 := List.isPrefixOf_iff_prefix.1 hpre
   have h2 := h1.length_le
   rw [rest_len] at h2
   have h3 : (trueB).length = 4 := rfl
   omega
  clear hpre
  go_wp2_with fail
  refine (word_yes b t { data := #[116, 114, 117, 101] } (skipAt t p) (k + 1) _ HR3.out hsl ht (by decide) HP.out).mono ?_
  rintro e w4 ⟨rfl, g1, r1⟩
  have HG4 : Hid (G b w w4) := HG3.out.trans g1
  have HR4 : Hid (Rd b t (skipAt t p + 4) (k + 1) w4) := r1
  clear g1 r1
  go_wp2_with fail
  go_ret2
  refine ⟨HG4.out, Or.inr ⟨leaf n (some (Sum.inl true)), k + 1, skipAt t p + 4, leafV (some (Sum.inl true)), ?_, by omega, hle, by omega, by omega, rfl, ⟨_, _, rfl⟩, HR4.out, st_leaf _ _ _ _⟩⟩
  rw [HVl.out, leafAt, HLe.out, word, <- HSk.out, if_pos HP.out]
  have : (rest t (skipAt t p)).drop (trueB).length = rest t (skipAt t p + 4) := by
   unfold rest
   rw [List.drop_drop]
   rfl
  rw [this]
 | false =>
  have HP : Hid ((trueB).isPrefixOf (rest t (skipAt t p)) = false) := hpre
  clear hpre
  go_wp2_with fail
  refine (word_no b t { data := #[116, 114, 117, 101] } (skipAt t p) (k + 1) _ HR3.out hsl ht (by decide) HP.out).mono ?_
  rintro e w4 ⟨rfl, g1⟩
  have HG4 : Hid (G b w w4) := HG3.out.trans g1
  clear g1
  go_wp2_with fail
  go_ret2
  refine ⟨HG4.out, Or.inl ⟨3, leafV (some (Sum.inl true)), ?_, by decide, by decide, rfl, Or.inr ⟨_, _, rfl⟩⟩⟩
  rw [HVl.out, leafAt, HLe.out, word, <- HSk.out, if_neg (by rw [HP.out]; decide)]
set_option maxRecDepth 100000 in
set_option maxHeartbeats 4000000 in
theorem value_false (n b : Nat) (t : ByteArray) (p k : Nat) (d : Int) (w : World) (h : Rd b t p k w) (hp : p <= t.size) (ht : t.size <= 2000) (hk2 : k < 200) (hd10 : d + n = 10) (hc : hd (skip (rest t p)) = 102) :
  Calls Tryz.prog 45 #[.pointer (some ⟨b, 0, none⟩), .int .i64 d] w (ValPost b t p k n w) := by
 have HVl : Hid (value n k (rest t p) = leafAt n k (skip (rest t p))) := value_leaf (begin_0 (by rw [hc]; decide) hk2 (Or.inr (by rw [hc]; decide))) (by rw [hc]; decide) (by rw [hc]; decide)
 have HLe : Hid (leafE (skip (rest t p)) = word falseB (skip (rest t p)) (some (Sum.inl false))) := by
  show leafE (skip (rest t p)) = _
  rw [leafE]
  simp [hc]
 have hsl := skipAt_le t p
 have hsg := skipAt_ge t p hp
 have hSk : rest t (skipAt t p) = skip (rest t p) := rest_skip t p hp
 rw [<- hSk] at hc
 have HR : Hid (Rd b t p k w) := h
 have HSk : Hid (rest t (skipAt t p) = skip (rest t p)) := hSk
 have HC : Hid (hd (rest t (skipAt t p)) = 102) := hc
 have HO : Hid (hd (rest t (skipAt t p)) ∈ opens) := by show hd (rest t (skipAt t p)) ∈ opens; rw [hc]; decide
 clear h hSk hc
 go_enter Tryz.func45, Tryz.ntmps45
 go_wp2_with fail
 refine (skipBlanks_any b t p k _ HR.out hp ht).mono ?_
 rintro e w1 ⟨rfl, g1, r1⟩
 have HG1 : Hid (G b w w1) := g1
 have HR1 : Hid (Rd b t (skipAt t p) k w1) := r1
 clear g1 r1
 go_wp2_with fail
 refine (begin_ok b t (skipAt t p) k d _ HR1.out hsl ht HO.out hk2 (Or.inr (by rw [HC.out]; decide))).mono ?_
 rintro e w2 ⟨rfl, g1, r1⟩
 have HG2 : Hid (G b w w2) := HG1.out.trans g1
 have HR2 : Hid (Rd b t (skipAt t p) (k + 1) w2) := r1
 clear g1 r1
 go_wp2_with fail
 refine (next_g b t (skipAt t p) (k + 1) _ HR2.out hsl ht).mono ?_
 rintro e w3 ⟨rfl, g1, r1⟩
 have HG3 : Hid (G b w w3) := HG2.out.trans g1
 have HR3 : Hid (Rd b t (skipAt t p) (k + 1) w3) := r1
 clear g1 r1
 rw [HC.out]
 cases hpre : (falseB).isPrefixOf (rest t (skipAt t p)) with
 | true =>
  have HP : Hid ((falseB).isPrefixOf (rest t (skipAt t p)) = true) := hpre
  have hle : skipAt t p + 5 <= t.size := by
   have h1 := List.isPrefixOf_iff_prefix.1 hpre
   have h2 := h1.length_le
   rw [rest_len] at h2
   have h3 : (falseB).length = 5 := rfl
   omega
  clear hpre
  go_wp2_with fail
  refine (word_yes b t { data := #[102, 97, 108, 115, 101] } (skipAt t p) (k + 1) _ HR3.out hsl ht (by decide) HP.out).mono ?_
  rintro e w4 ⟨rfl, g1, r1⟩
  have HG4 : Hid (G b w w4) := HG3.out.trans g1
  have HR4 : Hid (Rd b t (skipAt t p + 5) (k + 1) w4) := r1
  clear g1 r1
  go_wp2_with fail
  go_ret2
  refine ⟨HG4.out, Or.inr ⟨leaf n (some (Sum.inl false)), k + 1, skipAt t p + 5, leafV (some (Sum.inl false)), ?_, by omega, hle, by omega, by omega, rfl, ⟨_, _, rfl⟩, HR4.out, st_leaf _ _ _ _⟩⟩
  rw [HVl.out, leafAt, HLe.out, word, <- HSk.out, if_pos HP.out]
  have : (rest t (skipAt t p)).drop (falseB).length = rest t (skipAt t p + 5) := by
   unfold rest
   rw [List.drop_drop]
   rfl
  rw [this]
 | false =>
  have HP : Hid ((falseB).isPrefixOf (rest t (skipAt t p)) = false) := hpre
  clear hpre
  go_wp2_with fail
  refine (word_no b t { data := #[102, 97, 108, 115, 101] } (skipAt t p) (k + 1) _ HR3.out hsl ht (by decide) HP.out).mono ?_
  rintro e w4 ⟨rfl, g1⟩
  have HG4 : Hid (G b w w4) := HG3.out.trans g1
  clear g1
  go_wp2_with fail
  go_ret2
  refine ⟨HG4.out, Or.inl ⟨3, leafV (some (Sum.inl false)), ?_, by decide, by decide, rfl, Or.inr ⟨_, _, rfl⟩⟩⟩
  rw [HVl.out, leafAt, HLe.out, word, <- HSk.out, if_neg (by rw [HP.out]; decide)]
set_option maxRecDepth 100000 in
set_option maxHeartbeats 4000000 in
theorem value_text (n b : Nat) (t : ByteArray) (p k : Nat) (d : Int) (w : World) (h : Rd b t p k w) (hp : p <= t.size) (ht : t.size <= 2000) (hk2 : k < 200) (hd10 : d + n = 10) (hc : hd (skip (rest t p)) = 34) :
  Calls Tryz.prog 45 #[.pointer (some ⟨b, 0, none⟩), .int .i64 d] w (ValPost b t p k n w) := by
 have HVl : Hid (value n k (rest t p) = leafAt n k (skip (rest t p))) := value_leaf (begin_0 (by rw [hc]; decide) hk2 (Or.inr (by rw [hc]; decide))) (by rw [hc]; decide) (by rw [hc]; decide)
 have HLe : Hid (leafE (skip (rest t p)) = textE (skip (rest t p))) := by
  show leafE (skip (rest t p)) = _
  rw [leafE]
  simp [hc]
 have hsl := skipAt_le t p
 have hsg := skipAt_ge t p hp
 have hSk : rest t (skipAt t p) = skip (rest t p) := rest_skip t p hp
 rw [<- hSk] at hc
 have HR : Hid (Rd b t p k w) := h
 have HSk : Hid (rest t (skipAt t p) = skip (rest t p)) := hSk
 have HC : Hid (hd (rest t (skipAt t p)) = 34) := hc
 have HO : Hid (hd (rest t (skipAt t p)) ∈ opens) := by show hd (rest t (skipAt t p)) ∈ opens; rw [hc]; decide
 clear h hSk hc
 go_enter Tryz.func45, Tryz.ntmps45
 go_wp2_with fail
 refine (skipBlanks_any b t p k _ HR.out hp ht).mono ?_
 rintro e w1 ⟨rfl, g1, r1⟩
 have HG1 : Hid (G b w w1) := g1
 have HR1 : Hid (Rd b t (skipAt t p) k w1) := r1
 clear g1 r1
 go_wp2_with fail
 refine (begin_ok b t (skipAt t p) k d _ HR1.out hsl ht HO.out hk2 (Or.inr (by rw [HC.out]; decide))).mono ?_
 rintro e w2 ⟨rfl, g1, r1⟩
 have HG2 : Hid (G b w w2) := HG1.out.trans g1
 have HR2 : Hid (Rd b t (skipAt t p) (k + 1) w2) := r1
 clear g1 r1
 go_wp2_with fail
 refine (next_g b t (skipAt t p) (k + 1) _ HR2.out hsl ht).mono ?_
 rintro e w3 ⟨rfl, g1, r1⟩
 have HG3 : Hid (G b w w3) := HG2.out.trans g1
 have HR3 : Hid (Rd b t (skipAt t p) (k + 1) w3) := r1
 clear g1 r1
 rw [HC.out]
 go_wp2_with fail
 refine (quoted_any b t (skipAt t p) (k + 1) _ HR3.out hsl ht).mono ?_
 rintro e w4 ⟨g1, h1⟩
 have HG4 : Hid (G b w w4) := HG3.out.trans g1
 clear g1
 rcases h1 with ⟨hq, rfl⟩ | ⟨l, q, hq, hpq, hqs, rfl, r1⟩
 ·have HQ : Hid (quoted (rest t (skipAt t p)) = none) := hq
  clear hq
  go_wp2_with fail
  go_ret2
  refine ⟨HG4.out, Or.inl ⟨3, _, ?_, by decide, by decide, rfl, Or.inr ⟨_, _, rfl⟩⟩⟩
  rw [HVl.out, leafAt, HLe.out, textE, <- HSk.out, HQ.out]
 ·have HQ : Hid (quoted (rest t (skipAt t p)) = some (l, rest t q)) := hq
  have HR4 : Hid (Rd b t q (k + 1) w4) := r1
  clear hq r1
  go_wp2_with fail
  go_ret2
  refine ⟨HG4.out, Or.inr ⟨leaf n (some (Sum.inr (Sum.inr l))), k + 1, q, leafV (some (Sum.inr (Sum.inr l))), ?_, by omega, hqs, by omega, by omega, rfl, ⟨_, _, rfl⟩, HR4.out, st_leaf _ _ _ _⟩⟩
  rw [HVl.out, leafAt, HLe.out, textE, <- HSk.out, HQ.out]
set_option maxRecDepth 100000 in
set_option maxHeartbeats 4000000 in
theorem value_number (n b : Nat) (t : ByteArray) (p k : Nat) (d : Int) (w : World) (h : Rd b t p k w) (hp : p <= t.size) (ht : t.size <= 2000) (hk2 : k < 200) (hd10 : d + n = 10) (hc : hd (skip (rest t p)) ∈ opens /\ hd (skip (rest t p)) ≠ 110 /\ hd (skip (rest t p)) ≠ 116 /\ hd (skip (rest t p)) ≠ 102 /\ hd (skip (rest t p)) ≠ 34 /\ hd (skip (rest t p)) ≠ 91 /\ hd (skip (rest t p)) ≠ 123) :
  Calls Tryz.prog 45 #[.pointer (some ⟨b, 0, none⟩), .int .i64 d] w (ValPost b t p k n w) := by
 have HVl : Hid (value n k (rest t p) = leafAt n k (skip (rest t p))) := value_leaf (begin_0 hc.1 hk2 (Or.inr ⟨hc.2.2.2.2.2.1, hc.2.2.2.2.2.2⟩)) hc.2.2.2.2.2.1 hc.2.2.2.2.2.2
 have HLe : Hid (leafE (skip (rest t p)) = number (skip (rest t p))) := by
  show leafE (skip (rest t p)) = _
  rw [leafE]
  simp [hc.2.1, hc.2.2.1, hc.2.2.2.1, hc.2.2.2.2.1]
 have hsl := skipAt_le t p
 have hsg := skipAt_ge t p hp
 have hSk : rest t (skipAt t p) = skip (rest t p) := rest_skip t p hp
 rw [<- hSk] at hc
 have HR : Hid (Rd b t p k w) := h
 have HSk : Hid (rest t (skipAt t p) = skip (rest t p)) := hSk
 have HO : Hid (hd (rest t (skipAt t p)) ∈ opens) := hc.1
 have HD : Hid (hd (rest t (skipAt t p)) ≠ 91 /\ hd (rest t (skipAt t p)) ≠ 123) := ⟨hc.2.2.2.2.2.1, hc.2.2.2.2.2.2⟩
 have x1 := ne_bool 110 (by decide) hc.2.1
 have x2 := ne_bool 116 (by decide) hc.2.2.1
 have x3 := ne_bool 102 (by decide) hc.2.2.2.1
 have x4 := ne_bool 34 (by decide) hc.2.2.2.2.1
 have x5 := ne_bool 91 (by decide) hc.2.2.2.2.2.1
 have x6 := ne_bool 123 (by decide) hc.2.2.2.2.2.2
 clear h hSk hc
 go_enter Tryz.func45, Tryz.ntmps45
 go_wp2_with fail
 refine (skipBlanks_any b t p k _ HR.out hp ht).mono ?_
 rintro e w1 ⟨rfl, g1, r1⟩
 have HG1 : Hid (G b w w1) := g1
 have HR1 : Hid (Rd b t (skipAt t p) k w1) := r1
 clear g1 r1
 go_wp2_with fail
 refine (begin_ok b t (skipAt t p) k d _ HR1.out hsl ht HO.out hk2 (Or.inr HD.out)).mono ?_
 rintro e w2 ⟨rfl, g1, r1⟩
 have HG2 : Hid (G b w w2) := HG1.out.trans g1
 have HR2 : Hid (Rd b t (skipAt t p) (k + 1) w2) := r1
 clear g1 r1
 go_wp2_with fail
 refine (next_g b t (skipAt t p) (k + 1) _ HR2.out hsl ht).mono ?_
 rintro e w3 ⟨rfl, g1, r1⟩
 have HG3 : Hid (G b w w3) := HG2.out.trans g1
 have HR3 : Hid (Rd b t (skipAt t p) (k + 1) w3) := r1
 clear g1 r1
 go_wp2_with fail
 refine (number_any b t (skipAt t p) (k + 1) _ HR3.out hsl ht).mono ?_
 rintro e w4 ⟨g1, h1⟩
 have HG4 : Hid (G b w w4) := HG3.out.trans g1
 clear g1
 rcases h1 with ⟨er, hq, her, her2, rfl⟩ | ⟨l, q, hq, hpq, hqs, rfl, r1⟩
 ·have HQ : Hid (number (rest t (skipAt t p)) = .error er) := hq
  clear hq
  go_wp2_with fail
  go_ret2
  refine ⟨HG4.out, Or.inl ⟨er, _, ?_, her, her2, rfl, Or.inl rfl⟩⟩
  rw [HVl.out, leafAt, HLe.out, <- HSk.out, HQ.out]
 ·have HQ : Hid (number (rest t (skipAt t p)) = .ok (l, rest t q)) := hq
  have HR4 : Hid (Rd b t q (k + 1) w4) := r1
  clear hq r1
  go_wp2_with fail
  go_ret2
  refine ⟨HG4.out, Or.inr ⟨leaf n l, k + 1, q, leafV l, ?_, by omega, hqs, by omega, by omega, rfl, leafV_iface l, HR4.out, st_leaf _ _ _ _⟩⟩
  rw [HVl.out, leafAt, HLe.out, <- HSk.out, HQ.out]
set_option maxRecDepth 100000 in
set_option maxHeartbeats 4000000 in
theorem value_at_list (n b : Nat) (t : ByteArray) (p k : Nat) (d : Int) (w : World) (hV : ValueOK n) (h : Rd b t p k w) (hp : p <= t.size) (ht : t.size <= 2000) (hk2 : k < 200) (hd10 : d + (n + 1 : Nat) = 10) (hd0 : 0 <= d) (hc : hd (skip (rest t p)) = 91) :
  Calls Tryz.prog 45 #[.pointer (some ⟨b, 0, none⟩), .int .i64 d] w (ValPost b t p k (n + 1) w) := by
 have HVl : Hid (value (n + 1) k (rest t p) = _) := value_list (n := n) (begin_0 (n := n + 1) (by rw [hc]; decide) hk2 (Or.inl (by omega))) hc
 have HV : Hid (ValueOK n) := hV
 have HD1 : Hid (d + 1 + (n : Int) = 10) := by show d + 1 + (n : Int) = 10; omega
 have hd9 : d <= 9 := by omega
 clear hV hd10
 have hsl := skipAt_le t p
 have hsg := skipAt_ge t p hp
 have hSk : rest t (skipAt t p) = skip (rest t p) := rest_skip t p hp
 rw [<- hSk] at hc
 have HR : Hid (Rd b t p k w) := h
 have HSk : Hid (rest t (skipAt t p) = skip (rest t p)) := hSk
 have HC : Hid (hd (rest t (skipAt t p)) = 91) := hc
 have HO : Hid (hd (rest t (skipAt t p)) ∈ opens) := by show hd (rest t (skipAt t p)) ∈ opens; rw [hc]; decide
 have hlt : skipAt t p < t.size := lt_of_hd (by rw [hc]; decide)
 clear h hSk hc
 go_enter Tryz.func45, Tryz.ntmps45
 go_wp2_with fail
 refine (skipBlanks_any b t p k _ HR.out hp ht).mono ?_
 rintro e w1 ⟨rfl, g1, r1⟩
 have HG1 : Hid (G b w w1) := g1
 have HR1 : Hid (Rd b t (skipAt t p) k w1) := r1
 clear g1 r1
 go_wp2_with fail
 refine (begin_ok b t (skipAt t p) k d _ HR1.out hsl ht HO.out hk2 (Or.inl (by omega))).mono ?_
 rintro e w2 ⟨rfl, g1, r1⟩
 have HG2 : Hid (G b w w2) := HG1.out.trans g1
 have HR2 : Hid (Rd b t (skipAt t p) (k + 1) w2) := r1
 clear g1 r1
 go_wp2_with fail
 refine (next_g b t (skipAt t p) (k + 1) _ HR2.out hsl ht).mono ?_
 rintro e w3 ⟨rfl, g1, r1⟩
 have HG3 : Hid (G b w w3) := HG2.out.trans g1
 have HR3 : Hid (Rd b t (skipAt t p) (k + 1) w3) := r1
 clear g1 r1
 rw [HC.out]
 have hsz3 : w.heap.size <= w3.heap.size := HG3.out.size
 go_wp2_with fail
 refine (list_any n b t (skipAt t p) (k + 1) (d + 1) _ HV.out HD1.out (by omega) HR3.out hlt ht (by omega)).mono ?_
 rintro e w4 ⟨g1, h1⟩
 have HG4 : Hid (G b w w4) := HG3.out.trans g1
 clear g1
 rcases h1 with ⟨er, v, hq, her, her2, rfl, hone⟩ | ⟨s, k', q, v, hq, hpq, hqs, hk', rfl, hone, r1, st1⟩
 ·have HQ : Hid (row 93 (oneItem (value n)) [] (k + 1) (rest t (skipAt t p)) = .error er) := hq
  clear hq
  go_wp2_with fail
  go_ret2
  refine ⟨HG4.out, Or.inl ⟨er, v, ?_, her, her2, rfl, hone⟩⟩
  rw [HVl.out, <- HSk.out, HQ.out]
 ·have HQ : Hid (row 93 (oneItem (value n)) [] (k + 1) (rest t (skipAt t p)) = .ok (s, k', rest t q)) := hq
  have HR4 : Hid (Rd b t q k' w4) := r1
  have HSt : Hid (St (fun c => c < w3.heap.size) w4 (n + 1) (Sum.inr (Sum.inl s)) v) := st1
  have HOne : Hid (∃ T x, v = .iface T x) := hone
  clear hq r1 st1 hone
  go_wp2_with fail
  go_ret2
  have hval : value (n + 1) k (rest t p) = .ok (Sum.inr (Sum.inl s), k', rest t q) := by rw [HVl.out, <- HSk.out, HQ.out]
  exact ⟨HG4.out, Or.inr ⟨Sum.inr (Sum.inl s), k', q, v, hval, by omega, hqs, value_counts _ _ _ _ _ _ hval, hk', rfl, HOne.out, HR4.out, HSt.out.mono (fun c _ hc => by omega)⟩⟩
set_option maxRecDepth 100000 in
set_option maxHeartbeats 4000000 in
theorem value_at_object (n b : Nat) (t : ByteArray) (p k : Nat) (d : Int) (w : World) (hV : ValueOK n) (h : Rd b t p k w) (hp : p <= t.size) (ht : t.size <= 2000) (hk2 : k < 200) (hd10 : d + (n + 1 : Nat) = 10) (hd0 : 0 <= d) (hc : hd (skip (rest t p)) = 123) :
  Calls Tryz.prog 45 #[.pointer (some ⟨b, 0, none⟩), .int .i64 d] w (ValPost b t p k (n + 1) w) := by
 have HVl : Hid (value (n + 1) k (rest t p) = _) := value_obj (n := n) (begin_0 (n := n + 1) (by rw [hc]; decide) hk2 (Or.inl (by omega))) hc
 have HV : Hid (ValueOK n) := hV
 have HD1 : Hid (d + 1 + (n : Int) = 10) := by show d + 1 + (n : Int) = 10; omega
 have hd9 : d <= 9 := by omega
 clear hV hd10
 have hsl := skipAt_le t p
 have hsg := skipAt_ge t p hp
 have hSk : rest t (skipAt t p) = skip (rest t p) := rest_skip t p hp
 rw [<- hSk] at hc
 have HR : Hid (Rd b t p k w) := h
 have HSk : Hid (rest t (skipAt t p) = skip (rest t p)) := hSk
 have HC : Hid (hd (rest t (skipAt t p)) = 123) := hc
 have HO : Hid (hd (rest t (skipAt t p)) ∈ opens) := by show hd (rest t (skipAt t p)) ∈ opens; rw [hc]; decide
 have hlt : skipAt t p < t.size := lt_of_hd (by rw [hc]; decide)
 clear h hSk hc
 go_enter Tryz.func45, Tryz.ntmps45
 go_wp2_with fail
 refine (skipBlanks_any b t p k _ HR.out hp ht).mono ?_
 rintro e w1 ⟨rfl, g1, r1⟩
 have HG1 : Hid (G b w w1) := g1
 have HR1 : Hid (Rd b t (skipAt t p) k w1) := r1
 clear g1 r1
 go_wp2_with fail
 refine (begin_ok b t (skipAt t p) k d _ HR1.out hsl ht HO.out hk2 (Or.inl (by omega))).mono ?_
 rintro e w2 ⟨rfl, g1, r1⟩
 have HG2 : Hid (G b w w2) := HG1.out.trans g1
 have HR2 : Hid (Rd b t (skipAt t p) (k + 1) w2) := r1
 clear g1 r1
 go_wp2_with fail
 refine (next_g b t (skipAt t p) (k + 1) _ HR2.out hsl ht).mono ?_
 rintro e w3 ⟨rfl, g1, r1⟩
 have HG3 : Hid (G b w w3) := HG2.out.trans g1
 have HR3 : Hid (Rd b t (skipAt t p) (k + 1) w3) := r1
 clear g1 r1
 rw [HC.out]
 have hsz3 : w.heap.size <= w3.heap.size := HG3.out.size
 go_wp2_with fail
 refine (object_any n b t (skipAt t p) (k + 1) (d + 1) _ HV.out HD1.out (by omega) HR3.out hlt ht (by omega)).mono ?_
 rintro e w4 ⟨g1, h1⟩
 have HG4 : Hid (G b w w4) := HG3.out.trans g1
 clear g1
 rcases h1 with ⟨er, v, hq, her, her2, rfl, hone⟩ | ⟨s, k', q, v, hq, hpq, hqs, hk', rfl, hone, r1, st1⟩
 ·have HQ : Hid (row 125 (oneField (value n)) [] (k + 1) (rest t (skipAt t p)) = .error er) := hq
  clear hq
  go_wp2_with fail
  go_ret2
  refine ⟨HG4.out, Or.inl ⟨er, v, ?_, her, her2, rfl, hone⟩⟩
  rw [HVl.out, <- HSk.out, HQ.out]
 ·have HQ : Hid (row 125 (oneField (value n)) [] (k + 1) (rest t (skipAt t p)) = .ok (s, k', rest t q)) := hq
  have HR4 : Hid (Rd b t q k' w4) := r1
  have HSt : Hid (St (fun c => c < w3.heap.size) w4 (n + 1) (Sum.inr (Sum.inr s)) v) := st1
  have HOne : Hid (∃ T x, v = .iface T x) := hone
  clear hq r1 st1 hone
  go_wp2_with fail
  go_ret2
  have hval : value (n + 1) k (rest t p) = .ok (Sum.inr (Sum.inr s), k', rest t q) := by rw [HVl.out, <- HSk.out, HQ.out]
  exact ⟨HG4.out, Or.inr ⟨Sum.inr (Sum.inr s), k', q, v, hval, by omega, hqs, value_counts _ _ _ _ _ _ hval, hk', rfl, HOne.out, HR4.out, HSt.out.mono (fun c _ hc => by omega)⟩⟩
theorem value_ok : ∀ n, ValueOK n
 | 0 => by
  intro b t p k d w h hp ht hk hd10 hd0
  by_cases ho : hd (skip (rest t p)) ∈ opens
  ·by_cases hk2 : k < 200
   ·by_cases h1 : hd (skip (rest t p)) = 91 ∨ hd (skip (rest t p)) = 123
    ·exact value_deep 0 b t p k d w h hp ht hk hd10 hk2 rfl h1
    ·by_cases c1 : hd (skip (rest t p)) = 110
     ·exact value_null 0 b t p k d w h hp ht hk2 hd10 c1
     by_cases c2 : hd (skip (rest t p)) = 116
     ·exact value_true 0 b t p k d w h hp ht hk2 hd10 c2
     by_cases c3 : hd (skip (rest t p)) = 102
     ·exact value_false 0 b t p k d w h hp ht hk2 hd10 c3
     by_cases c4 : hd (skip (rest t p)) = 34
     ·exact value_text 0 b t p k d w h hp ht hk2 hd10 c4
     ·exact value_number 0 b t p k d w h hp ht hk2 hd10 ⟨ho, c1, c2, c3, c4, fun e => h1 (Or.inl e), fun e => h1 (Or.inr e)⟩
   ·exact value_large 0 b t p k d w h hp ht hk hd10 (by omega) ho
  ·exact value_syntax 0 b t p k d w h hp ht hk hd10 ho
 | n + 1 => by
  have hV := value_ok n
  intro b t p k d w h hp ht hk hd10 hd0
  by_cases ho : hd (skip (rest t p)) ∈ opens
  ·by_cases hk2 : k < 200
   ·by_cases c5 : hd (skip (rest t p)) = 91
    ·exact value_at_list n b t p k d w hV h hp ht hk2 hd10 hd0 c5
    by_cases c6 : hd (skip (rest t p)) = 123
    ·exact value_at_object n b t p k d w hV h hp ht hk2 hd10 hd0 c6
    by_cases c1 : hd (skip (rest t p)) = 110
    ·exact value_null (n + 1) b t p k d w h hp ht hk2 hd10 c1
    by_cases c2 : hd (skip (rest t p)) = 116
    ·exact value_true (n + 1) b t p k d w h hp ht hk2 hd10 c2
    by_cases c3 : hd (skip (rest t p)) = 102
    ·exact value_false (n + 1) b t p k d w h hp ht hk2 hd10 c3
    by_cases c4 : hd (skip (rest t p)) = 34
    ·exact value_text (n + 1) b t p k d w h hp ht hk2 hd10 c4
    ·exact value_number (n + 1) b t p k d w h hp ht hk2 hd10 ⟨ho, c1, c2, c3, c4, c5, c6⟩
   ·exact value_large (n + 1) b t p k d w h hp ht hk hd10 (by omega) ho
  ·exact value_syntax (n + 1) b t p k d w h hp ht hk hd10 ho
theorem news_at1 (w : World) (x : Value) (e : TypeId) : ∀ (j : Nat) (u : Value), [x][j]? = some u -> (w.alloc (.cells #[x] e)).cell? ((⟨w.heap.size, 0, none⟩ : Addr).add j) = some u := by
 intro j u hj
 match j, hj with
 | 0, hj => simp at hj; subst hj; simp [Addr.add]
theorem news_at2 (w : World) (x y : Value) (e : TypeId) : ∀ (j : Nat) (u : Value), [x, y][j]? = some u -> (w.alloc (.cells #[x, y] e)).cell? ((⟨w.heap.size, 0, none⟩ : Addr).add j) = some u := by
 intro j u hj
 match j, hj with
 | 0, hj => simp at hj; subst hj; simp [Addr.add]
 | 1, hj => simp at hj; subst hj; simp [Addr.add]
theorem news_one1 (n : Int) : ∀ u ∈ [Value.int .u8 n], u.oneCell' = true := by
 intro u hu
 simp at hu
 subst hu
 rfl
theorem news_one2 (n m : Int) : ∀ u ∈ [Value.int .u8 n, Value.int .u8 m], u.oneCell' = true := by
 intro u hu
 simp at hu
 rcases hu with rfl | rfl <;> rfl
theorem own_snoc1 {B : Nat} {w : World} {v : Value} {l : Bs} {c : UInt8} (h : w.ownsRow B 5 1 v (l.length + 1) (Lib.byteCells l ++ [.int .u8 c.toNat])) : Own B w v (l ++ [c]) := by
 unfold Own
 have e : (l ++ [c]).length = l.length + 1 := by simp
 rw [e, <- cells_snoc]
 exact h
theorem own_snoc2 {B : Nat} {w : World} {v : Value} {l : Bs} {c d : UInt8} (h : w.ownsRow B 5 1 v (l.length + 2) (Lib.byteCells l ++ [.int .u8 c.toNat, .int .u8 d.toNat])) : Own B w v (l ++ [c, d]) := by
 unfold Own
 have e : (l ++ [c, d]).length = l.length + 2 := by simp
 have e2 : Lib.byteCells (l ++ [c, d]) = Lib.byteCells l ++ [.int .u8 c.toNat, .int .u8 d.toNat] := by simp [Lib.byteCells]
 rw [e, e2]
 exact h
def laid (l s : Bs) (k : Nat) : Bs := l ++ 34 :: (s.take k).flatMap quoteB
theorem laid_zero (l s : Bs) : laid l s 0 = l ++ [34] := by simp [laid]
theorem laid_step (l : Bs) (s : ByteArray) (k : Nat) (h : k < s.size) : laid l s.data.toList (k + 1) = laid l s.data.toList k ++ quoteB s[k] := by
 unfold laid
 have h' : k < s.data.toList.length := by simpa using h
 rw [List.take_succ_eq_append_getElem h']
 have e : s.data.toList[k] = s[k] := rfl
 rw [e]
 simp
theorem laid_len (l s : Bs) (k : Nat) : (laid l s k).length <= l.length + (quote s).length - 1 := by
 have h1 : (s.take k).flatMap quoteB ++ (s.drop k).flatMap quoteB = s.flatMap quoteB := by rw [<- List.flatMap_append, List.take_append_drop]
 have h2 := congrArg List.length h1
 simp only [laid, quote, List.length_append, List.length_cons, List.length_nil] at h2 ⊢
 omega
theorem laid_all (l s : Bs) (k : Nat) (h : s.length <= k) : laid l s k ++ [34] = l ++ quote s := by
 unfold laid quote
 rw [List.take_of_length_le h]
 simp
theorem quoteB_10 : quoteB 10 = [92, 110] := by decide
theorem quoteB_9 : quoteB 9 = [92, 116] := by decide
theorem quoteB_esc {c : UInt8} (h : c = 34 ∨ c = 92) : quoteB c = [92, c] := by rcases h with rfl | rfl <;> decide
theorem quoteB_one {c : UInt8} (h1 : c ≠ 10) (h2 : c ≠ 9) (h3 : c ≠ 34) (h4 : c ≠ 92) : quoteB c = [c] := by simp [quoteB, h1, h2, h3, h4]
theorem ne_b {c : UInt8} (n : Nat) (hn : n < 256) (h : c ≠ UInt8.ofNat n) : ((c.toNat : Int) == (n : Int)) = false := by
 rw [beq_eq_false_iff_ne]
 intro e
 apply h
 have : c.toNat = n := by omega
 rw [<- this]
 simp
set_option maxRecDepth 100000 in
set_option maxHeartbeats 4000000 in
theorem writeQuoted_any (B : Nat) (s : ByteArray) (v : Value) (l : Bs) (w : World) (hO : Own B w v l) (hB : B <= w.heap.size) (hlim : l.length + (quote s.data.toList).length <= 1000000000) (hs : s.size <= 100000000) :
  Calls Tryz.prog 77 #[v, .string s] w fun e w' => ∃ v', e = .returned v' /\ Own B w' v' (l ++ quote s.data.toList) /\ Fr B w w' := by
 obtain ⟨i0, hi, hz0, hz1, hz2⟩ := info_parts info_u8
 have hq1 : 2 <= (quote s.data.toList).length := by simp [quote]
 have HO : Hid (Own B w v l) := hO
 have HB : Hid (Fr B w w) := Fr.refl _ _
 clear hO
 go_enter Tryz.func77, Tryz.ntmps77
 go_wp2_with (at_builtin; refine wpList_append_own _ rfl _ _ 95 rfl B 5 i0 (.int .u8 0) 1 1 Tryz.underlying95 hi hz0 hz1 hz2 rfl (by decide) _ _ _ rfl (World.ownsRow.alloc (HO.out) _) ⟨w.heap.size, 0, none⟩ 1 1 [.int .u8 34] rfl rfl ?c1 ?c2 ?c3 ?c4 ?c5 ?_)
 case c1 => exact news_at1 _ _ _
 case c2 => exact news_one1 _
 case c3 => unfold maxLen; omega
 case c4 => omega
 case c5 => have := HB.out.below.size; simp; omega
 intro v' w1 hown' hgrow _
 have HO1 : Hid (Own B w1 v' (l ++ [34])) := own_snoc1 hown'
 have HB1 : Hid (Fr B w w1) := (HB.out.alloc (by have := HB.out.below.size; omega) _).own (World.ownsRow.alloc (HO.out) _) (by have := HB.out.below.size; simp; omega) hgrow
 clear hown' hgrow
 go_wp2_with fail
 go_loopw [0, 5] (fun x i wr => ∃ k : Nat, k <= s.size /\ i = .int .i64 k /\ Own B wr x (laid l s.data.toList k) /\ Fr B w wr) (fun _ i _ => s.size - (intOf i).toNat)
 case atStart => exact ⟨0, Nat.zero_le _, rfl, by rw [laid_zero]; exact HO1.out, HB1.out⟩
 case round =>
  obtain ⟨k, hk, rfl, hown, hbel⟩ := hrel
  have HR : Hid (Own B wr u0 (laid l s.data.toList k)) := hown
  have HRB : Hid (Fr B w wr) := hbel
  have hll := laid_len l s.data.toList k
  clear hown hbel
  by_cases hlt : k < s.size
  ·have HL : Hid (laid l s.data.toList (k + 1) = laid l s.data.toList k ++ quoteB s[k]) := laid_step l s k hlt
   have hll2 := laid_len l s.data.toList (k + 1)
   have HLn : Hid ((laid l s.data.toList (k + 1)).length = (laid l s.data.toList k).length + (quoteB s[k]).length) := by rw [HL.out, List.length_append]; exact rfl
   by_cases h10 : s[k] = 10
   ·have H10 : Hid (s[k] = 10) := h10
    have hb : ((s[k].toNat : Int) == 10) = true := by rw [h10]; rfl
    clear h10
    go_wp2_with (at_builtin; refine wpList_append_own _ rfl _ _ 95 rfl B 5 i0 (.int .u8 0) 1 1 Tryz.underlying95 hi hz0 hz1 hz2 rfl (by decide) _ _ _ rfl (World.ownsRow.alloc (HR.out) _) ⟨wr.heap.size, 0, none⟩ 2 2 [.int .u8 92, .int .u8 110] rfl rfl ?d1 ?d2 ?d3 ?d4 ?d5 ?_)
    case d1 => exact news_at2 _ _ _ _
    case d2 => exact news_one2 _ _
    case d3 => unfold maxLen; omega
    case d4 => omega
    case d5 => have := HRB.out.below.size; simp; omega
    intro v' w2 hown' hgrow _
    have HO2 : Hid (Own B w2 v' (laid l s.data.toList k ++ [92, 110])) := own_snoc2 hown'
    have HB2 : Hid (Fr B w w2) := (HRB.out.alloc (by have := HRB.out.below.size; omega) _).own (World.ownsRow.alloc (HR.out) _) (by have := HRB.out.below.size; simp; omega) hgrow
    clear hown' hgrow
    go_wp2_with fail
    go_roundw
    case rel => exact ⟨k + 1, by omega, by go_num, by rw [HL.out, H10.out, quoteB_10]; exact HO2.out, HB2.out⟩
    case measure => simp [intOf]; omega
   have H10 : Hid (s[k] ≠ 10) := h10
   have hb10 : ((s[k].toNat : Int) == 10) = false := ne_b 10 (by decide) h10
   clear h10
   by_cases h9 : s[k] = 9
   ·have H9 : Hid (s[k] = 9) := h9
    have hb : ((s[k].toNat : Int) == 9) = true := by rw [h9]; rfl
    clear h9
    go_wp2_with (at_builtin; refine wpList_append_own _ rfl _ _ 95 rfl B 5 i0 (.int .u8 0) 1 1 Tryz.underlying95 hi hz0 hz1 hz2 rfl (by decide) _ _ _ rfl (World.ownsRow.alloc (HR.out) _) ⟨wr.heap.size, 0, none⟩ 2 2 [.int .u8 92, .int .u8 116] rfl rfl ?e1 ?e2 ?e3 ?e4 ?e5 ?_)
    case e1 => exact news_at2 _ _ _ _
    case e2 => exact news_one2 _ _
    case e3 => unfold maxLen; omega
    case e4 => omega
    case e5 => have := HRB.out.below.size; simp; omega
    intro v' w2 hown' hgrow _
    have HO2 : Hid (Own B w2 v' (laid l s.data.toList k ++ [92, 116])) := own_snoc2 hown'
    have HB2 : Hid (Fr B w w2) := (HRB.out.alloc (by have := HRB.out.below.size; omega) _).own (World.ownsRow.alloc (HR.out) _) (by have := HRB.out.below.size; simp; omega) hgrow
    clear hown' hgrow
    go_wp2_with fail
    go_roundw
    case rel => exact ⟨k + 1, by omega, by go_num, by rw [HL.out, H9.out, quoteB_9]; exact HO2.out, HB2.out⟩
    case measure => simp [intOf]; omega
   have H9 : Hid (s[k] ≠ 9) := h9
   have hb9 : ((s[k].toNat : Int) == 9) = false := ne_b 9 (by decide) h9
   clear h9
   by_cases h34 : s[k] = 34
   ·have H34 : Hid (s[k] = 34) := h34
    have hb : ((s[k].toNat : Int) == 34) = true := by rw [h34]; rfl
    clear h34
    go_wp2_with (at_builtin; refine wpList_append_own _ rfl _ _ 95 rfl B 5 i0 (.int .u8 0) 1 1 Tryz.underlying95 hi hz0 hz1 hz2 rfl (by decide) _ _ _ rfl (World.ownsRow.alloc (HR.out) _) ⟨wr.heap.size, 0, none⟩ 2 2 [.int .u8 92, .int .u8 (s[k]).toNat] rfl rfl ?f1 ?f2 ?f3 ?f4 ?f5 ?_)
    case f1 => exact news_at2 _ _ _ _
    case f2 => exact news_one2 _ _
    case f3 => unfold maxLen; omega
    case f4 => omega
    case f5 => have := HRB.out.below.size; simp; omega
    intro v' w2 hown' hgrow _
    have HO2 : Hid (Own B w2 v' (laid l s.data.toList k ++ [92, s[k]])) := own_snoc2 hown'
    have HB2 : Hid (Fr B w w2) := (HRB.out.alloc (by have := HRB.out.below.size; omega) _).own (World.ownsRow.alloc (HR.out) _) (by have := HRB.out.below.size; simp; omega) hgrow
    clear hown' hgrow
    go_wp2_with fail
    go_roundw
    case rel => exact ⟨k + 1, by omega, by go_num, by rw [HL.out, quoteB_esc (Or.inl H34.out)]; exact HO2.out, HB2.out⟩
    case measure => simp [intOf]; omega
   have H34 : Hid (s[k] ≠ 34) := h34
   have hb34 : ((s[k].toNat : Int) == 34) = false := ne_b 34 (by decide) h34
   clear h34
   by_cases h92 : s[k] = 92
   ·have H92 : Hid (s[k] = 92) := h92
    have hb : ((s[k].toNat : Int) == 92) = true := by rw [h92]; rfl
    clear h92
    go_wp2_with (at_builtin; refine wpList_append_own _ rfl _ _ 95 rfl B 5 i0 (.int .u8 0) 1 1 Tryz.underlying95 hi hz0 hz1 hz2 rfl (by decide) _ _ _ rfl (World.ownsRow.alloc (HR.out) _) ⟨wr.heap.size, 0, none⟩ 2 2 [.int .u8 92, .int .u8 (s[k]).toNat] rfl rfl ?g1 ?g2 ?g3 ?g4 ?g5 ?_)
    case g1 => exact news_at2 _ _ _ _
    case g2 => exact news_one2 _ _
    case g3 => unfold maxLen; omega
    case g4 => omega
    case g5 => have := HRB.out.below.size; simp; omega
    intro v' w2 hown' hgrow _
    have HO2 : Hid (Own B w2 v' (laid l s.data.toList k ++ [92, s[k]])) := own_snoc2 hown'
    have HB2 : Hid (Fr B w w2) := (HRB.out.alloc (by have := HRB.out.below.size; omega) _).own (World.ownsRow.alloc (HR.out) _) (by have := HRB.out.below.size; simp; omega) hgrow
    clear hown' hgrow
    go_wp2_with fail
    go_roundw
    case rel => exact ⟨k + 1, by omega, by go_num, by rw [HL.out, quoteB_esc (Or.inr H92.out)]; exact HO2.out, HB2.out⟩
    case measure => simp [intOf]; omega
   have H92 : Hid (s[k] ≠ 92) := h92
   have hb92 : ((s[k].toNat : Int) == 92) = false := ne_b 92 (by decide) h92
   clear h92
   go_wp2_with (at_builtin; refine wpList_append_own _ rfl _ _ 95 rfl B 5 i0 (.int .u8 0) 1 1 Tryz.underlying95 hi hz0 hz1 hz2 rfl (by decide) _ _ _ rfl (World.ownsRow.alloc (HR.out) _) ⟨wr.heap.size, 0, none⟩ 1 1 [.int .u8 (s[k]).toNat] rfl rfl ?h1 ?h2 ?h3 ?h4 ?h5 ?_)
   case h1 => exact news_at1 _ _ _
   case h2 => exact news_one1 _
   case h3 => unfold maxLen; omega
   case h4 => omega
   case h5 => have := HRB.out.below.size; simp; omega
   intro v' w2 hown' hgrow _
   have HO2 : Hid (Own B w2 v' (laid l s.data.toList k ++ [s[k]])) := own_snoc1 hown'
   have HB2 : Hid (Fr B w w2) := (HRB.out.alloc (by have := HRB.out.below.size; omega) _).own (World.ownsRow.alloc (HR.out) _) (by have := HRB.out.below.size; simp; omega) hgrow
   clear hown' hgrow
   go_wp2_with fail
   go_roundw
   case rel => exact ⟨k + 1, by omega, by go_num, by rw [HL.out, quoteB_one H10.out H9.out H34.out H92.out]; exact HO2.out, HB2.out⟩
   case measure => simp [intOf]; omega
  ·have HL : Hid (laid l s.data.toList k ++ [34] = l ++ quote s.data.toList) := laid_all l _ k (by simp; omega)
   go_wp2_with (at_builtin; refine wpList_append_own _ rfl _ _ 95 rfl B 5 i0 (.int .u8 0) 1 1 Tryz.underlying95 hi hz0 hz1 hz2 rfl (by decide) _ _ _ rfl (World.ownsRow.alloc (HR.out) _) ⟨wr.heap.size, 0, none⟩ 1 1 [.int .u8 34] rfl rfl ?m1 ?m2 ?m3 ?m4 ?m5 ?_)
   case m1 => exact news_at1 _ _ _
   case m2 => exact news_one1 _
   case m3 => unfold maxLen; omega
   case m4 => omega
   case m5 => have := HRB.out.below.size; simp; omega
   intro v' w2 hown' hgrow _
   have HO2 : Hid (Own B w2 v' (laid l s.data.toList k ++ [34])) := own_snoc1 hown'
   have HB2 : Hid (Fr B w w2) := (HRB.out.alloc (by have := HRB.out.below.size; omega) _).own (World.ownsRow.alloc (HR.out) _) (by have := HRB.out.below.size; simp; omega) hgrow
   clear hown' hgrow
   go_wp2_with fail
   go_ret
   exact ⟨v', rfl, by rw [<- HL.out]; exact HO2.out, HB2.out⟩
theorem ta_hit {P : Program} {T xT : TypeId} {d : TypeDesc} (w : World) (hu : P.underlying T = some d) (hd : (match d with | .interface _ => false | _ => true) = true) (v : Value) :
  (Instr.typeAssert (.iface T v) xT T true).run P w = .ok (.tuple #[v, .bool true]) w := by
 unfold Instr.typeAssert
 simp only [Sem.run_bind, run_underlying hu, Result.andThen]
 cases d <;> simp_all [Sem.run_pure]
theorem ta_miss {P : Program} {T xT t : TypeId} {d : TypeDesc} {z : Value} (w : World) (hu : P.underlying T = some d) (hd : (match d with | .interface _ => false | _ => true) = true) (hz : ∀ w, (zeroValue T).run P w = .ok z w) (h : t ≠ T) (v : Value) :
  (Instr.typeAssert (.iface t v) xT T true).run P w = .ok (.tuple #[z, .bool false]) w := by
 unfold Instr.typeAssert
 simp only [Sem.run_bind, run_underlying hu, Result.andThen]
 cases d <;> simp_all [Sem.run_pure, Sem.run_bind, Result.andThen]
theorem tas_Null :
  (∀ (x : Value) (w : World), (Instr.typeAssert (.iface 66 x) 46 66 true).run Tryz.prog w = .ok (.tuple #[x, .bool true]) w) /\
  (∀ (x : Value) (w : World), (Instr.typeAssert (.iface 66 x) 46 74 true).run Tryz.prog w = .ok (.tuple #[.bool false, .bool false]) w) /\
  (∀ (x : Value) (w : World), (Instr.typeAssert (.iface 66 x) 46 75 true).run Tryz.prog w = .ok (.tuple #[.int .i64 0, .bool false]) w) /\
  (∀ (x : Value) (w : World), (Instr.typeAssert (.iface 66 x) 46 76 true).run Tryz.prog w = .ok (.tuple #[.string { data := #[] }, .bool false]) w) /\
  (∀ (x : Value) (w : World), (Instr.typeAssert (.iface 66 x) 46 78 true).run Tryz.prog w = .ok (.tuple #[.slice none 0 0, .bool false]) w) /\
  (∀ (x : Value) (w : World), (Instr.typeAssert (.iface 66 x) 46 53 true).run Tryz.prog w = .ok (.tuple #[.slice none 0 0, .bool false]) w) :=
 ⟨fun x w => ta_hit w Tryz.underlying66 rfl x,
  fun x w => ta_miss w Tryz.underlying74 rfl Tryz.zeroValue74 (by decide) x,
  fun x w => ta_miss w Tryz.underlying75 rfl Tryz.zeroValue75 (by decide) x,
  fun x w => ta_miss w Tryz.underlying76 rfl Tryz.zeroValue76 (by decide) x,
  fun x w => ta_miss w Tryz.underlying78 rfl Tryz.zeroValue78 (by decide) x,
  fun x w => ta_miss w Tryz.underlying53 rfl Tryz.zeroValue53 (by decide) x⟩
theorem tas_Bool :
  (∀ (x : Value) (w : World), (Instr.typeAssert (.iface 74 x) 46 66 true).run Tryz.prog w = .ok (.tuple #[.agg #[], .bool false]) w) /\
  (∀ (x : Value) (w : World), (Instr.typeAssert (.iface 74 x) 46 74 true).run Tryz.prog w = .ok (.tuple #[x, .bool true]) w) /\
  (∀ (x : Value) (w : World), (Instr.typeAssert (.iface 74 x) 46 75 true).run Tryz.prog w = .ok (.tuple #[.int .i64 0, .bool false]) w) /\
  (∀ (x : Value) (w : World), (Instr.typeAssert (.iface 74 x) 46 76 true).run Tryz.prog w = .ok (.tuple #[.string { data := #[] }, .bool false]) w) /\
  (∀ (x : Value) (w : World), (Instr.typeAssert (.iface 74 x) 46 78 true).run Tryz.prog w = .ok (.tuple #[.slice none 0 0, .bool false]) w) /\
  (∀ (x : Value) (w : World), (Instr.typeAssert (.iface 74 x) 46 53 true).run Tryz.prog w = .ok (.tuple #[.slice none 0 0, .bool false]) w) :=
 ⟨fun x w => ta_miss w Tryz.underlying66 rfl Tryz.zeroValue66 (by decide) x,
  fun x w => ta_hit w Tryz.underlying74 rfl x,
  fun x w => ta_miss w Tryz.underlying75 rfl Tryz.zeroValue75 (by decide) x,
  fun x w => ta_miss w Tryz.underlying76 rfl Tryz.zeroValue76 (by decide) x,
  fun x w => ta_miss w Tryz.underlying78 rfl Tryz.zeroValue78 (by decide) x,
  fun x w => ta_miss w Tryz.underlying53 rfl Tryz.zeroValue53 (by decide) x⟩
theorem tas_Number :
  (∀ (x : Value) (w : World), (Instr.typeAssert (.iface 75 x) 46 66 true).run Tryz.prog w = .ok (.tuple #[.agg #[], .bool false]) w) /\
  (∀ (x : Value) (w : World), (Instr.typeAssert (.iface 75 x) 46 74 true).run Tryz.prog w = .ok (.tuple #[.bool false, .bool false]) w) /\
  (∀ (x : Value) (w : World), (Instr.typeAssert (.iface 75 x) 46 75 true).run Tryz.prog w = .ok (.tuple #[x, .bool true]) w) /\
  (∀ (x : Value) (w : World), (Instr.typeAssert (.iface 75 x) 46 76 true).run Tryz.prog w = .ok (.tuple #[.string { data := #[] }, .bool false]) w) /\
  (∀ (x : Value) (w : World), (Instr.typeAssert (.iface 75 x) 46 78 true).run Tryz.prog w = .ok (.tuple #[.slice none 0 0, .bool false]) w) /\
  (∀ (x : Value) (w : World), (Instr.typeAssert (.iface 75 x) 46 53 true).run Tryz.prog w = .ok (.tuple #[.slice none 0 0, .bool false]) w) :=
 ⟨fun x w => ta_miss w Tryz.underlying66 rfl Tryz.zeroValue66 (by decide) x,
  fun x w => ta_miss w Tryz.underlying74 rfl Tryz.zeroValue74 (by decide) x,
  fun x w => ta_hit w Tryz.underlying75 rfl x,
  fun x w => ta_miss w Tryz.underlying76 rfl Tryz.zeroValue76 (by decide) x,
  fun x w => ta_miss w Tryz.underlying78 rfl Tryz.zeroValue78 (by decide) x,
  fun x w => ta_miss w Tryz.underlying53 rfl Tryz.zeroValue53 (by decide) x⟩
theorem tas_Text :
  (∀ (x : Value) (w : World), (Instr.typeAssert (.iface 76 x) 46 66 true).run Tryz.prog w = .ok (.tuple #[.agg #[], .bool false]) w) /\
  (∀ (x : Value) (w : World), (Instr.typeAssert (.iface 76 x) 46 74 true).run Tryz.prog w = .ok (.tuple #[.bool false, .bool false]) w) /\
  (∀ (x : Value) (w : World), (Instr.typeAssert (.iface 76 x) 46 75 true).run Tryz.prog w = .ok (.tuple #[.int .i64 0, .bool false]) w) /\
  (∀ (x : Value) (w : World), (Instr.typeAssert (.iface 76 x) 46 76 true).run Tryz.prog w = .ok (.tuple #[x, .bool true]) w) /\
  (∀ (x : Value) (w : World), (Instr.typeAssert (.iface 76 x) 46 78 true).run Tryz.prog w = .ok (.tuple #[.slice none 0 0, .bool false]) w) /\
  (∀ (x : Value) (w : World), (Instr.typeAssert (.iface 76 x) 46 53 true).run Tryz.prog w = .ok (.tuple #[.slice none 0 0, .bool false]) w) :=
 ⟨fun x w => ta_miss w Tryz.underlying66 rfl Tryz.zeroValue66 (by decide) x,
  fun x w => ta_miss w Tryz.underlying74 rfl Tryz.zeroValue74 (by decide) x,
  fun x w => ta_miss w Tryz.underlying75 rfl Tryz.zeroValue75 (by decide) x,
  fun x w => ta_hit w Tryz.underlying76 rfl x,
  fun x w => ta_miss w Tryz.underlying78 rfl Tryz.zeroValue78 (by decide) x,
  fun x w => ta_miss w Tryz.underlying53 rfl Tryz.zeroValue53 (by decide) x⟩
theorem tas_List :
  (∀ (x : Value) (w : World), (Instr.typeAssert (.iface 78 x) 46 66 true).run Tryz.prog w = .ok (.tuple #[.agg #[], .bool false]) w) /\
  (∀ (x : Value) (w : World), (Instr.typeAssert (.iface 78 x) 46 74 true).run Tryz.prog w = .ok (.tuple #[.bool false, .bool false]) w) /\
  (∀ (x : Value) (w : World), (Instr.typeAssert (.iface 78 x) 46 75 true).run Tryz.prog w = .ok (.tuple #[.int .i64 0, .bool false]) w) /\
  (∀ (x : Value) (w : World), (Instr.typeAssert (.iface 78 x) 46 76 true).run Tryz.prog w = .ok (.tuple #[.string { data := #[] }, .bool false]) w) /\
  (∀ (x : Value) (w : World), (Instr.typeAssert (.iface 78 x) 46 78 true).run Tryz.prog w = .ok (.tuple #[x, .bool true]) w) /\
  (∀ (x : Value) (w : World), (Instr.typeAssert (.iface 78 x) 46 53 true).run Tryz.prog w = .ok (.tuple #[.slice none 0 0, .bool false]) w) :=
 ⟨fun x w => ta_miss w Tryz.underlying66 rfl Tryz.zeroValue66 (by decide) x,
  fun x w => ta_miss w Tryz.underlying74 rfl Tryz.zeroValue74 (by decide) x,
  fun x w => ta_miss w Tryz.underlying75 rfl Tryz.zeroValue75 (by decide) x,
  fun x w => ta_miss w Tryz.underlying76 rfl Tryz.zeroValue76 (by decide) x,
  fun x w => ta_hit w Tryz.underlying78 rfl x,
  fun x w => ta_miss w Tryz.underlying53 rfl Tryz.zeroValue53 (by decide) x⟩
theorem tas_Object :
  (∀ (x : Value) (w : World), (Instr.typeAssert (.iface 53 x) 46 66 true).run Tryz.prog w = .ok (.tuple #[.agg #[], .bool false]) w) /\
  (∀ (x : Value) (w : World), (Instr.typeAssert (.iface 53 x) 46 74 true).run Tryz.prog w = .ok (.tuple #[.bool false, .bool false]) w) /\
  (∀ (x : Value) (w : World), (Instr.typeAssert (.iface 53 x) 46 75 true).run Tryz.prog w = .ok (.tuple #[.int .i64 0, .bool false]) w) /\
  (∀ (x : Value) (w : World), (Instr.typeAssert (.iface 53 x) 46 76 true).run Tryz.prog w = .ok (.tuple #[.string { data := #[] }, .bool false]) w) /\
  (∀ (x : Value) (w : World), (Instr.typeAssert (.iface 53 x) 46 78 true).run Tryz.prog w = .ok (.tuple #[.slice none 0 0, .bool false]) w) /\
  (∀ (x : Value) (w : World), (Instr.typeAssert (.iface 53 x) 46 53 true).run Tryz.prog w = .ok (.tuple #[x, .bool true]) w) :=
 ⟨fun x w => ta_miss w Tryz.underlying66 rfl Tryz.zeroValue66 (by decide) x,
  fun x w => ta_miss w Tryz.underlying74 rfl Tryz.zeroValue74 (by decide) x,
  fun x w => ta_miss w Tryz.underlying75 rfl Tryz.zeroValue75 (by decide) x,
  fun x w => ta_miss w Tryz.underlying76 rfl Tryz.zeroValue76 (by decide) x,
  fun x w => ta_miss w Tryz.underlying78 rfl Tryz.zeroValue78 (by decide) x,
  fun x w => ta_hit w Tryz.underlying53 rfl x⟩
def Tab (B : Nat) (w : World) : Prop := Lib.TabBelow Tryz.prog B w "internal/strconv.uint64pow10" .u64 Lib.pow10Tab
theorem Tab.below {B : Nat} {w w' : World} (h : Tab B w) (g : Below B w w') : Tab B w' := fun w2 h2 => h w2 (g.trans h2)
theorem Tab.mono {B B' : Nat} {w : World} (h : Tab B w) (hb : B <= B') : Tab B' w := fun w2 h2 => h w2 (h2.mono hb)
theorem St.belowB {B : Nat} {w w' : World} {n : Nat} {j : J n} {x : Value} (h : St (fun c => B <= c) w n j x) (g : Below B w w') : St (fun c => B <= c) w' n j x :=
 h.step g.size (fun c _ hc => g.block c (by omega))
def WriteOK (n : Nat) : Prop := ∀ (B : Nat) (j : J n) (x v : Value) (l : Bs) (w : World), St (fun c => B <= c) w n j x -> Fit n j -> Own B w v l -> B <= w.heap.size -> Tab B w -> l.length + (tell n j).length <= 100000000 ->
 Calls Tryz.prog 55 #[v, x] w fun e w' => ∃ v', e = .returned v' /\ Own B w' v' (l ++ tell n j) /\ Fr B w w'
theorem own_str {B : Nat} {w : World} {v : Value} {l s : Bs} (h : w.ownsRow B 5 1 v (l.length + (⟨s.toArray⟩ : ByteArray).size) (Lib.byteCells l ++ Lib.strCells ⟨s.toArray⟩)) : Own B w v (l ++ s) := by
 unfold Own
 have e : (l ++ s).length = l.length + (⟨s.toArray⟩ : ByteArray).size := by simp [ByteArray.size]
 have e2 : Lib.byteCells (l ++ s) = Lib.byteCells l ++ Lib.strCells ⟨s.toArray⟩ := by simp [Lib.byteCells, Lib.strCells]
 rw [e, e2]
 exact h
theorem quote_ge (s : Bs) : s.length <= (quote s).length := by
 have h : ∀ s : Bs, s.length <= (s.flatMap quoteB).length := by
  intro s
  induction s with
  | nil => simp
  | cons c s ih =>
   have : 1 <= (quoteB c).length := by
    unfold quoteB
    split
    ·simp
    ·split
     ·simp
     ·split <;> simp
   simp only [List.flatMap_cons, List.length_append, List.length_cons]
   omega
 have := h s
 simp only [quote, List.length_cons, List.length_append]
 omega
set_option maxRecDepth 100000 in
set_option maxHeartbeats 2000000 in
theorem write_null (B : Nat) (v : Value) (l : Bs) (w : World) (hO : Own B w v l) (hB : B <= w.heap.size) (hlim : l.length + 4 <= 100000000) :
  Calls Tryz.prog 55 #[v, leafV none] w fun e w' => ∃ v', e = .returned v' /\ Own B w' v' (l ++ nullB) /\ Fr B w w' := by
 obtain ⟨i0, hi, hz0, hz1, hz2⟩ := info_parts info_u8
 obtain ⟨a1, a2, a3, a4, a5, a6⟩ := tas_Null
 have HO : Hid (Own B w v l) := hO
 have HN : Hid ((w.alloc (.cells #[] 66)).ownsRow B 5 1 v l.length (Lib.byteCells l)) := World.ownsRow.alloc hO _
 have HNB : Hid (B <= (w.alloc (.cells #[] 66)).heap.size) := by show B <= (w.alloc _).heap.size; simp; omega
 have HNW : Hid (Fr B w (w.alloc (.cells #[] 66))) := (Fr.refl B w).alloc hB _
 clear hO
 unfold leafV
 go_enter Tryz.func55, Tryz.ntmps55
 go_wp2_with (at_builtin; refine Lib.wpList_append_own_string _ rfl _ _ 95 9 rfl B 5 i0 Tryz.underlying95 Tryz.underlying9 hi hz0 hz1 hz2 _ _ _ rfl HN.out { data := #[110, 117, 108, 108] } rfl (by show l.length + 4 <= _; unfold maxLen; omega) (by show l.length + 4 <= _; omega) HNB.out ?_)
 intro v' w1 hown' hgrow _
 have HO1 : Hid (Own B w1 v' (l ++ nullB)) := own_str (s := nullB) hown'
 have HB1 : Hid (Fr B w w1) := HNW.out.own HN.out HNB.out hgrow
 clear hown' hgrow
 go_wp2_with fail
 go_ret
 exact ⟨v', rfl, HO1.out, HB1.out⟩
set_option maxRecDepth 100000 in
set_option maxHeartbeats 2000000 in
theorem append_true (B : Nat) (v : Value) (l : Bs) (w : World) (hO : Own B w v l) (hB : B <= w.heap.size) (hlim : l.length + 4 <= 100000000) :
  Calls Tryz.prog 75 #[v, .bool true] w fun e w' => ∃ v', e = .returned v' /\ Own B w' v' (l ++ trueB) /\ Fr B w w' := by
 obtain ⟨i0, hi, hz0, hz1, hz2⟩ := info_parts info_u8
 have HO : Hid (Own B w v l) := hO
 have HN : Hid (w.ownsRow B 5 1 v l.length (Lib.byteCells l)) := hO
 have HNB : Hid (B <= w.heap.size) := hB
 have HNW : Hid (Fr B w w) := Fr.refl B w
 clear hO
 go_enter Tryz.func75, Tryz.ntmps75
 go_wp2_with (first | (at_builtin; refine Lib.wpList_append_own_string _ rfl _ _ 95 9 rfl B 5 i0 Tryz.underlying95 Tryz.underlying9 hi hz0 hz1 hz2 _ _ _ rfl HN.out { data := #[116, 114, 117, 101] } rfl (by show l.length + 4 <= _; unfold maxLen; omega) (by show l.length + 4 <= _; omega) HNB.out ?_) | go_in)
 intro v' w1 hown' hgrow _
 have HO1 : Hid (Own B w1 v' (l ++ trueB)) := own_str (s := trueB) hown'
 have HB1 : Hid (Fr B w w1) := HNW.out.own HN.out HNB.out hgrow
 clear hown' hgrow
 go_wp2_with fail
 go_ret
 exact ⟨v', rfl, HO1.out, HB1.out⟩
set_option maxRecDepth 100000 in
set_option maxHeartbeats 2000000 in
theorem write_true (B : Nat) (v : Value) (l : Bs) (w : World) (hO : Own B w v l) (hB : B <= w.heap.size) (hlim : l.length + 4 <= 100000000) :
  Calls Tryz.prog 55 #[v, leafV (some (Sum.inl true))] w fun e w' => ∃ v', e = .returned v' /\ Own B w' v' (l ++ trueB) /\ Fr B w w' := by
 obtain ⟨a1, a2, a3, a4, a5, a6⟩ := tas_Bool
 have HO : Hid (Own B w v l) := hO
 clear hO
 unfold leafV
 go_enter Tryz.func55, Tryz.ntmps55
 go_wp2_with fail
 refine (append_true B v l _ HO.out hB hlim).mono ?_
 rintro e w1 ⟨v', rfl, hO, hb⟩
 have HO1 : Hid (Own B w1 v' (l ++ trueB)) := hO
 have HB1 : Hid (Fr B w w1) := hb
 clear hO hb
 go_wp2_with fail
 go_ret
 exact ⟨v', rfl, HO1.out, HB1.out⟩
set_option maxRecDepth 100000 in
set_option maxHeartbeats 2000000 in
theorem append_false (B : Nat) (v : Value) (l : Bs) (w : World) (hO : Own B w v l) (hB : B <= w.heap.size) (hlim : l.length + 5 <= 100000000) :
  Calls Tryz.prog 75 #[v, .bool false] w fun e w' => ∃ v', e = .returned v' /\ Own B w' v' (l ++ falseB) /\ Fr B w w' := by
 obtain ⟨i0, hi, hz0, hz1, hz2⟩ := info_parts info_u8
 have HO : Hid (Own B w v l) := hO
 have HN : Hid (w.ownsRow B 5 1 v l.length (Lib.byteCells l)) := hO
 have HNB : Hid (B <= w.heap.size) := hB
 have HNW : Hid (Fr B w w) := Fr.refl B w
 clear hO
 go_enter Tryz.func75, Tryz.ntmps75
 go_wp2_with (first | (at_builtin; refine Lib.wpList_append_own_string _ rfl _ _ 95 9 rfl B 5 i0 Tryz.underlying95 Tryz.underlying9 hi hz0 hz1 hz2 _ _ _ rfl HN.out { data := #[102, 97, 108, 115, 101] } rfl (by show l.length + 5 <= _; unfold maxLen; omega) (by show l.length + 5 <= _; omega) HNB.out ?_) | go_in)
 intro v' w1 hown' hgrow _
 have HO1 : Hid (Own B w1 v' (l ++ falseB)) := own_str (s := falseB) hown'
 have HB1 : Hid (Fr B w w1) := HNW.out.own HN.out HNB.out hgrow
 clear hown' hgrow
 go_wp2_with fail
 go_ret
 exact ⟨v', rfl, HO1.out, HB1.out⟩
set_option maxRecDepth 100000 in
set_option maxHeartbeats 2000000 in
theorem write_false (B : Nat) (v : Value) (l : Bs) (w : World) (hO : Own B w v l) (hB : B <= w.heap.size) (hlim : l.length + 5 <= 100000000) :
  Calls Tryz.prog 55 #[v, leafV (some (Sum.inl false))] w fun e w' => ∃ v', e = .returned v' /\ Own B w' v' (l ++ falseB) /\ Fr B w w' := by
 obtain ⟨a1, a2, a3, a4, a5, a6⟩ := tas_Bool
 have HO : Hid (Own B w v l) := hO
 clear hO
 unfold leafV
 go_enter Tryz.func55, Tryz.ntmps55
 go_wp2_with fail
 refine (append_false B v l _ HO.out hB hlim).mono ?_
 rintro e w1 ⟨v', rfl, hO, hb⟩
 have HO1 : Hid (Own B w1 v' (l ++ falseB)) := hO
 have HB1 : Hid (Fr B w w1) := hb
 clear hO hb
 go_wp2_with fail
 go_ret
 exact ⟨v', rfl, HO1.out, HB1.out⟩
set_option maxRecDepth 100000 in
set_option maxHeartbeats 2000000 in
theorem write_number (B : Nat) (i : Int) (v : Value) (l : Bs) (w : World) (hO : Own B w v l) (hB : B <= w.heap.size) (hT : Tab B w) (h1 : -1000000000000000000 < i) (h2 : i < 1000000000000000000) (hlim : l.length <= 100000000) :
  Calls Tryz.prog 55 #[v, leafV (some (Sum.inr (Sum.inl i)))] w fun e w' => ∃ v', e = .returned v' /\ Own B w' v' (l ++ Lib.itoa i) /\ Fr B w w' := by
 obtain ⟨a1, a2, a3, a4, a5, a6⟩ := tas_Number
 have HO : Hid (Own B w v l) := hO
 have HT : Hid (Tab B w) := hT
 clear hO hT
 unfold leafV
 go_enter Tryz.func55, Tryz.ntmps55
 go_wp2_with fail
 refine (Tryz.strconv_AppendInt_10 B l.length i (by omega) (by omega) v (Lib.byteCells l) _ HO.out hB (by omega) HT.out).mono ?_
 rintro e w1 ⟨v', rfl, hO, hb0, hb1⟩
 have hb : Fr B w w1 := ⟨hb0, hb1⟩
 have HO1 : Hid (Own B w1 v' (l ++ Lib.itoa i)) := by
  have e1 : (l ++ Lib.itoa i).length = l.length + (Lib.itoa i).length := by simp
  have e2 : Lib.byteCells (l ++ Lib.itoa i) = Lib.byteCells l ++ Lib.byteCells (Lib.itoa i) := by simp [Lib.byteCells]
  show Own B w1 v' (l ++ Lib.itoa i)
  unfold Own
  rw [e1, e2]
  exact hO
 have HB1 : Hid (Fr B w w1) := hb
 clear hO hb
 go_wp2_with fail
 go_ret
 exact ⟨v', rfl, HO1.out, HB1.out⟩
set_option maxRecDepth 100000 in
set_option maxHeartbeats 2000000 in
theorem write_str (B : Nat) (s : Bs) (v : Value) (l : Bs) (w : World) (hO : Own B w v l) (hB : B <= w.heap.size) (hlim : l.length + (quote s).length <= 100000000) :
  Calls Tryz.prog 55 #[v, leafV (some (Sum.inr (Sum.inr s)))] w fun e w' => ∃ v', e = .returned v' /\ Own B w' v' (l ++ quote s) /\ Fr B w w' := by
 obtain ⟨a1, a2, a3, a4, a5, a6⟩ := tas_Text
 have HO : Hid (Own B w v l) := hO
 have hq := writeQuoted_any B ⟨s.toArray⟩ v l w hO hB (by show l.length + (quote s).length <= 1000000000; omega) (by have := quote_ge s; simp [ByteArray.size]; omega)
 have HQ : Hid (Calls Tryz.prog 77 #[v, .string ⟨s.toArray⟩] w fun e w' => ∃ v', e = .returned v' /\ Own B w' v' (l ++ quote s) /\ Fr B w w') := hq
 clear hO hq
 unfold leafV
 go_enter Tryz.func55, Tryz.ntmps55
 go_wp2_with fail
 refine Calls.mono HQ.out ?_
 rintro e w1 ⟨v', rfl, hO, hb⟩
 have HO1 : Hid (Own B w1 v' (l ++ quote s)) := hO
 have HB1 : Hid (Fr B w w1) := hb
 clear hO hb
 go_wp2_with fail
 go_ret
 exact ⟨v', rfl, HO1.out, HB1.out⟩
theorem write_leaf (B : Nat) (a : Leaf) (v : Value) (l : Bs) (w : World) (hG : FitLeaf a) (hO : Own B w v l) (hB : B <= w.heap.size) (hT : Tab B w) (hlim : l.length + (tellLeaf a).length <= 100000000) :
  Calls Tryz.prog 55 #[v, leafV a] w fun e w' => ∃ v', e = .returned v' /\ Own B w' v' (l ++ tellLeaf a) /\ Fr B w w' := by
 match a, hG, hlim with
 | none, _, hlim => exact write_null B v l w hO hB hlim
 | some (Sum.inl true), _, hlim => exact write_true B v l w hO hB hlim
 | some (Sum.inl false), _, hlim => exact write_false B v l w hO hB hlim
 | some (Sum.inr (Sum.inl i)), hG, hlim => exact write_number B i v l w hO hB hT hG.1 hG.2 (by omega)
 | some (Sum.inr (Sum.inr s)), _, hlim => exact write_str B s v l w hO hB hlim
end Go.Proofs.YtjcdklbimaclkaaGreatDoor
