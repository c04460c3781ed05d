/- Contract of the reader's method over this translation that reads a number. -/
import Derived.Test.YtaogilpkeeigoaaGreatDoorRdWord
import Derived.Test.YtaogilpkeeigoaaGreatDoorDocNum
import Derived.Test.YtaogilpkeeigoaaGreatDoorRepr
import Derived.Test.YtaogilpkeeigoaaGreatDoorShelf
import Derived.Deep.RegionWith
namespace Go.Proofs.YtaogilpkeeigoaaGreatDoor
open Go.RowKit
set_option linter.unusedVariables false
set_option linter.unusedSimpArgs false
theorem digits_list (t : ByteArray) (p : Nat) (hp : p ≤ t.size) : (t.extract p (digitsAt t p)).data.toList = (rest t p).takeWhile isDigit := by
  have h1 : (t.extract p (digitsAt t p)).data.toList = (rest t p).take (digitsAt t p - p) := by
    unfold rest
    simp
  rw [h1]
  have h2 : digitsAt t p - p = ((rest t p).takeWhile isDigit).length := by unfold digitsAt; omega
  rw [h2]
  exact (List.prefix_iff_eq_take.1 (List.takeWhile_prefix isDigit)).symm
theorem digits_rest (t : ByteArray) (p : Nat) : (rest t p).dropWhile isDigit = rest t (digitsAt t p) := by
  have h := List.takeWhile_append_dropWhile (p := isDigit) (l := rest t p)
  have h2 : rest t (digitsAt t p) = (rest t p).drop ((rest t p).takeWhile isDigit).length := by
    unfold digitsAt rest
    rw [List.drop_drop]
  rw [h2]
  have h3 : (rest t p).drop ((rest t p).takeWhile isDigit).length = ((rest t p).takeWhile isDigit ++ (rest t p).dropWhile isDigit).drop ((rest t p).takeWhile isDigit).length := by rw [h]
  rw [h3, List.drop_left]
theorem takeWhile_digits (r : Bs) : ∀ c ∈ r.takeWhile isDigit, isDigit c = true := fun c hc => by
  have := List.all_takeWhile (p := isDigit) (l := r)
  rw [List.all_eq_true] at this
  exact this c hc
/-- the place behind a sign -/
def signAt (t : ByteArray) (p : Nat) : Nat := if hd (rest t p) = 45 then p + 1 else p
theorem sign_rest (t : ByteArray) (p : Nat) : (if (hd (rest t p) == 45) = true then (rest t p).tail else rest t p) = rest t (signAt t p) := by
  unfold signAt
  by_cases h : hd (rest t p) = 45
  · rw [if_pos h, if_pos (by simp [h]), rest_tail]
  · rw [if_neg h, if_neg (by simp [h])]
theorem number_eq (t : ByteArray) (p : Nat) : number (rest t p) =
    (if (rest t (signAt t p)).takeWhile isDigit = [] then .error eSyntax
    else if hd ((rest t (signAt t p)).takeWhile isDigit) = 48 ∧ ((hd (rest t p) == 45) = true ∨ 1 < ((rest t (signAt t p)).takeWhile isDigit).length) then .error eSyntax
    else if 18 < ((rest t (signAt t p)).takeWhile isDigit).length then .error eLarge
    else .ok (some (Sum.inr (Sum.inl (numVal (hd (rest t p) == 45) ((rest t (signAt t p)).takeWhile isDigit)))), rest t (digitsAt t (signAt t p)))) := by
  unfold number
  simp only []
  rw [sign_rest, digits_rest]
theorem hd_data {D : ByteArray} {ds : Bs} (h : D.data.toList = ds) (h0 : 0 < D.size) : hd ds = D[0] := by
  have h' : 0 < D.data.toList.length := by simpa using h0
  have e : D.data.toList = D[0] :: D.data.toList.tail := by
    cases hD : D.data.toList with
    | nil => rw [hD] at h'; simp at h'
    | cons c r =>
      have : D.data.toList[0] = D[0] := rfl
      simp only [hD] at this
      rw [← this]
      rfl
  rw [← h, e]
  rfl
/-- the text of a number, sign and digits -/
theorem number_text (t : ByteArray) (p : Nat) (hp : p ≤ t.size) : (t.extract p (digitsAt t (signAt t p))).data.toList = (if hd (rest t p) == 45 then [45] else []) ++ (rest t (signAt t p)).takeWhile isDigit := by
  have h1 : ∀ q, (t.extract p q).data.toList = (rest t p).take (q - p) := by
    intro q
    unfold rest
    simp
  rw [h1]
  by_cases h : hd (rest t p) = 45
  · have hlt : p < t.size := lt_of_hd (by rw [h]; decide)
    have e : signAt t p = p + 1 := by unfold signAt; rw [if_pos h]
    rw [e, if_pos (by simp [h])]
    have h2 : digitsAt t (p + 1) - p = ((rest t (p + 1)).takeWhile isDigit).length + 1 := by unfold digitsAt; omega
    rw [h2, rest_cons hlt, List.take_succ_cons]
    rw [hd_lt hlt] at h
    rw [h, ← List.prefix_iff_eq_take.1 (List.takeWhile_prefix isDigit)]
    rfl
  · have e : signAt t p = p := by unfold signAt; rw [if_neg h]
    rw [e, if_neg (by simp [h])]
    have h2 : digitsAt t p - p = ((rest t p).takeWhile isDigit).length := by unfold digitsAt; omega
    rw [h2, ← List.prefix_iff_eq_take.1 (List.takeWhile_prefix isDigit)]
    rfl
def NumPost (b : Nat) (t : ByteArray) (p k : Nat) (w : World) (e : Ending) (w' : World) : Prop :=
  G b w w' ∧ ((∃ er : Nat, number (rest t p) = .error er ∧ er ≠ 0 ∧ er < 100 ∧ e = .returned (.tuple #[.nilIface, .int .i64 er])) ∨
    ∃ l q, number (rest t p) = .ok (l, rest t q) ∧ p < q ∧ q ≤ t.size ∧ e = .returned (.tuple #[leafV l, .int .i64 0]) ∧ Rd b t q k w')
theorem bytesWorld_grown (w : World) (e : TypeId) (x : ByteArray) (row : Option Nat) : w.grownBy (Lib.bytesWorld w e x) row := by
  refine ⟨?_, ?_, ?_, by rw [Lib.bytesWorld_size]; omega, fun k hk _ => Lib.bytesWorld_at_old w e x k hk⟩
  all_goals
    unfold Lib.bytesWorld World.freeze
    split <;> rfl
theorem num_world {b : Nat} {t : ByteArray} {q k : Nat} {w w2 w3 : World} {e : TypeId} (hG : G b w w2) (hR : Rd b t q k w2) (h : w3 = w2.drew ∨ ∃ x, w3 = Lib.bytesWorld w2.drew e x) : G b w w3 ∧ Rd b t q k w3 := by
  rcases h with rfl | ⟨x, rfl⟩
  · exact ⟨hG.drew, hR.drew⟩
  · exact ⟨hG.drew.trans (bytesWorld_grown _ _ _ _), (hR.drew).kept (bytesWorld_grown _ _ _ none) (fun e => by cases e)⟩
set_option maxRecDepth 100000 in
set_option maxHeartbeats 4000000 in
theorem number_below (b : Nat) (t : ByteArray) (p k : Nat) (w : World) (h : Rd b t p k w) (hp : p ≤ t.size) (ht : t.size ≤ 2000) (hc : hd (rest t p) = 45) :
    Calls Tryz.prog 64 #[.pointer (some ⟨b, 0, none⟩)] w (NumPost b t p k w) := by
  have hcb : (hd (rest t p) == 45) = true := by rw [hc]; rfl
  have hs : signAt t p = p + 1 := by unfold signAt; rw [if_pos hc]
  have hlt : p < t.size := lt_of_hd (by rw [hc]; decide)
  have hsp : signAt t p ≤ t.size := by rw [hs]; omega
  have hpl := h.place
  have hle := digitsAt_le hsp
  have hge : signAt t p ≤ digitsAt t (signAt t p) := by unfold digitsAt; omega
  have hDl := digits_list t (signAt t p) hsp
  have hDs : (t.extract (signAt t p) (digitsAt t (signAt t p))).size = ((rest t (signAt t p)).takeWhile isDigit).length := by
    rw [← hDl, Array.length_toList]; rfl
  have hTx := number_text t p hp
  have hdig := takeWhile_digits (rest t (signAt t p))
  have HN : Hid (number (rest t p) = _) := number_eq t p
  rw [hcb] at HN hTx
  have hdA : digitsAt t (signAt t p) = signAt t p + ((rest t (signAt t p)).takeWhile isDigit).length := rfl
  have HR : Hid (Rd b t p k w) := h
  have HC : Hid (hd (rest t p) = 45) := hc
  have HS : Hid (signAt t p = p + 1) := hs
  have hsge : p ≤ signAt t p := by rw [hs]; omega
  generalize hds : (rest t (signAt t p)).takeWhile isDigit = ds at *
  generalize hQ : digitsAt t (signAt t p) = q at *
  have HQ : Hid (digitsAt t (signAt t p) = q) := hQ
  have HDL : Hid ((t.extract (signAt t p) q).data.toList = ds) := hDl
  have HDS : Hid ((t.extract (signAt t p) q).size = ds.length) := hDs
  have HTX : Hid ((t.extract p q).data.toList = (if true = true then [45] else []) ++ ds) := hTx
  have HDG : Hid (∀ c ∈ ds, isDigit c = true) := hdig
  have HDA : Hid (q = signAt t p + ds.length) := hdA
  clear h hc hcb hs hds hQ hDl hDs hTx hdig hdA
  go_enter Tryz.func64, Tryz.ntmps64
  go_wp2_with fail
  refine (take_yes b t p k 45 _ HR.out ht hlt HC.out).mono ?_
  rintro e w1 ⟨rfl, g1, r1⟩
  have HG1 : Hid (G b w w1) := g1
  have HR1 : Hid (Rd b t (signAt t p) k w1) := by rw [HS.out]; exact r1
  clear g1 r1 hpl
  go_wp2_with fail
  refine (digits_any b t (signAt t p) k _ HR1.out hsp ht).mono ?_
  rintro e w2 ⟨rfl, g1, r1⟩
  rw [HQ.out] at r1 ⊢
  have HG2 : Hid (G b w w2) := HG1.out.trans g1
  have HR2 : Hid (Rd b t q k w2) := r1
  have c0 := r1.text
  have c1 := r1.place
  clear g1 r1
  generalize hD : t.extract (signAt t p) q = D at *
  have HD : Hid (t.extract (signAt t p) q = D) := hD
  clear hD
  by_cases hnil : ds = []
  · have hb : (D.toList == []) = true := by rw [ByteArray.toList_eq, HDL.out, hnil]; rfl
    go_wp2_with fail
    go_ret2
    exact ⟨HG2.out, Or.inl ⟨3, by rw [HN.out, if_pos hnil], by decide, by decide, rfl⟩⟩
  have hb : (D.toList == []) = false := by rw [ByteArray.toList_eq, HDL.out]; simpa using hnil
  have HNil : Hid (ds ≠ []) := hnil
  have h0 : 0 < D.size := by have := HDS.out; have := List.length_pos_iff.2 hnil; omega
  have HH : Hid (hd ds = D[0]) := hd_data HDL.out h0
  have h0' : (0 : Int) < (D.size : Int) := by omega
  clear hnil
  by_cases hz : D[0] = 48
  · have hzb : ((D[0].toNat : Int) == 48) = true := by rw [hz]; rfl
    have HZ : Hid (D[0] = 48) := hz
    clear hz
    go_wp2_with fail
    go_ret2
    exact ⟨HG2.out, Or.inl ⟨3, by rw [HN.out, if_neg HNil.out, if_pos ⟨by rw [HH.out, HZ.out], Or.inl trivial⟩], by decide, by decide, rfl⟩⟩
  have hzb : ((D[0].toNat : Int) == 48) = false := ne_bool 48 (by decide) hz
  have HZ : Hid (¬ (hd ds = 48 ∧ (true = true ∨ 1 < ds.length))) := fun e => hz (by rw [← HH.out]; exact e.1)
  clear hz
  by_cases h18 : (18 : Int) < (D.size : Int)
  · go_wp2_with fail
    go_ret2
    exact ⟨HG2.out, Or.inl ⟨2, by rw [HN.out, if_neg HNil.out, if_neg (by have := HH.out; have := HZ.out; exact HZ.out), if_pos (by have := HDS.out; omega)], by decide, by decide, rfl⟩⟩
  have HP : Hid (Lib.parseIntB 64 (t.extract p q).data.toList = .ok (numVal true ds)) := by
    show Lib.parseIntB 64 (t.extract p q).data.toList = _
    rw [HTX.out]
    exact parse_ok true ds HDG.out HNil.out (by have := HDS.out; omega)
  have hxs : (t.extract p q).size ≤ 9223372036854775806 := by simp; omega
  have HX : Hid ((t.extract p q).size ≤ 9223372036854775806) := hxs
  have hI1 : (p : Int) ≤ (q : Int) := by omega
  have hI2 : (q : Int) ≤ (t.size : Int) := by omega
  clear hxs
  go_wp2_with fail
  go_region_with (first | (go_at_call 85; refine (Tryz.strconv_ParseInt_10_at64_ok _ (by exact HX.out) _ (by exact HP.out) _).mono ?_; rintro e w3 ⟨rfl, hw3⟩))
  all_goals
    obtain ⟨g3, r3⟩ := num_world HG2.out HR2.out hw3
    have HG3 : Hid (G b w w3) := g3
    have HR3 : Hid (Rd b t q k w3) := r3
    clear hw3 g3 r3
    go_wp2_with fail
    go_ret2
    refine ⟨HG3.out, Or.inr ⟨some (Sum.inr (Sum.inl (numVal true ds))), q, ?_, ?_, hle, rfl, HR3.out⟩⟩
    · rw [HN.out, if_neg HNil.out, if_neg HZ.out, if_neg (by have := HDS.out; omega)]
    · have h1 := HDA.out
      have h2 := List.length_pos_iff.2 HNil.out
      omega

set_option maxRecDepth 100000 in
set_option maxHeartbeats 4000000 in
theorem number_plain (b : Nat) (t : ByteArray) (p k : Nat) (w : World) (h : Rd b t p k w) (hp : p ≤ t.size) (ht : t.size ≤ 2000) (hc : hd (rest t p) ≠ 45) :
    Calls Tryz.prog 64 #[.pointer (some ⟨b, 0, none⟩)] w (NumPost b t p k w) := by
  have hcb : (hd (rest t p) == 45) = false := beq_eq_false_iff_ne.2 hc
  have hs : signAt t p = p := by unfold signAt; rw [if_neg hc]
  have hsp : signAt t p ≤ t.size := by rw [hs]; omega
  have hpl := h.place
  have hle := digitsAt_le hsp
  have hge : signAt t p ≤ digitsAt t (signAt t p) := by unfold digitsAt; omega
  have hDl := digits_list t (signAt t p) hsp
  have hDs : (t.extract (signAt t p) (digitsAt t (signAt t p))).size = ((rest t (signAt t p)).takeWhile isDigit).length := by
    rw [← hDl, Array.length_toList]; rfl
  have hTx := number_text t p hp
  have hdig := takeWhile_digits (rest t (signAt t p))
  have HN : Hid (number (rest t p) = _) := number_eq t p
  rw [hcb] at HN hTx
  have hdA : digitsAt t (signAt t p) = signAt t p + ((rest t (signAt t p)).takeWhile isDigit).length := rfl
  have HR : Hid (Rd b t p k w) := h
  have HC : Hid (hd (rest t p) ≠ 45) := hc
  have HS : Hid (signAt t p = p) := hs
  have hsge : p ≤ signAt t p := by rw [hs]; omega
  generalize hds : (rest t (signAt t p)).takeWhile isDigit = ds at *
  generalize hQ : digitsAt t (signAt t p) = q at *
  have HQ : Hid (digitsAt t (signAt t p) = q) := hQ
  have HDL : Hid ((t.extract (signAt t p) q).data.toList = ds) := hDl
  have HDS : Hid ((t.extract (signAt t p) q).size = ds.length) := hDs
  have HTX : Hid ((t.extract p q).data.toList = (if false = true then [45] else []) ++ ds) := hTx
  have HDG : Hid (∀ c ∈ ds, isDigit c = true) := hdig
  have HDA : Hid (q = signAt t p + ds.length) := hdA
  clear h hc hcb hs hds hQ hDl hDs hTx hdig hdA
  go_enter Tryz.func64, Tryz.ntmps64
  go_wp2_with fail
  refine (take_no b t p k 45 _ HR.out hp ht HC.out).mono ?_
  rintro e w1 ⟨rfl, g1, r1⟩
  have HG1 : Hid (G b w w1) := g1
  have HR1 : Hid (Rd b t (signAt t p) k w1) := by rw [HS.out]; exact r1
  clear g1 r1 hpl
  go_wp2_with fail
  refine (digits_any b t (signAt t p) k _ HR1.out hsp ht).mono ?_
  rintro e w2 ⟨rfl, g1, r1⟩
  rw [HQ.out] at r1 ⊢
  have HG2 : Hid (G b w w2) := HG1.out.trans g1
  have HR2 : Hid (Rd b t q k w2) := r1
  have c0 := r1.text
  have c1 := r1.place
  clear g1 r1
  generalize hD : t.extract (signAt t p) q = D at *
  have HD : Hid (t.extract (signAt t p) q = D) := hD
  clear hD
  by_cases hnil : ds = []
  · have hb : (D.toList == []) = true := by rw [ByteArray.toList_eq, HDL.out, hnil]; rfl
    go_wp2_with fail
    go_ret2
    exact ⟨HG2.out, Or.inl ⟨3, by rw [HN.out, if_pos hnil], by decide, by decide, rfl⟩⟩
  have hb : (D.toList == []) = false := by rw [ByteArray.toList_eq, HDL.out]; simpa using hnil
  have HNil : Hid (ds ≠ []) := hnil
  have h0 : 0 < D.size := by have := HDS.out; have := List.length_pos_iff.2 hnil; omega
  have HH : Hid (hd ds = D[0]) := hd_data HDL.out h0
  have h0' : (0 : Int) < (D.size : Int) := by omega
  clear hnil
  by_cases hz : D[0] = 48
  · have hzb : ((D[0].toNat : Int) == 48) = true := by rw [hz]; rfl
    have HZ0 : Hid (D[0] = 48) := hz
    clear hz
    by_cases h1 : (1 : Int) < (D.size : Int)
    · go_wp2_with fail
      go_ret2
      exact ⟨HG2.out, Or.inl ⟨3, by rw [HN.out, if_neg HNil.out, if_pos ⟨by rw [HH.out, HZ0.out], Or.inr (by have := HDS.out; omega)⟩], by decide, by decide, rfl⟩⟩
    have HZ : Hid (¬ (hd ds = 48 ∧ (false = true ∨ 1 < ds.length))) := by
      show ¬ (hd ds = 48 ∧ (false = true ∨ 1 < ds.length))
      intro e
      rcases e.2 with h | h
      · cases h
      · have := HDS.out
        omega
    have h18 : ¬ (18 : Int) < (D.size : Int) := by omega
    have HP : Hid (Lib.parseIntB 64 (t.extract p q).data.toList = .ok (numVal false ds)) := by
      show Lib.parseIntB 64 (t.extract p q).data.toList = _
      rw [HTX.out]
      exact parse_ok false ds HDG.out HNil.out (by have := HDS.out; omega)
    have hxs : (t.extract p q).size ≤ 9223372036854775806 := by simp; omega
    have HX : Hid ((t.extract p q).size ≤ 9223372036854775806) := hxs
    have hI1 : (p : Int) ≤ (q : Int) := by omega
    have hI2 : (q : Int) ≤ (t.size : Int) := by omega
    clear hxs
    go_wp2_with fail
    go_region_with (first | (go_at_call 85; refine (Tryz.strconv_ParseInt_10_at64_ok _ (by exact HX.out) _ (by exact HP.out) _).mono ?_; rintro e w3 ⟨rfl, hw3⟩))
    all_goals
      obtain ⟨g3, r3⟩ := num_world HG2.out HR2.out hw3
      have HG3 : Hid (G b w w3) := g3
      have HR3 : Hid (Rd b t q k w3) := r3
      clear hw3 g3 r3
      go_wp2_with fail
      go_ret2
      refine ⟨HG3.out, Or.inr ⟨some (Sum.inr (Sum.inl (numVal false ds))), q, ?_, ?_, hle, rfl, HR3.out⟩⟩
      · rw [HN.out, if_neg HNil.out, if_neg HZ.out, if_neg (by have := HDS.out; omega)]
      · have h1 := HDA.out
        have h2 := List.length_pos_iff.2 HNil.out
        omega
  have hzb : ((D[0].toNat : Int) == 48) = false := ne_bool 48 (by decide) hz
  have HZ : Hid (¬ (hd ds = 48 ∧ (false = true ∨ 1 < ds.length))) := fun e => hz (by rw [← HH.out]; exact e.1)
  clear hz
  by_cases h18 : (18 : Int) < (D.size : Int)
  · go_wp2_with fail
    go_ret2
    exact ⟨HG2.out, Or.inl ⟨2, by rw [HN.out, if_neg HNil.out, if_neg (by have := HH.out; have := HZ.out; exact HZ.out), if_pos (by have := HDS.out; omega)], by decide, by decide, rfl⟩⟩
  have HP : Hid (Lib.parseIntB 64 (t.extract p q).data.toList = .ok (numVal false ds)) := by
    show Lib.parseIntB 64 (t.extract p q).data.toList = _
    rw [HTX.out]
    exact parse_ok false ds HDG.out HNil.out (by have := HDS.out; omega)
  have hxs : (t.extract p q).size ≤ 9223372036854775806 := by simp; omega
  have HX : Hid ((t.extract p q).size ≤ 9223372036854775806) := hxs
  have hI1 : (p : Int) ≤ (q : Int) := by omega
  have hI2 : (q : Int) ≤ (t.size : Int) := by omega
  clear hxs
  go_wp2_with fail
  go_region_with (first | (go_at_call 85; refine (Tryz.strconv_ParseInt_10_at64_ok _ (by exact HX.out) _ (by exact HP.out) _).mono ?_; rintro e w3 ⟨rfl, hw3⟩))
  all_goals
    obtain ⟨g3, r3⟩ := num_world HG2.out HR2.out hw3
    have HG3 : Hid (G b w w3) := g3
    have HR3 : Hid (Rd b t q k w3) := r3
    clear hw3 g3 r3
    go_wp2_with fail
    go_ret2
    refine ⟨HG3.out, Or.inr ⟨some (Sum.inr (Sum.inl (numVal false ds))), q, ?_, ?_, hle, rfl, HR3.out⟩⟩
    · rw [HN.out, if_neg HNil.out, if_neg HZ.out, if_neg (by have := HDS.out; omega)]
    · have h1 := HDA.out
      have h2 := List.length_pos_iff.2 HNil.out
      omega

theorem number_any (b : Nat) (t : ByteArray) (p k : Nat) (w : World) (h : Rd b t p k w) (hp : p ≤ t.size) (ht : t.size ≤ 2000) :
    Calls Tryz.prog 64 #[.pointer (some ⟨b, 0, none⟩)] w (NumPost b t p k w) := by
  by_cases hc : hd (rest t p) = 45
  · exact number_below b t p k w h hp ht hc
  · exact number_plain b t p k w h hp ht hc
end Go.Proofs.YtaogilpkeeigoaaGreatDoor
