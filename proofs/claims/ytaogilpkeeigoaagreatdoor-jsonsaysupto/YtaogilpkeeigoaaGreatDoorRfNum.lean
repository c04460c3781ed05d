/- Contracts over this translation of the reference's reader: numbers. -/
import Derived.Test.YtaogilpkeeigoaaGreatDoorRfText
import Derived.Test.YtaogilpkeeigoaaGreatDoorDocNum
namespace Go.Proofs.YtaogilpkeeigoaaGreatDoor
open Go.RowKit
set_option linter.unusedVariables false
set_option linter.unusedSimpArgs false
theorem box_kept {w : World} {g b : Nat} {x : Obj} (h : w.heap[g]? = some x) (hne : b ≠ g) : ∀ (o : Nat) (v : Value), (w.setCell ⟨b, o, none⟩ v).heap[g]? = some x := by
  intro o v
  exact ((grownBy_setCell w b o v).block g (lt_of_block h) (fun e => hne (Option.some.inj e).symm)).trans h
theorem ext_one {t : ByteArray} {q : Nat} (h : q < t.size) : t.extract q (q + 1) = ⟨#[t[q]]⟩ := by
  apply ByteArray.ext
  apply Array.toList_inj.1
  rw [Lib.extract_data, Nat.add_sub_cancel_left]
  have h' : q < t.data.toList.length := by simpa using h
  rw [List.drop_eq_getElem_cons h']
  simp
  rfl
/-- what is known of a number that was read -/
def RNumPost (b : Nat) (t : ByteArray) (p k : Nat) (w : World) (e : Ending) (w' : World) : Prop :=
  G b w w' ∧ ((∃ er : Nat, number (rest t p) = .error er ∧ er ≠ 0 ∧ e = .returned (.tuple #[rfLeaf 0 false 0 ⟨#[]⟩, .int .i64 er])) ∨ ∃ (n : Int) (q : Nat), q ≤ t.size ∧ number (rest t p) = .ok (some (Sum.inr (Sum.inl n)), rest t q) ∧ e = .returned (.tuple #[rfLeaf 3 false n ⟨#[]⟩, .int .i64 0]) ∧ Rf b t q k w')
def numE (below : Bool) (ds r : Bs) : Except Nat (Leaf × Bs) :=
  if ds = [] then .error 3
  else if hd ds = 48 ∧ (below = true ∨ 1 < ds.length) then .error 3
  else if 18 < ds.length then .error 2
  else .ok (some (Sum.inr (Sum.inl (numVal below ds))), r)
theorem digits_off {ds r : Bs} (h : ∀ c ∈ ds, isDigit c = true) (hr : isDigit (hd r) = false) : (ds ++ r).takeWhile isDigit = ds ∧ (ds ++ r).dropWhile isDigit = r := by
  induction ds with
  | nil =>
    cases r with
    | nil => exact ⟨rfl, rfl⟩
    | cons c r =>
      have hc : isDigit c = false := hr
      simp [hc]
  | cons c ds ih =>
    have hc := h c (by simp)
    have := ih (fun x hx => h x (List.mem_cons_of_mem _ hx))
    simp [hc, this]
set_option maxRecDepth 100000 in
set_option maxHeartbeats 4000000 in
theorem rfnum_plain (b : Nat) (t : ByteArray) (p k : Nat) (w : World) (h : Rf b t p k w) (hp : p < t.size) (ht : t.size ≤ 2000) (h45 : t[p] ≠ 45) :
    Calls Tryz.prog 40 #[.pointer (some ⟨b, 0, none⟩)] w (RNumPost b t p k w) := by
  obtain ⟨w0, hw0⟩ : ∃ w0, w0 = w.alloc (.cells #[.int .i64 0, .bool false, .int .i64 0, .string ⟨#[]⟩, .slice none 0 0, .slice none 0 0] 25) := ⟨_, rfl⟩
  have h2 : Rf b t p k w0 := by rw [hw0]; exact h.alloc _
  have h0 := h2.text
  have h1 := h2.place
  have HR : Hid (Rf b t p k w0) := h2
  have HG0 : Hid (G b w w0) := by
    show G b w w0
    rw [hw0]
    exact (G.refl b w).alloc _
  have HV : Hid (w0.heap[w.heap.size]? = some (.cells #[.int .i64 0, .bool false, .int .i64 0, .string ⟨#[]⟩, .slice none 0 0, .slice none 0 0] 25 (0, 0))) := by
    show w0.heap[w.heap.size]? = _
    rw [hw0]
    exact heap_alloc_new w _
  have HW0 : Hid (w0 = w.alloc (.cells #[.int .i64 0, .bool false, .int .i64 0, .string ⟨#[]⟩, .slice none 0 0, .slice none 0 0] 25)) := hw0
  have hbe : ((t[p].toNat : Int) == 45) = false := by
    rw [beq_eq_false_iff_ne]; intro e; apply h45; apply UInt8.toNat_inj.1; exact Int.ofNat.inj e
  have hI : (p : Int) < (t.size : Int) := by omega
  have hbw := h.lt
  have hne : b ≠ w.heap.size := by omega
  clear hw0 h h2
  go_enter Tryz.func40, Tryz.ntmps40
  go_wp2
  rw [← HW0.out]
  go_quiet (fail)
  have HR1 : Hid (Rf b t p k (w0.drewN nq)) := HR.out.drewN nq
  have HG1 : Hid (G b w (w0.drewN nq)) := HG0.out.drewN nq
  have HV1 : Hid ((w0.drewN nq).heap[w.heap.size]? = some (.cells #[.int .i64 0, .bool false, .int .i64 0, .string ⟨#[]⟩, .slice none 0 0, .slice none 0 0] 25 (0, 0))) := HV.out
  have c1 := HR1.out.place
  have c2 := HR1.out.free 1
  clear h0 h1
  generalize w0.drewN nq = w1 at *
  go_wp2_with fail
  go_loopw [5] (fun r wr => ∃ (q : Nat) (l : Bs), q ≤ t.size ∧ p + l.length = q ∧ r = .string ⟨l.toArray⟩ ∧ (∀ c ∈ l, isDigit c = true) ∧ rest t p = l ++ rest t q ∧ Rf b t q k wr ∧ G b w wr ∧ wr.heap[w.heap.size]? = some (.cells #[.int .i64 0, .bool false, .int .i64 0, .string ⟨#[]⟩, .slice none 0 0, .slice none 0 0] 25 (0, 0))) (fun _ wr => t.size - placeOf b wr)
  case atStart => exact ⟨p, [], by omega, by simp, rfl, by simp, rfl, HR1.out, HG1.out, HV1.out⟩
  case round =>
    obtain ⟨q, l, hq, hl, rfl, hdg, hs, hR, hG, hV⟩ := hrel
    have HS : Hid (rest t p = l ++ rest t q) := hs
    have HD : Hid (∀ c ∈ l, isDigit c = true) := hdg
    have HRq : Hid (Rf b t q k wr) := hR
    have HGq : Hid (G b w wr) := hG
    have HVq : Hid (wr.heap[w.heap.size]? = some (.cells #[.int .i64 0, .bool false, .int .i64 0, .string ⟨#[]⟩, .slice none 0 0, .slice none 0 0] 25 (0, 0))) := hV
    have h0 := hR.text
    have h1 := hR.place
    have HLl : Hid ((⟨l.toArray⟩ : ByteArray).size = l.length) := by show (⟨l.toArray⟩ : ByteArray).size = l.length; simp [ByteArray.size]
    clear hs hR hG hV hdg HR1 HG1 HV1 c1 c2
    by_cases hdig : q < t.size ∧ isDigit (hd (rest t q)) = true
    · obtain ⟨hlt, hd1⟩ := hdig
      have hI1 : (q : Int) < (t.size : Int) := by omega
      rw [hd_lt hlt] at hd1
      have HC : Hid (rest t q = t[q] :: rest t (q + 1)) := rest_cons hlt
      have HDq : Hid (isDigit t[q] = true) := hd1
      have hge := ((digit_iff _).1 hd1).1
      have hle := ((digit_iff _).1 hd1).2
      have hge2 : (48 : Int) ≤ (t[q].toNat : Int) := by omega
      have hle2 : (t[q].toNat : Int) ≤ (57 : Int) := by omega
      have hI2 : (q : Int) + 1 ≤ (t.size : Int) := by omega
      have hI3 : (q : Int) ≤ (q : Int) + 1 := by omega
      have d1 : ¬ 9223372036854775807 < (⟨l.toArray⟩ : ByteArray).size + (t.extract q (q + 1)).size := by rw [HLl.out, ByteArray.size_extract]; omega
      clear hd1
      go_wp2_with fail
      go_quiet (fail)
      have HR2 : Hid (Rf b t q k (wr.drewN nq)) := HRq.out.drewN nq
      have h01 := HR2.out.text
      have c1 := HR2.out.place
      have c2 := HR2.out.free 1
      have HG2 : Hid (G b w (wr.drewN nq)) := HGq.out.drewN nq
      have HV2 : Hid ((wr.drewN nq).heap[w.heap.size]? = some (.cells #[.int .i64 0, .bool false, .int .i64 0, .string ⟨#[]⟩, .slice none 0 0, .slice none 0 0] 25 (0, 0))) := HVq.out
      generalize wr.drewN nq = w1 at *
      go_wp2_with fail
      go_quiet (fail)
      have HR3 : Hid (Rf b t q k (w1.drewN nq)) := HR2.out.drewN nq
      have e1 := HR3.out.place
      have e2 := HR3.out.free 1
      have HG3 : Hid (G b w (w1.drewN nq)) := HG2.out.drewN nq
      have HV3 : Hid ((w1.drewN nq).heap[w.heap.size]? = some (.cells #[.int .i64 0, .bool false, .int .i64 0, .string ⟨#[]⟩, .slice none 0 0, .slice none 0 0] 25 (0, 0))) := HV2.out
      clear h01 c1 c2
      generalize w1.drewN nq = w2 at *
      go_wp2_with fail
      go_roundw
      case rel =>
        refine ⟨q + 1, l ++ [t[q]], by omega, by simp; omega, by rw [ext_one hlt, ← str_snoc], fun c hc => ?_, by rw [HS.out, HC.out]; simp, HR3.out.move (q + 1), HG3.out.setCell 1 _, ?_⟩
        · rcases List.mem_append.1 hc with hc | hc
          · exact HD.out c hc
          · rw [List.mem_singleton.1 hc]; exact HDq.out
        · exact box_kept HV3.out hne _ _
      case measure => rw [show placeOf b (w2.setCell ⟨b, 1, none⟩ (.int .i64 ((q : Int) + 1))) = q + 1 from (HR3.out.move (q + 1)).placeOf_eq, HRq.out.placeOf_eq]; omega
    · have hnd : isDigit (hd (rest t q)) = false := by
        by_cases hlt : q < t.size
        · cases hx : isDigit (hd (rest t q)) with
          | false => rfl
          | true => exact absurd ⟨hlt, hx⟩ hdig
        · rw [hd_end (by omega)]; rfl
      have HN : Hid (number (rest t p) = numE false l (rest t q)) := by
        have h9 := digits_off HD.out hnd
        rw [← HS.out] at h9
        show number (rest t p) = _
        unfold number numE
        have e45 : (hd (rest t p) == 45) = false := by rw [hd_lt hp, beq_eq_false_iff_ne]; exact h45
        simp only [e45, Bool.false_eq_true, if_false]
        rw [h9.1, h9.2]
      have HT : Hid ((rest t p).takeWhile isDigit = l ∧ (rest t p).dropWhile isDigit = rest t q) := by
        have := digits_off HD.out hnd
        show _ ∧ _
        rw [HS.out]
        exact this
      by_cases hlt : q < t.size
      · rw [hd_lt hlt] at hnd
        have hI1 : (q : Int) < (t.size : Int) := by omega
        have hor : t[q].toNat < 48 ∨ 57 < t[q].toNat := by
          rcases Nat.lt_or_ge t[q].toNat 48 with h | h
          · exact Or.inl h
          · rcases Nat.lt_or_ge 57 t[q].toNat with h' | h'
            · exact Or.inr h'
            · have := (digit_iff t[q]).2 ⟨h, h'⟩
              rw [hnd] at this
              cases this
        rcases hor with ho | ho
        · have ho2 : ¬ (48 : Int) ≤ (t[q].toNat : Int) := by omega
          have ho3 : (t[q].toNat : Int) < 48 := by omega
          have ho4 : decide ((48 : Int) ≤ (t[q].toNat : Int)) = false := decide_eq_false ho2
          clear ho2
          go_wp2_with fail
          go_quiet (fail)
          have HR2 : Hid (Rf b t q k (wr.drewN nq)) := HRq.out.drewN nq
          have HG2 : Hid (G b w (wr.drewN nq)) := HGq.out.drewN nq
          have HV2 : Hid ((wr.drewN nq).heap[w.heap.size]? = some (.cells #[.int .i64 0, .bool false, .int .i64 0, .string ⟨#[]⟩, .slice none 0 0, .slice none 0 0] 25 (0, 0))) := HVq.out
          have hne3 : w.heap.size ≠ b := by omega
          clear h0 h1
          generalize wr.drewN nq = w1 at *
          have r0 : w1.cell? ⟨w.heap.size, 0, none⟩ = some (.int .i64 0) := by rw [cell_of_row _ _ _ _ _ _ HV2.out]; rfl
          have f0 : w1.frozen? ⟨w.heap.size, 0, none⟩ = false := frozen_of_row _ _ _ _ _ HV2.out
          have r1 : w1.cell? ⟨w.heap.size, 1, none⟩ = some (.bool false) := by rw [cell_of_row _ _ _ _ _ _ HV2.out]; rfl
          have f1 : w1.frozen? ⟨w.heap.size, 1, none⟩ = false := frozen_of_row _ _ _ _ _ HV2.out
          have r2 : w1.cell? ⟨w.heap.size, 2, none⟩ = some (.int .i64 0) := by rw [cell_of_row _ _ _ _ _ _ HV2.out]; rfl
          have f2 : w1.frozen? ⟨w.heap.size, 2, none⟩ = false := frozen_of_row _ _ _ _ _ HV2.out
          have r3 : w1.cell? ⟨w.heap.size, 3, none⟩ = some (.string ⟨#[]⟩) := by rw [cell_of_row _ _ _ _ _ _ HV2.out]; rfl
          have f3 : w1.frozen? ⟨w.heap.size, 3, none⟩ = false := frozen_of_row _ _ _ _ _ HV2.out
          have r4 : w1.cell? ⟨w.heap.size, 4, none⟩ = some (.slice none 0 0) := by rw [cell_of_row _ _ _ _ _ _ HV2.out]; rfl
          have f4 : w1.frozen? ⟨w.heap.size, 4, none⟩ = false := frozen_of_row _ _ _ _ _ HV2.out
          have r5 : w1.cell? ⟨w.heap.size, 5, none⟩ = some (.slice none 0 0) := by rw [cell_of_row _ _ _ _ _ _ HV2.out]; rfl
          have f5 : w1.frozen? ⟨w.heap.size, 5, none⟩ = false := frozen_of_row _ _ _ _ _ HV2.out
          by_cases hl0 : l = []
          · have HNe : Hid (number (rest t p) = .error 3) := by show number (rest t p) = _; rw [HN.out, numE, if_pos hl0]
            subst hl0
            go_wp2_with fail
            exact bodyPost_ret (v := .tuple #[.agg #[.int .i64 (0 : Nat), .bool false, .int .i64 0, .string ⟨#[]⟩, .slice none 0 0, .slice none 0 0], .int .i64 3]) (by simp [results, Tryz.results40, go_sem, r0, r1, r2, r3, r4, r5, hne, hne3]) rfl ⟨((((((HG2.out).setNew (Nat.le_refl _) _).setNew (Nat.le_refl _) _).setNew (Nat.le_refl _) _).setNew (Nat.le_refl _) _).setNew (Nat.le_refl _) _).setNew (Nat.le_refl _) _, Or.inl ⟨3, HNe.out, by decide, rfl⟩⟩
          · obtain ⟨c, r, rfl⟩ : ∃ c r, l = c :: r := by
              cases l with
              | nil => exact absurd rfl hl0
              | cons c r => exact ⟨c, r, rfl⟩
            obtain ⟨rr, hrr⟩ : ∃ rr : ByteArray, rr = ⟨(c :: r).toArray⟩ := ⟨_, rfl⟩
            have hrl : rr.toList = c :: r := by rw [hrr, ByteArray.toList_eq]
            have hrs : rr.size = r.length + 1 := by rw [hrr]; simp [ByteArray.size]
            have hr0 : 0 < rr.size := by omega
            have hrI : (0 : Int) < (rr.size : Int) := by omega
            have hrc : rr[0] = c := by simp [hrr, ByteArray.getElem_eq_getElem_data]
            have hnil : (rr.toList == []) = false := by rw [hrl]; rfl
            have HAT : Hid (∀ (j : Nat) (h : j < rr.size), ∃ h2 : j < (c :: r).length, rr[j] = (c :: r)[j]) := fun j h => ⟨by simp; omega, by simp [hrr, ByteArray.getElem_eq_getElem_data]⟩
            rw [← hrr] at HLl ⊢
            clear hrr
            by_cases h48 : c = 48
            · have h48b : ((rr[0].toNat : Int) == 48) = true := by rw [hrc, h48]; rfl
              by_cases hr1 : r = []
              · have hone : (rr.toList == [48]) = true := by rw [hrl, hr1, h48]; rfl
                have h18' : (c :: r).length ≤ 18 := by rw [hr1]; simp
                have hsm' : ¬ (18 : Int) < (rr.size : Int) := by simp at h18'; omega
                have HNo : Hid (number (rest t p) = .ok (some (Sum.inr (Sum.inl (numVal false (c :: r)))), rest t q)) := by
                  show number (rest t p) = _
                  rw [HN.out, numE, if_neg (by simp), if_neg (by rw [hr1]; simp), if_neg (by rw [hr1]; simp)]
                have HRS : Hid (rr.size = (c :: r).length) := by show rr.size = _; rw [hrs]; rfl
                have H18 : Hid ((c :: r).length ≤ 18) := h18'
                clear hrc hrl hrs h18' h48 hr1 hl HS hl0 hdig hnd HN HT
                go_wp2_with fail
                go_loopw [6, 108] (fun n i wr => ∃ j : Nat, j ≤ rr.size ∧ i = .int .i64 j ∧ n = .int .i64 (decV ((c :: r).take j)) ∧ wr = w1) (fun n i _ => rr.size - (intOf i).toNat)
                case atStart => exact ⟨0, by omega, by go_num, rfl, rfl⟩
                case round =>
                  obtain ⟨j, hj, rfl, rfl, rfl⟩ := hrel
                  by_cases hlt2 : j < rr.size
                  · have hJ : (j : Int) < (rr.size : Int) := by omega
                    obtain ⟨hj2, hat⟩ := HAT.out j hlt2
                    have hdg : isDigit rr[j] = true := by rw [hat]; exact HD.out _ (List.getElem_mem _)
                    have hge := ((digit_iff _).1 hdg).1
                    have hle := ((digit_iff _).1 hdg).2
                    have hst : decV ((c :: r).take (j + 1)) = 10 * decV ((c :: r).take j) + (rr[j].toNat - 48) := by
                      rw [hat, List.take_succ_eq_append_getElem hj2]
                      unfold decV
                      rw [List.foldl_append]
                      rfl
                    have hb2 : decV ((c :: r).take (j + 1)) < 1000000000000000000 := by
                      have h1 := decV_lt ((c :: r).take (j + 1)) (fun x hx => HD.out x (List.mem_of_mem_take hx))
                      have h2 := H18.out
                      refine Nat.lt_of_lt_of_le h1 ?_
                      exact Nat.le_trans (Nat.pow_le_pow_right (by decide) (by rw [List.length_take]; omega)) (by decide : 10 ^ 18 ≤ 1000000000000000000)
                    have HST : Hid (Value.int .i64 (10 * ((decV ((c :: r).take j) : Nat) : Int) + ((rr[j].toNat : Int) - 48)) = Value.int .i64 ((decV ((c :: r).take (j + 1)) : Nat) : Int)) := by
                      show _ = _
                      refine congrArg _ ?_
                      omega
                    have hb3 : 10 * decV ((c :: r).take j) + (rr[j].toNat - 48) < 1000000000000000000 := by omega
                    clear hat hdg hst hb2
                    generalize hdd : decV ((c :: r).take j) = d1 at *
                    clear hdd
                    have hv1 : IntKind.i64.wrap (10 * (d1 : Int)) = 10 * (d1 : Int) := by rw [IntKind.wrap_i64]; omega
                    go_wp2_with fail
                    go_roundw
                    case rel => exact ⟨j + 1, by omega, by go_num, HST.out, trivial⟩
                    case measure => simp [intOf]; omega
                  · have hJ : ¬ (j : Int) < (rr.size : Int) := by omega
                    have hall : (c :: r).take j = c :: r := List.take_of_length_le (by have := HRS.out; omega)
                    rw [hall]
                    have hb2 : decV (c :: r) < 1000000000000000000 := by
                      have h1 := decV_lt (c :: r) HD.out
                      exact Nat.lt_of_lt_of_le h1 (Nat.le_trans (Nat.pow_le_pow_right (by decide) H18.out) (by decide : 10 ^ 18 ≤ 1000000000000000000))
                    obtain ⟨d, hd9⟩ : ∃ d, decV (c :: r) = d := ⟨_, rfl⟩
                    have HNv : Hid (number (rest t p) = .ok (some (Sum.inr (Sum.inl ((d : Int)))), rest t q)) := by
                      show number (rest t p) = _
                      rw [HNo.out, ← hd9]
                      rfl
                    rw [hd9] at hb2 ⊢
                    clear hall HNo hd9
                    go_wp2_with fail
                    exact bodyPost_ret (v := .tuple #[.agg #[.int .i64 (3 : Nat), .bool false, .int .i64 ((d : Int)), .string ⟨#[]⟩, .slice none 0 0, .slice none 0 0], .int .i64 0]) (by simp [results, Tryz.results40, go_sem, r0, r1, r2, r3, r4, r5, hne, hne3]) rfl ⟨((((((HG2.out).setNew (Nat.le_refl _) _).setNew (Nat.le_refl _) _).setNew (Nat.le_refl _) _).setNew (Nat.le_refl _) _).setNew (Nat.le_refl _) _).setNew (Nat.le_refl _) _, Or.inr ⟨(d : Int), q, hq, HNv.out, rfl, ((((((HR2.out).other hne _).other hne _).other hne _).other hne _).other hne _).other hne _⟩⟩
              · have hone : (rr.toList == [48]) = false := by rw [hrl, beq_eq_false_iff_ne]; intro e; simp at e; exact hr1 e.2
                have HNe : Hid (number (rest t p) = .error 3) := by
                  show number (rest t p) = _
                  rw [HN.out, numE, if_neg (by simp), if_pos ⟨h48, Or.inr (by have := List.length_pos_iff.2 hr1; simp; omega)⟩]
                clear hrc hrl
                go_wp2_with fail
                exact bodyPost_ret (v := .tuple #[.agg #[.int .i64 (0 : Nat), .bool false, .int .i64 0, .string ⟨#[]⟩, .slice none 0 0, .slice none 0 0], .int .i64 3]) (by simp [results, Tryz.results40, go_sem, r0, r1, r2, r3, r4, r5, hne, hne3]) rfl ⟨((((((HG2.out).setNew (Nat.le_refl _) _).setNew (Nat.le_refl _) _).setNew (Nat.le_refl _) _).setNew (Nat.le_refl _) _).setNew (Nat.le_refl _) _).setNew (Nat.le_refl _) _, Or.inl ⟨3, HNe.out, by decide, rfl⟩⟩
            · have h48b : ((rr[0].toNat : Int) == 48) = false := by rw [hrc]; exact byte_ne h48
              have hone : (rr.toList == [48]) = false := by rw [hrl, beq_eq_false_iff_ne]; intro e; simp at e; exact h48 e.1
              by_cases h18 : 18 < (c :: r).length
              · have hbig : (18 : Int) < (rr.size : Int) := by simp at h18; omega
                have HNe : Hid (number (rest t p) = .error 2) := by show number (rest t p) = _; rw [HN.out, numE, if_neg (by simp), if_neg (fun h => h48 h.1), if_pos h18]
                clear hrc hrl
                go_wp2_with fail
                exact bodyPost_ret (v := .tuple #[.agg #[.int .i64 (0 : Nat), .bool false, .int .i64 0, .string ⟨#[]⟩, .slice none 0 0, .slice none 0 0], .int .i64 2]) (by simp [results, Tryz.results40, go_sem, r0, r1, r2, r3, r4, r5, hne, hne3]) rfl ⟨((((((HG2.out).setNew (Nat.le_refl _) _).setNew (Nat.le_refl _) _).setNew (Nat.le_refl _) _).setNew (Nat.le_refl _) _).setNew (Nat.le_refl _) _).setNew (Nat.le_refl _) _, Or.inl ⟨2, HNe.out, by decide, rfl⟩⟩
              · have hsm : ¬ (18 : Int) < (rr.size : Int) := by simp at h18; omega
                have h18' : (c :: r).length ≤ 18 := by omega
                have hsm' : ¬ (18 : Int) < (rr.size : Int) := by simp at h18'; omega
                have HNo : Hid (number (rest t p) = .ok (some (Sum.inr (Sum.inl (numVal false (c :: r)))), rest t q)) := by
                  show number (rest t p) = _
                  rw [HN.out, numE, if_neg (by simp), if_neg (fun h => h48 h.1), if_neg h18]
                have HRS : Hid (rr.size = (c :: r).length) := by show rr.size = _; rw [hrs]; rfl
                have H18 : Hid ((c :: r).length ≤ 18) := h18'
                clear hrc hrl hrs h18' h48 h18 hl HS hl0 hdig hnd HN HT
                go_wp2_with fail
                go_loopw [6, 108] (fun n i wr => ∃ j : Nat, j ≤ rr.size ∧ i = .int .i64 j ∧ n = .int .i64 (decV ((c :: r).take j)) ∧ wr = w1) (fun n i _ => rr.size - (intOf i).toNat)
                case atStart => exact ⟨0, by omega, by go_num, rfl, rfl⟩
                case round =>
                  obtain ⟨j, hj, rfl, rfl, rfl⟩ := hrel
                  by_cases hlt2 : j < rr.size
                  · have hJ : (j : Int) < (rr.size : Int) := by omega
                    obtain ⟨hj2, hat⟩ := HAT.out j hlt2
                    have hdg : isDigit rr[j] = true := by rw [hat]; exact HD.out _ (List.getElem_mem _)
                    have hge := ((digit_iff _).1 hdg).1
                    have hle := ((digit_iff _).1 hdg).2
                    have hst : decV ((c :: r).take (j + 1)) = 10 * decV ((c :: r).take j) + (rr[j].toNat - 48) := by
                      rw [hat, List.take_succ_eq_append_getElem hj2]
                      unfold decV
                      rw [List.foldl_append]
                      rfl
                    have hb2 : decV ((c :: r).take (j + 1)) < 1000000000000000000 := by
                      have h1 := decV_lt ((c :: r).take (j + 1)) (fun x hx => HD.out x (List.mem_of_mem_take hx))
                      have h2 := H18.out
                      refine Nat.lt_of_lt_of_le h1 ?_
                      exact Nat.le_trans (Nat.pow_le_pow_right (by decide) (by rw [List.length_take]; omega)) (by decide : 10 ^ 18 ≤ 1000000000000000000)
                    have HST : Hid (Value.int .i64 (10 * ((decV ((c :: r).take j) : Nat) : Int) + ((rr[j].toNat : Int) - 48)) = Value.int .i64 ((decV ((c :: r).take (j + 1)) : Nat) : Int)) := by
                      show _ = _
                      refine congrArg _ ?_
                      omega
                    have hb3 : 10 * decV ((c :: r).take j) + (rr[j].toNat - 48) < 1000000000000000000 := by omega
                    clear hat hdg hst hb2
                    generalize hdd : decV ((c :: r).take j) = d1 at *
                    clear hdd
                    have hv1 : IntKind.i64.wrap (10 * (d1 : Int)) = 10 * (d1 : Int) := by rw [IntKind.wrap_i64]; omega
                    go_wp2_with fail
                    go_roundw
                    case rel => exact ⟨j + 1, by omega, by go_num, HST.out, trivial⟩
                    case measure => simp [intOf]; omega
                  · have hJ : ¬ (j : Int) < (rr.size : Int) := by omega
                    have hall : (c :: r).take j = c :: r := List.take_of_length_le (by have := HRS.out; omega)
                    rw [hall]
                    have hb2 : decV (c :: r) < 1000000000000000000 := by
                      have h1 := decV_lt (c :: r) HD.out
                      exact Nat.lt_of_lt_of_le h1 (Nat.le_trans (Nat.pow_le_pow_right (by decide) H18.out) (by decide : 10 ^ 18 ≤ 1000000000000000000))
                    obtain ⟨d, hd9⟩ : ∃ d, decV (c :: r) = d := ⟨_, rfl⟩
                    have HNv : Hid (number (rest t p) = .ok (some (Sum.inr (Sum.inl ((d : Int)))), rest t q)) := by
                      show number (rest t p) = _
                      rw [HNo.out, ← hd9]
                      rfl
                    rw [hd9] at hb2 ⊢
                    clear hall HNo hd9
                    go_wp2_with fail
                    exact bodyPost_ret (v := .tuple #[.agg #[.int .i64 (3 : Nat), .bool false, .int .i64 ((d : Int)), .string ⟨#[]⟩, .slice none 0 0, .slice none 0 0], .int .i64 0]) (by simp [results, Tryz.results40, go_sem, r0, r1, r2, r3, r4, r5, hne, hne3]) rfl ⟨((((((HG2.out).setNew (Nat.le_refl _) _).setNew (Nat.le_refl _) _).setNew (Nat.le_refl _) _).setNew (Nat.le_refl _) _).setNew (Nat.le_refl _) _).setNew (Nat.le_refl _) _, Or.inr ⟨(d : Int), q, hq, HNv.out, rfl, ((((((HR2.out).other hne _).other hne _).other hne _).other hne _).other hne _).other hne _⟩⟩
        · have ho1 : (48 : Int) ≤ (t[q].toNat : Int) := by omega
          have ho2 : ¬ (t[q].toNat : Int) ≤ 57 := by omega
          go_wp2_with fail
          go_quiet (fail)
          have HR2 : Hid (Rf b t q k (wr.drewN nq)) := HRq.out.drewN nq
          have HG2 : Hid (G b w (wr.drewN nq)) := HGq.out.drewN nq
          have HV2 : Hid ((wr.drewN nq).heap[w.heap.size]? = some (.cells #[.int .i64 0, .bool false, .int .i64 0, .string ⟨#[]⟩, .slice none 0 0, .slice none 0 0] 25 (0, 0))) := HVq.out
          have hne3 : w.heap.size ≠ b := by omega
          clear h0 h1
          generalize wr.drewN nq = w1 at *
          have r0 : w1.cell? ⟨w.heap.size, 0, none⟩ = some (.int .i64 0) := by rw [cell_of_row _ _ _ _ _ _ HV2.out]; rfl
          have f0 : w1.frozen? ⟨w.heap.size, 0, none⟩ = false := frozen_of_row _ _ _ _ _ HV2.out
          have r1 : w1.cell? ⟨w.heap.size, 1, none⟩ = some (.bool false) := by rw [cell_of_row _ _ _ _ _ _ HV2.out]; rfl
          have f1 : w1.frozen? ⟨w.heap.size, 1, none⟩ = false := frozen_of_row _ _ _ _ _ HV2.out
          have r2 : w1.cell? ⟨w.heap.size, 2, none⟩ = some (.int .i64 0) := by rw [cell_of_row _ _ _ _ _ _ HV2.out]; rfl
          have f2 : w1.frozen? ⟨w.heap.size, 2, none⟩ = false := frozen_of_row _ _ _ _ _ HV2.out
          have r3 : w1.cell? ⟨w.heap.size, 3, none⟩ = some (.string ⟨#[]⟩) := by rw [cell_of_row _ _ _ _ _ _ HV2.out]; rfl
          have f3 : w1.frozen? ⟨w.heap.size, 3, none⟩ = false := frozen_of_row _ _ _ _ _ HV2.out
          have r4 : w1.cell? ⟨w.heap.size, 4, none⟩ = some (.slice none 0 0) := by rw [cell_of_row _ _ _ _ _ _ HV2.out]; rfl
          have f4 : w1.frozen? ⟨w.heap.size, 4, none⟩ = false := frozen_of_row _ _ _ _ _ HV2.out
          have r5 : w1.cell? ⟨w.heap.size, 5, none⟩ = some (.slice none 0 0) := by rw [cell_of_row _ _ _ _ _ _ HV2.out]; rfl
          have f5 : w1.frozen? ⟨w.heap.size, 5, none⟩ = false := frozen_of_row _ _ _ _ _ HV2.out
          by_cases hl0 : l = []
          · have HNe : Hid (number (rest t p) = .error 3) := by show number (rest t p) = _; rw [HN.out, numE, if_pos hl0]
            subst hl0
            go_wp2_with fail
            exact bodyPost_ret (v := .tuple #[.agg #[.int .i64 (0 : Nat), .bool false, .int .i64 0, .string ⟨#[]⟩, .slice none 0 0, .slice none 0 0], .int .i64 3]) (by simp [results, Tryz.results40, go_sem, r0, r1, r2, r3, r4, r5, hne, hne3]) rfl ⟨((((((HG2.out).setNew (Nat.le_refl _) _).setNew (Nat.le_refl _) _).setNew (Nat.le_refl _) _).setNew (Nat.le_refl _) _).setNew (Nat.le_refl _) _).setNew (Nat.le_refl _) _, Or.inl ⟨3, HNe.out, by decide, rfl⟩⟩
          · obtain ⟨c, r, rfl⟩ : ∃ c r, l = c :: r := by
              cases l with
              | nil => exact absurd rfl hl0
              | cons c r => exact ⟨c, r, rfl⟩
            obtain ⟨rr, hrr⟩ : ∃ rr : ByteArray, rr = ⟨(c :: r).toArray⟩ := ⟨_, rfl⟩
            have hrl : rr.toList = c :: r := by rw [hrr, ByteArray.toList_eq]
            have hrs : rr.size = r.length + 1 := by rw [hrr]; simp [ByteArray.size]
            have hr0 : 0 < rr.size := by omega
            have hrI : (0 : Int) < (rr.size : Int) := by omega
            have hrc : rr[0] = c := by simp [hrr, ByteArray.getElem_eq_getElem_data]
            have hnil : (rr.toList == []) = false := by rw [hrl]; rfl
            have HAT : Hid (∀ (j : Nat) (h : j < rr.size), ∃ h2 : j < (c :: r).length, rr[j] = (c :: r)[j]) := fun j h => ⟨by simp; omega, by simp [hrr, ByteArray.getElem_eq_getElem_data]⟩
            rw [← hrr] at HLl ⊢
            clear hrr
            by_cases h48 : c = 48
            · have h48b : ((rr[0].toNat : Int) == 48) = true := by rw [hrc, h48]; rfl
              by_cases hr1 : r = []
              · have hone : (rr.toList == [48]) = true := by rw [hrl, hr1, h48]; rfl
                have h18' : (c :: r).length ≤ 18 := by rw [hr1]; simp
                have hsm' : ¬ (18 : Int) < (rr.size : Int) := by simp at h18'; omega
                have HNo : Hid (number (rest t p) = .ok (some (Sum.inr (Sum.inl (numVal false (c :: r)))), rest t q)) := by
                  show number (rest t p) = _
                  rw [HN.out, numE, if_neg (by simp), if_neg (by rw [hr1]; simp), if_neg (by rw [hr1]; simp)]
                have HRS : Hid (rr.size = (c :: r).length) := by show rr.size = _; rw [hrs]; rfl
                have H18 : Hid ((c :: r).length ≤ 18) := h18'
                clear hrc hrl hrs h18' h48 hr1 hl HS hl0 hdig hnd HN HT
                go_wp2_with fail
                go_loopw [6, 108] (fun n i wr => ∃ j : Nat, j ≤ rr.size ∧ i = .int .i64 j ∧ n = .int .i64 (decV ((c :: r).take j)) ∧ wr = w1) (fun n i _ => rr.size - (intOf i).toNat)
                case atStart => exact ⟨0, by omega, by go_num, rfl, rfl⟩
                case round =>
                  obtain ⟨j, hj, rfl, rfl, rfl⟩ := hrel
                  by_cases hlt2 : j < rr.size
                  · have hJ : (j : Int) < (rr.size : Int) := by omega
                    obtain ⟨hj2, hat⟩ := HAT.out j hlt2
                    have hdg : isDigit rr[j] = true := by rw [hat]; exact HD.out _ (List.getElem_mem _)
                    have hge := ((digit_iff _).1 hdg).1
                    have hle := ((digit_iff _).1 hdg).2
                    have hst : decV ((c :: r).take (j + 1)) = 10 * decV ((c :: r).take j) + (rr[j].toNat - 48) := by
                      rw [hat, List.take_succ_eq_append_getElem hj2]
                      unfold decV
                      rw [List.foldl_append]
                      rfl
                    have hb2 : decV ((c :: r).take (j + 1)) < 1000000000000000000 := by
                      have h1 := decV_lt ((c :: r).take (j + 1)) (fun x hx => HD.out x (List.mem_of_mem_take hx))
                      have h2 := H18.out
                      refine Nat.lt_of_lt_of_le h1 ?_
                      exact Nat.le_trans (Nat.pow_le_pow_right (by decide) (by rw [List.length_take]; omega)) (by decide : 10 ^ 18 ≤ 1000000000000000000)
                    have HST : Hid (Value.int .i64 (10 * ((decV ((c :: r).take j) : Nat) : Int) + ((rr[j].toNat : Int) - 48)) = Value.int .i64 ((decV ((c :: r).take (j + 1)) : Nat) : Int)) := by
                      show _ = _
                      refine congrArg _ ?_
                      omega
                    have hb3 : 10 * decV ((c :: r).take j) + (rr[j].toNat - 48) < 1000000000000000000 := by omega
                    clear hat hdg hst hb2
                    generalize hdd : decV ((c :: r).take j) = d1 at *
                    clear hdd
                    have hv1 : IntKind.i64.wrap (10 * (d1 : Int)) = 10 * (d1 : Int) := by rw [IntKind.wrap_i64]; omega
                    go_wp2_with fail
                    go_roundw
                    case rel => exact ⟨j + 1, by omega, by go_num, HST.out, trivial⟩
                    case measure => simp [intOf]; omega
                  · have hJ : ¬ (j : Int) < (rr.size : Int) := by omega
                    have hall : (c :: r).take j = c :: r := List.take_of_length_le (by have := HRS.out; omega)
                    rw [hall]
                    have hb2 : decV (c :: r) < 1000000000000000000 := by
                      have h1 := decV_lt (c :: r) HD.out
                      exact Nat.lt_of_lt_of_le h1 (Nat.le_trans (Nat.pow_le_pow_right (by decide) H18.out) (by decide : 10 ^ 18 ≤ 1000000000000000000))
                    obtain ⟨d, hd9⟩ : ∃ d, decV (c :: r) = d := ⟨_, rfl⟩
                    have HNv : Hid (number (rest t p) = .ok (some (Sum.inr (Sum.inl ((d : Int)))), rest t q)) := by
                      show number (rest t p) = _
                      rw [HNo.out, ← hd9]
                      rfl
                    rw [hd9] at hb2 ⊢
                    clear hall HNo hd9
                    go_wp2_with fail
                    exact bodyPost_ret (v := .tuple #[.agg #[.int .i64 (3 : Nat), .bool false, .int .i64 ((d : Int)), .string ⟨#[]⟩, .slice none 0 0, .slice none 0 0], .int .i64 0]) (by simp [results, Tryz.results40, go_sem, r0, r1, r2, r3, r4, r5, hne, hne3]) rfl ⟨((((((HG2.out).setNew (Nat.le_refl _) _).setNew (Nat.le_refl _) _).setNew (Nat.le_refl _) _).setNew (Nat.le_refl _) _).setNew (Nat.le_refl _) _).setNew (Nat.le_refl _) _, Or.inr ⟨(d : Int), q, hq, HNv.out, rfl, ((((((HR2.out).other hne _).other hne _).other hne _).other hne _).other hne _).other hne _⟩⟩
              · have hone : (rr.toList == [48]) = false := by rw [hrl, beq_eq_false_iff_ne]; intro e; simp at e; exact hr1 e.2
                have HNe : Hid (number (rest t p) = .error 3) := by
                  show number (rest t p) = _
                  rw [HN.out, numE, if_neg (by simp), if_pos ⟨h48, Or.inr (by have := List.length_pos_iff.2 hr1; simp; omega)⟩]
                clear hrc hrl
                go_wp2_with fail
                exact bodyPost_ret (v := .tuple #[.agg #[.int .i64 (0 : Nat), .bool false, .int .i64 0, .string ⟨#[]⟩, .slice none 0 0, .slice none 0 0], .int .i64 3]) (by simp [results, Tryz.results40, go_sem, r0, r1, r2, r3, r4, r5, hne, hne3]) rfl ⟨((((((HG2.out).setNew (Nat.le_refl _) _).setNew (Nat.le_refl _) _).setNew (Nat.le_refl _) _).setNew (Nat.le_refl _) _).setNew (Nat.le_refl _) _).setNew (Nat.le_refl _) _, Or.inl ⟨3, HNe.out, by decide, rfl⟩⟩
            · have h48b : ((rr[0].toNat : Int) == 48) = false := by rw [hrc]; exact byte_ne h48
              have hone : (rr.toList == [48]) = false := by rw [hrl, beq_eq_false_iff_ne]; intro e; simp at e; exact h48 e.1
              by_cases h18 : 18 < (c :: r).length
              · have hbig : (18 : Int) < (rr.size : Int) := by simp at h18; omega
                have HNe : Hid (number (rest t p) = .error 2) := by show number (rest t p) = _; rw [HN.out, numE, if_neg (by simp), if_neg (fun h => h48 h.1), if_pos h18]
                clear hrc hrl
                go_wp2_with fail
                exact bodyPost_ret (v := .tuple #[.agg #[.int .i64 (0 : Nat), .bool false, .int .i64 0, .string ⟨#[]⟩, .slice none 0 0, .slice none 0 0], .int .i64 2]) (by simp [results, Tryz.results40, go_sem, r0, r1, r2, r3, r4, r5, hne, hne3]) rfl ⟨((((((HG2.out).setNew (Nat.le_refl _) _).setNew (Nat.le_refl _) _).setNew (Nat.le_refl _) _).setNew (Nat.le_refl _) _).setNew (Nat.le_refl _) _).setNew (Nat.le_refl _) _, Or.inl ⟨2, HNe.out, by decide, rfl⟩⟩
              · have hsm : ¬ (18 : Int) < (rr.size : Int) := by simp at h18; omega
                have h18' : (c :: r).length ≤ 18 := by omega
                have hsm' : ¬ (18 : Int) < (rr.size : Int) := by simp at h18'; omega
                have HNo : Hid (number (rest t p) = .ok (some (Sum.inr (Sum.inl (numVal false (c :: r)))), rest t q)) := by
                  show number (rest t p) = _
                  rw [HN.out, numE, if_neg (by simp), if_neg (fun h => h48 h.1), if_neg h18]
                have HRS : Hid (rr.size = (c :: r).length) := by show rr.size = _; rw [hrs]; rfl
                have H18 : Hid ((c :: r).length ≤ 18) := h18'
                clear hrc hrl hrs h18' h48 h18 hl HS hl0 hdig hnd HN HT
                go_wp2_with fail
                go_loopw [6, 108] (fun n i wr => ∃ j : Nat, j ≤ rr.size ∧ i = .int .i64 j ∧ n = .int .i64 (decV ((c :: r).take j)) ∧ wr = w1) (fun n i _ => rr.size - (intOf i).toNat)
                case atStart => exact ⟨0, by omega, by go_num, rfl, rfl⟩
                case round =>
                  obtain ⟨j, hj, rfl, rfl, rfl⟩ := hrel
                  by_cases hlt2 : j < rr.size
                  · have hJ : (j : Int) < (rr.size : Int) := by omega
                    obtain ⟨hj2, hat⟩ := HAT.out j hlt2
                    have hdg : isDigit rr[j] = true := by rw [hat]; exact HD.out _ (List.getElem_mem _)
                    have hge := ((digit_iff _).1 hdg).1
                    have hle := ((digit_iff _).1 hdg).2
                    have hst : decV ((c :: r).take (j + 1)) = 10 * decV ((c :: r).take j) + (rr[j].toNat - 48) := by
                      rw [hat, List.take_succ_eq_append_getElem hj2]
                      unfold decV
                      rw [List.foldl_append]
                      rfl
                    have hb2 : decV ((c :: r).take (j + 1)) < 1000000000000000000 := by
                      have h1 := decV_lt ((c :: r).take (j + 1)) (fun x hx => HD.out x (List.mem_of_mem_take hx))
                      have h2 := H18.out
                      refine Nat.lt_of_lt_of_le h1 ?_
                      exact Nat.le_trans (Nat.pow_le_pow_right (by decide) (by rw [List.length_take]; omega)) (by decide : 10 ^ 18 ≤ 1000000000000000000)
                    have HST : Hid (Value.int .i64 (10 * ((decV ((c :: r).take j) : Nat) : Int) + ((rr[j].toNat : Int) - 48)) = Value.int .i64 ((decV ((c :: r).take (j + 1)) : Nat) : Int)) := by
                      show _ = _
                      refine congrArg _ ?_
                      omega
                    have hb3 : 10 * decV ((c :: r).take j) + (rr[j].toNat - 48) < 1000000000000000000 := by omega
                    clear hat hdg hst hb2
                    generalize hdd : decV ((c :: r).take j) = d1 at *
                    clear hdd
                    have hv1 : IntKind.i64.wrap (10 * (d1 : Int)) = 10 * (d1 : Int) := by rw [IntKind.wrap_i64]; omega
                    go_wp2_with fail
                    go_roundw
                    case rel => exact ⟨j + 1, by omega, by go_num, HST.out, trivial⟩
                    case measure => simp [intOf]; omega
                  · have hJ : ¬ (j : Int) < (rr.size : Int) := by omega
                    have hall : (c :: r).take j = c :: r := List.take_of_length_le (by have := HRS.out; omega)
                    rw [hall]
                    have hb2 : decV (c :: r) < 1000000000000000000 := by
                      have h1 := decV_lt (c :: r) HD.out
                      exact Nat.lt_of_lt_of_le h1 (Nat.le_trans (Nat.pow_le_pow_right (by decide) H18.out) (by decide : 10 ^ 18 ≤ 1000000000000000000))
                    obtain ⟨d, hd9⟩ : ∃ d, decV (c :: r) = d := ⟨_, rfl⟩
                    have HNv : Hid (number (rest t p) = .ok (some (Sum.inr (Sum.inl ((d : Int)))), rest t q)) := by
                      show number (rest t p) = _
                      rw [HNo.out, ← hd9]
                      rfl
                    rw [hd9] at hb2 ⊢
                    clear hall HNo hd9
                    go_wp2_with fail
                    exact bodyPost_ret (v := .tuple #[.agg #[.int .i64 (3 : Nat), .bool false, .int .i64 ((d : Int)), .string ⟨#[]⟩, .slice none 0 0, .slice none 0 0], .int .i64 0]) (by simp [results, Tryz.results40, go_sem, r0, r1, r2, r3, r4, r5, hne, hne3]) rfl ⟨((((((HG2.out).setNew (Nat.le_refl _) _).setNew (Nat.le_refl _) _).setNew (Nat.le_refl _) _).setNew (Nat.le_refl _) _).setNew (Nat.le_refl _) _).setNew (Nat.le_refl _) _, Or.inr ⟨(d : Int), q, hq, HNv.out, rfl, ((((((HR2.out).other hne _).other hne _).other hne _).other hne _).other hne _).other hne _⟩⟩
      · have hI1 : ¬ (q : Int) < (t.size : Int) := by omega
        go_wp2_with fail
        go_quiet (fail)
        have HR2 : Hid (Rf b t q k (wr.drewN nq)) := HRq.out.drewN nq
        have HG2 : Hid (G b w (wr.drewN nq)) := HGq.out.drewN nq
        have HV2 : Hid ((wr.drewN nq).heap[w.heap.size]? = some (.cells #[.int .i64 0, .bool false, .int .i64 0, .string ⟨#[]⟩, .slice none 0 0, .slice none 0 0] 25 (0, 0))) := HVq.out
        have hne3 : w.heap.size ≠ b := by omega
        clear h0 h1
        generalize wr.drewN nq = w1 at *
        have r0 : w1.cell? ⟨w.heap.size, 0, none⟩ = some (.int .i64 0) := by rw [cell_of_row _ _ _ _ _ _ HV2.out]; rfl
        have f0 : w1.frozen? ⟨w.heap.size, 0, none⟩ = false := frozen_of_row _ _ _ _ _ HV2.out
        have r1 : w1.cell? ⟨w.heap.size, 1, none⟩ = some (.bool false) := by rw [cell_of_row _ _ _ _ _ _ HV2.out]; rfl
        have f1 : w1.frozen? ⟨w.heap.size, 1, none⟩ = false := frozen_of_row _ _ _ _ _ HV2.out
        have r2 : w1.cell? ⟨w.heap.size, 2, none⟩ = some (.int .i64 0) := by rw [cell_of_row _ _ _ _ _ _ HV2.out]; rfl
        have f2 : w1.frozen? ⟨w.heap.size, 2, none⟩ = false := frozen_of_row _ _ _ _ _ HV2.out
        have r3 : w1.cell? ⟨w.heap.size, 3, none⟩ = some (.string ⟨#[]⟩) := by rw [cell_of_row _ _ _ _ _ _ HV2.out]; rfl
        have f3 : w1.frozen? ⟨w.heap.size, 3, none⟩ = false := frozen_of_row _ _ _ _ _ HV2.out
        have r4 : w1.cell? ⟨w.heap.size, 4, none⟩ = some (.slice none 0 0) := by rw [cell_of_row _ _ _ _ _ _ HV2.out]; rfl
        have f4 : w1.frozen? ⟨w.heap.size, 4, none⟩ = false := frozen_of_row _ _ _ _ _ HV2.out
        have r5 : w1.cell? ⟨w.heap.size, 5, none⟩ = some (.slice none 0 0) := by rw [cell_of_row _ _ _ _ _ _ HV2.out]; rfl
        have f5 : w1.frozen? ⟨w.heap.size, 5, none⟩ = false := frozen_of_row _ _ _ _ _ HV2.out
        by_cases hl0 : l = []
        · have HNe : Hid (number (rest t p) = .error 3) := by show number (rest t p) = _; rw [HN.out, numE, if_pos hl0]
          subst hl0
          go_wp2_with fail
          exact bodyPost_ret (v := .tuple #[.agg #[.int .i64 (0 : Nat), .bool false, .int .i64 0, .string ⟨#[]⟩, .slice none 0 0, .slice none 0 0], .int .i64 3]) (by simp [results, Tryz.results40, go_sem, r0, r1, r2, r3, r4, r5, hne, hne3]) rfl ⟨((((((HG2.out).setNew (Nat.le_refl _) _).setNew (Nat.le_refl _) _).setNew (Nat.le_refl _) _).setNew (Nat.le_refl _) _).setNew (Nat.le_refl _) _).setNew (Nat.le_refl _) _, Or.inl ⟨3, HNe.out, by decide, rfl⟩⟩
        · obtain ⟨c, r, rfl⟩ : ∃ c r, l = c :: r := by
            cases l with
            | nil => exact absurd rfl hl0
            | cons c r => exact ⟨c, r, rfl⟩
          obtain ⟨rr, hrr⟩ : ∃ rr : ByteArray, rr = ⟨(c :: r).toArray⟩ := ⟨_, rfl⟩
          have hrl : rr.toList = c :: r := by rw [hrr, ByteArray.toList_eq]
          have hrs : rr.size = r.length + 1 := by rw [hrr]; simp [ByteArray.size]
          have hr0 : 0 < rr.size := by omega
          have hrI : (0 : Int) < (rr.size : Int) := by omega
          have hrc : rr[0] = c := by simp [hrr, ByteArray.getElem_eq_getElem_data]
          have hnil : (rr.toList == []) = false := by rw [hrl]; rfl
          have HAT : Hid (∀ (j : Nat) (h : j < rr.size), ∃ h2 : j < (c :: r).length, rr[j] = (c :: r)[j]) := fun j h => ⟨by simp; omega, by simp [hrr, ByteArray.getElem_eq_getElem_data]⟩
          rw [← hrr] at HLl ⊢
          clear hrr
          by_cases h48 : c = 48
          · have h48b : ((rr[0].toNat : Int) == 48) = true := by rw [hrc, h48]; rfl
            by_cases hr1 : r = []
            · have hone : (rr.toList == [48]) = true := by rw [hrl, hr1, h48]; rfl
              have h18' : (c :: r).length ≤ 18 := by rw [hr1]; simp
              have hsm' : ¬ (18 : Int) < (rr.size : Int) := by simp at h18'; omega
              have HNo : Hid (number (rest t p) = .ok (some (Sum.inr (Sum.inl (numVal false (c :: r)))), rest t q)) := by
                show number (rest t p) = _
                rw [HN.out, numE, if_neg (by simp), if_neg (by rw [hr1]; simp), if_neg (by rw [hr1]; simp)]
              have HRS : Hid (rr.size = (c :: r).length) := by show rr.size = _; rw [hrs]; rfl
              have H18 : Hid ((c :: r).length ≤ 18) := h18'
              clear hrc hrl hrs h18' h48 hr1 hl HS hl0 hdig hnd HN HT
              go_wp2_with fail
              go_loopw [6, 108] (fun n i wr => ∃ j : Nat, j ≤ rr.size ∧ i = .int .i64 j ∧ n = .int .i64 (decV ((c :: r).take j)) ∧ wr = w1) (fun n i _ => rr.size - (intOf i).toNat)
              case atStart => exact ⟨0, by omega, by go_num, rfl, rfl⟩
              case round =>
                obtain ⟨j, hj, rfl, rfl, rfl⟩ := hrel
                by_cases hlt2 : j < rr.size
                · have hJ : (j : Int) < (rr.size : Int) := by omega
                  obtain ⟨hj2, hat⟩ := HAT.out j hlt2
                  have hdg : isDigit rr[j] = true := by rw [hat]; exact HD.out _ (List.getElem_mem _)
                  have hge := ((digit_iff _).1 hdg).1
                  have hle := ((digit_iff _).1 hdg).2
                  have hst : decV ((c :: r).take (j + 1)) = 10 * decV ((c :: r).take j) + (rr[j].toNat - 48) := by
                    rw [hat, List.take_succ_eq_append_getElem hj2]
                    unfold decV
                    rw [List.foldl_append]
                    rfl
                  have hb2 : decV ((c :: r).take (j + 1)) < 1000000000000000000 := by
                    have h1 := decV_lt ((c :: r).take (j + 1)) (fun x hx => HD.out x (List.mem_of_mem_take hx))
                    have h2 := H18.out
                    refine Nat.lt_of_lt_of_le h1 ?_
                    exact Nat.le_trans (Nat.pow_le_pow_right (by decide) (by rw [List.length_take]; omega)) (by decide : 10 ^ 18 ≤ 1000000000000000000)
                  have HST : Hid (Value.int .i64 (10 * ((decV ((c :: r).take j) : Nat) : Int) + ((rr[j].toNat : Int) - 48)) = Value.int .i64 ((decV ((c :: r).take (j + 1)) : Nat) : Int)) := by
                    show _ = _
                    refine congrArg _ ?_
                    omega
                  have hb3 : 10 * decV ((c :: r).take j) + (rr[j].toNat - 48) < 1000000000000000000 := by omega
                  clear hat hdg hst hb2
                  generalize hdd : decV ((c :: r).take j) = d1 at *
                  clear hdd
                  have hv1 : IntKind.i64.wrap (10 * (d1 : Int)) = 10 * (d1 : Int) := by rw [IntKind.wrap_i64]; omega
                  go_wp2_with fail
                  go_roundw
                  case rel => exact ⟨j + 1, by omega, by go_num, HST.out, trivial⟩
                  case measure => simp [intOf]; omega
                · have hJ : ¬ (j : Int) < (rr.size : Int) := by omega
                  have hall : (c :: r).take j = c :: r := List.take_of_length_le (by have := HRS.out; omega)
                  rw [hall]
                  have hb2 : decV (c :: r) < 1000000000000000000 := by
                    have h1 := decV_lt (c :: r) HD.out
                    exact Nat.lt_of_lt_of_le h1 (Nat.le_trans (Nat.pow_le_pow_right (by decide) H18.out) (by decide : 10 ^ 18 ≤ 1000000000000000000))
                  obtain ⟨d, hd9⟩ : ∃ d, decV (c :: r) = d := ⟨_, rfl⟩
                  have HNv : Hid (number (rest t p) = .ok (some (Sum.inr (Sum.inl ((d : Int)))), rest t q)) := by
                    show number (rest t p) = _
                    rw [HNo.out, ← hd9]
                    rfl
                  rw [hd9] at hb2 ⊢
                  clear hall HNo hd9
                  go_wp2_with fail
                  exact bodyPost_ret (v := .tuple #[.agg #[.int .i64 (3 : Nat), .bool false, .int .i64 ((d : Int)), .string ⟨#[]⟩, .slice none 0 0, .slice none 0 0], .int .i64 0]) (by simp [results, Tryz.results40, go_sem, r0, r1, r2, r3, r4, r5, hne, hne3]) rfl ⟨((((((HG2.out).setNew (Nat.le_refl _) _).setNew (Nat.le_refl _) _).setNew (Nat.le_refl _) _).setNew (Nat.le_refl _) _).setNew (Nat.le_refl _) _).setNew (Nat.le_refl _) _, Or.inr ⟨(d : Int), q, hq, HNv.out, rfl, ((((((HR2.out).other hne _).other hne _).other hne _).other hne _).other hne _).other hne _⟩⟩
            · have hone : (rr.toList == [48]) = false := by rw [hrl, beq_eq_false_iff_ne]; intro e; simp at e; exact hr1 e.2
              have HNe : Hid (number (rest t p) = .error 3) := by
                show number (rest t p) = _
                rw [HN.out, numE, if_neg (by simp), if_pos ⟨h48, Or.inr (by have := List.length_pos_iff.2 hr1; simp; omega)⟩]
              clear hrc hrl
              go_wp2_with fail
              exact bodyPost_ret (v := .tuple #[.agg #[.int .i64 (0 : Nat), .bool false, .int .i64 0, .string ⟨#[]⟩, .slice none 0 0, .slice none 0 0], .int .i64 3]) (by simp [results, Tryz.results40, go_sem, r0, r1, r2, r3, r4, r5, hne, hne3]) rfl ⟨((((((HG2.out).setNew (Nat.le_refl _) _).setNew (Nat.le_refl _) _).setNew (Nat.le_refl _) _).setNew (Nat.le_refl _) _).setNew (Nat.le_refl _) _).setNew (Nat.le_refl _) _, Or.inl ⟨3, HNe.out, by decide, rfl⟩⟩
          · have h48b : ((rr[0].toNat : Int) == 48) = false := by rw [hrc]; exact byte_ne h48
            have hone : (rr.toList == [48]) = false := by rw [hrl, beq_eq_false_iff_ne]; intro e; simp at e; exact h48 e.1
            by_cases h18 : 18 < (c :: r).length
            · have hbig : (18 : Int) < (rr.size : Int) := by simp at h18; omega
              have HNe : Hid (number (rest t p) = .error 2) := by show number (rest t p) = _; rw [HN.out, numE, if_neg (by simp), if_neg (fun h => h48 h.1), if_pos h18]
              clear hrc hrl
              go_wp2_with fail
              exact bodyPost_ret (v := .tuple #[.agg #[.int .i64 (0 : Nat), .bool false, .int .i64 0, .string ⟨#[]⟩, .slice none 0 0, .slice none 0 0], .int .i64 2]) (by simp [results, Tryz.results40, go_sem, r0, r1, r2, r3, r4, r5, hne, hne3]) rfl ⟨((((((HG2.out).setNew (Nat.le_refl _) _).setNew (Nat.le_refl _) _).setNew (Nat.le_refl _) _).setNew (Nat.le_refl _) _).setNew (Nat.le_refl _) _).setNew (Nat.le_refl _) _, Or.inl ⟨2, HNe.out, by decide, rfl⟩⟩
            · have hsm : ¬ (18 : Int) < (rr.size : Int) := by simp at h18; omega
              have h18' : (c :: r).length ≤ 18 := by omega
              have hsm' : ¬ (18 : Int) < (rr.size : Int) := by simp at h18'; omega
              have HNo : Hid (number (rest t p) = .ok (some (Sum.inr (Sum.inl (numVal false (c :: r)))), rest t q)) := by
                show number (rest t p) = _
                rw [HN.out, numE, if_neg (by simp), if_neg (fun h => h48 h.1), if_neg h18]
              have HRS : Hid (rr.size = (c :: r).length) := by show rr.size = _; rw [hrs]; rfl
              have H18 : Hid ((c :: r).length ≤ 18) := h18'
              clear hrc hrl hrs h18' h48 h18 hl HS hl0 hdig hnd HN HT
              go_wp2_with fail
              go_loopw [6, 108] (fun n i wr => ∃ j : Nat, j ≤ rr.size ∧ i = .int .i64 j ∧ n = .int .i64 (decV ((c :: r).take j)) ∧ wr = w1) (fun n i _ => rr.size - (intOf i).toNat)
              case atStart => exact ⟨0, by omega, by go_num, rfl, rfl⟩
              case round =>
                obtain ⟨j, hj, rfl, rfl, rfl⟩ := hrel
                by_cases hlt2 : j < rr.size
                · have hJ : (j : Int) < (rr.size : Int) := by omega
                  obtain ⟨hj2, hat⟩ := HAT.out j hlt2
                  have hdg : isDigit rr[j] = true := by rw [hat]; exact HD.out _ (List.getElem_mem _)
                  have hge := ((digit_iff _).1 hdg).1
                  have hle := ((digit_iff _).1 hdg).2
                  have hst : decV ((c :: r).take (j + 1)) = 10 * decV ((c :: r).take j) + (rr[j].toNat - 48) := by
                    rw [hat, List.take_succ_eq_append_getElem hj2]
                    unfold decV
                    rw [List.foldl_append]
                    rfl
                  have hb2 : decV ((c :: r).take (j + 1)) < 1000000000000000000 := by
                    have h1 := decV_lt ((c :: r).take (j + 1)) (fun x hx => HD.out x (List.mem_of_mem_take hx))
                    have h2 := H18.out
                    refine Nat.lt_of_lt_of_le h1 ?_
                    exact Nat.le_trans (Nat.pow_le_pow_right (by decide) (by rw [List.length_take]; omega)) (by decide : 10 ^ 18 ≤ 1000000000000000000)
                  have HST : Hid (Value.int .i64 (10 * ((decV ((c :: r).take j) : Nat) : Int) + ((rr[j].toNat : Int) - 48)) = Value.int .i64 ((decV ((c :: r).take (j + 1)) : Nat) : Int)) := by
                    show _ = _
                    refine congrArg _ ?_
                    omega
                  have hb3 : 10 * decV ((c :: r).take j) + (rr[j].toNat - 48) < 1000000000000000000 := by omega
                  clear hat hdg hst hb2
                  generalize hdd : decV ((c :: r).take j) = d1 at *
                  clear hdd
                  have hv1 : IntKind.i64.wrap (10 * (d1 : Int)) = 10 * (d1 : Int) := by rw [IntKind.wrap_i64]; omega
                  go_wp2_with fail
                  go_roundw
                  case rel => exact ⟨j + 1, by omega, by go_num, HST.out, trivial⟩
                  case measure => simp [intOf]; omega
                · have hJ : ¬ (j : Int) < (rr.size : Int) := by omega
                  have hall : (c :: r).take j = c :: r := List.take_of_length_le (by have := HRS.out; omega)
                  rw [hall]
                  have hb2 : decV (c :: r) < 1000000000000000000 := by
                    have h1 := decV_lt (c :: r) HD.out
                    exact Nat.lt_of_lt_of_le h1 (Nat.le_trans (Nat.pow_le_pow_right (by decide) H18.out) (by decide : 10 ^ 18 ≤ 1000000000000000000))
                  obtain ⟨d, hd9⟩ : ∃ d, decV (c :: r) = d := ⟨_, rfl⟩
                  have HNv : Hid (number (rest t p) = .ok (some (Sum.inr (Sum.inl ((d : Int)))), rest t q)) := by
                    show number (rest t p) = _
                    rw [HNo.out, ← hd9]
                    rfl
                  rw [hd9] at hb2 ⊢
                  clear hall HNo hd9
                  go_wp2_with fail
                  exact bodyPost_ret (v := .tuple #[.agg #[.int .i64 (3 : Nat), .bool false, .int .i64 ((d : Int)), .string ⟨#[]⟩, .slice none 0 0, .slice none 0 0], .int .i64 0]) (by simp [results, Tryz.results40, go_sem, r0, r1, r2, r3, r4, r5, hne, hne3]) rfl ⟨((((((HG2.out).setNew (Nat.le_refl _) _).setNew (Nat.le_refl _) _).setNew (Nat.le_refl _) _).setNew (Nat.le_refl _) _).setNew (Nat.le_refl _) _).setNew (Nat.le_refl _) _, Or.inr ⟨(d : Int), q, hq, HNv.out, rfl, ((((((HR2.out).other hne _).other hne _).other hne _).other hne _).other hne _).other hne _⟩⟩
set_option maxRecDepth 100000 in
set_option maxHeartbeats 4000000 in
theorem rfnum_below (b : Nat) (t : ByteArray) (p k : Nat) (w : World) (h : Rf b t p k w) (hp : p < t.size) (ht : t.size ≤ 2000) (h45 : t[p] = 45) :
    Calls Tryz.prog 40 #[.pointer (some ⟨b, 0, none⟩)] w (RNumPost b t p k w) := by
  obtain ⟨w0, hw0⟩ : ∃ w0, w0 = w.alloc (.cells #[.int .i64 0, .bool false, .int .i64 0, .string ⟨#[]⟩, .slice none 0 0, .slice none 0 0] 25) := ⟨_, rfl⟩
  have h2 : Rf b t p k w0 := by rw [hw0]; exact h.alloc _
  have h0 := h2.text
  have h1 := h2.place
  have HR : Hid (Rf b t p k w0) := h2
  have HG0 : Hid (G b w w0) := by
    show G b w w0
    rw [hw0]
    exact (G.refl b w).alloc _
  have HV : Hid (w0.heap[w.heap.size]? = some (.cells #[.int .i64 0, .bool false, .int .i64 0, .string ⟨#[]⟩, .slice none 0 0, .slice none 0 0] 25 (0, 0))) := by
    show w0.heap[w.heap.size]? = _
    rw [hw0]
    exact heap_alloc_new w _
  have HW0 : Hid (w0 = w.alloc (.cells #[.int .i64 0, .bool false, .int .i64 0, .string ⟨#[]⟩, .slice none 0 0, .slice none 0 0] 25)) := hw0
  have hbe : ((t[p].toNat : Int) == 45) = true := by
    rw [h45]; rfl
  have hI : (p : Int) < (t.size : Int) := by omega
  have hbw := h.lt
  have hne : b ≠ w.heap.size := by omega
  clear hw0 h h2
  go_enter Tryz.func40, Tryz.ntmps40
  go_wp2
  rw [← HW0.out]
  go_quiet (fail)
  have HR1 : Hid (Rf b t p k (w0.drewN nq)) := HR.out.drewN nq
  have HG1 : Hid (G b w (w0.drewN nq)) := HG0.out.drewN nq
  have HV1 : Hid ((w0.drewN nq).heap[w.heap.size]? = some (.cells #[.int .i64 0, .bool false, .int .i64 0, .string ⟨#[]⟩, .slice none 0 0, .slice none 0 0] 25 (0, 0))) := HV.out
  have c1 := HR1.out.place
  have c2 := HR1.out.free 1
  clear h0 h1
  generalize w0.drewN nq = w1 at *
  go_wp2_with fail
  go_loopw [5] (fun r wr => ∃ (q : Nat) (l : Bs), q ≤ t.size ∧ (p + 1) + l.length = q ∧ r = .string ⟨l.toArray⟩ ∧ (∀ c ∈ l, isDigit c = true) ∧ rest t (p + 1) = l ++ rest t q ∧ Rf b t q k wr ∧ G b w wr ∧ wr.heap[w.heap.size]? = some (.cells #[.int .i64 0, .bool false, .int .i64 0, .string ⟨#[]⟩, .slice none 0 0, .slice none 0 0] 25 (0, 0))) (fun _ wr => t.size - placeOf b wr)
  case atStart => exact ⟨(p + 1), [], by omega, by simp, rfl, by simp, rfl, (HR1.out.move (p + 1)), HG1.out.setCell 1 _, box_kept HV1.out hne _ _⟩
  case round =>
    obtain ⟨q, l, hq, hl, rfl, hdg, hs, hR, hG, hV⟩ := hrel
    have HS : Hid (rest t (p + 1) = l ++ rest t q) := hs
    have HD : Hid (∀ c ∈ l, isDigit c = true) := hdg
    have HRq : Hid (Rf b t q k wr) := hR
    have HGq : Hid (G b w wr) := hG
    have HVq : Hid (wr.heap[w.heap.size]? = some (.cells #[.int .i64 0, .bool false, .int .i64 0, .string ⟨#[]⟩, .slice none 0 0, .slice none 0 0] 25 (0, 0))) := hV
    have h0 := hR.text
    have h1 := hR.place
    have HLl : Hid ((⟨l.toArray⟩ : ByteArray).size = l.length) := by show (⟨l.toArray⟩ : ByteArray).size = l.length; simp [ByteArray.size]
    clear hs hR hG hV hdg HR1 HG1 HV1 c1 c2
    by_cases hdig : q < t.size ∧ isDigit (hd (rest t q)) = true
    · obtain ⟨hlt, hd1⟩ := hdig
      have hI1 : (q : Int) < (t.size : Int) := by omega
      rw [hd_lt hlt] at hd1
      have HC : Hid (rest t q = t[q] :: rest t (q + 1)) := rest_cons hlt
      have HDq : Hid (isDigit t[q] = true) := hd1
      have hge := ((digit_iff _).1 hd1).1
      have hle := ((digit_iff _).1 hd1).2
      have hge2 : (48 : Int) ≤ (t[q].toNat : Int) := by omega
      have hle2 : (t[q].toNat : Int) ≤ (57 : Int) := by omega
      have hI2 : (q : Int) + 1 ≤ (t.size : Int) := by omega
      have hI3 : (q : Int) ≤ (q : Int) + 1 := by omega
      have d1 : ¬ 9223372036854775807 < (⟨l.toArray⟩ : ByteArray).size + (t.extract q (q + 1)).size := by rw [HLl.out, ByteArray.size_extract]; omega
      clear hd1
      go_wp2_with fail
      go_quiet (fail)
      have HR2 : Hid (Rf b t q k (wr.drewN nq)) := HRq.out.drewN nq
      have h01 := HR2.out.text
      have c1 := HR2.out.place
      have c2 := HR2.out.free 1
      have HG2 : Hid (G b w (wr.drewN nq)) := HGq.out.drewN nq
      have HV2 : Hid ((wr.drewN nq).heap[w.heap.size]? = some (.cells #[.int .i64 0, .bool false, .int .i64 0, .string ⟨#[]⟩, .slice none 0 0, .slice none 0 0] 25 (0, 0))) := HVq.out
      generalize wr.drewN nq = w1 at *
      go_wp2_with fail
      go_quiet (fail)
      have HR3 : Hid (Rf b t q k (w1.drewN nq)) := HR2.out.drewN nq
      have e1 := HR3.out.place
      have e2 := HR3.out.free 1
      have HG3 : Hid (G b w (w1.drewN nq)) := HG2.out.drewN nq
      have HV3 : Hid ((w1.drewN nq).heap[w.heap.size]? = some (.cells #[.int .i64 0, .bool false, .int .i64 0, .string ⟨#[]⟩, .slice none 0 0, .slice none 0 0] 25 (0, 0))) := HV2.out
      clear h01 c1 c2
      generalize w1.drewN nq = w2 at *
      go_wp2_with fail
      go_roundw
      case rel =>
        refine ⟨q + 1, l ++ [t[q]], by omega, by simp; omega, by rw [ext_one hlt, ← str_snoc], fun c hc => ?_, by rw [HS.out, HC.out]; simp, HR3.out.move (q + 1), HG3.out.setCell 1 _, ?_⟩
        · rcases List.mem_append.1 hc with hc | hc
          · exact HD.out c hc
          · rw [List.mem_singleton.1 hc]; exact HDq.out
        · exact box_kept HV3.out hne _ _
      case measure => rw [show placeOf b (w2.setCell ⟨b, 1, none⟩ (.int .i64 ((q : Int) + 1))) = q + 1 from (HR3.out.move (q + 1)).placeOf_eq, HRq.out.placeOf_eq]; omega
    · have hnd : isDigit (hd (rest t q)) = false := by
        by_cases hlt : q < t.size
        · cases hx : isDigit (hd (rest t q)) with
          | false => rfl
          | true => exact absurd ⟨hlt, hx⟩ hdig
        · rw [hd_end (by omega)]; rfl
      have HN : Hid (number (rest t p) = numE true l (rest t q)) := by
        have h9 := digits_off HD.out hnd
        rw [← HS.out] at h9
        show number (rest t p) = _
        unfold number numE
        have e45 : (hd (rest t p) == 45) = true := by rw [hd_lt hp, h45]; rfl
        have e46 : (rest t p).tail = rest t (p + 1) := by rw [rest_cons hp]; rfl
        simp only [e45, if_true, e46]
        rw [h9.1, h9.2]
      have HT : Hid ((rest t (p + 1)).takeWhile isDigit = l ∧ (rest t (p + 1)).dropWhile isDigit = rest t q) := by
        have := digits_off HD.out hnd
        show _ ∧ _
        rw [HS.out]
        exact this
      by_cases hlt : q < t.size
      · rw [hd_lt hlt] at hnd
        have hI1 : (q : Int) < (t.size : Int) := by omega
        have hor : t[q].toNat < 48 ∨ 57 < t[q].toNat := by
          rcases Nat.lt_or_ge t[q].toNat 48 with h | h
          · exact Or.inl h
          · rcases Nat.lt_or_ge 57 t[q].toNat with h' | h'
            · exact Or.inr h'
            · have := (digit_iff t[q]).2 ⟨h, h'⟩
              rw [hnd] at this
              cases this
        rcases hor with ho | ho
        · have ho2 : ¬ (48 : Int) ≤ (t[q].toNat : Int) := by omega
          have ho3 : (t[q].toNat : Int) < 48 := by omega
          have ho4 : decide ((48 : Int) ≤ (t[q].toNat : Int)) = false := decide_eq_false ho2
          clear ho2
          go_wp2_with fail
          go_quiet (fail)
          have HR2 : Hid (Rf b t q k (wr.drewN nq)) := HRq.out.drewN nq
          have HG2 : Hid (G b w (wr.drewN nq)) := HGq.out.drewN nq
          have HV2 : Hid ((wr.drewN nq).heap[w.heap.size]? = some (.cells #[.int .i64 0, .bool false, .int .i64 0, .string ⟨#[]⟩, .slice none 0 0, .slice none 0 0] 25 (0, 0))) := HVq.out
          have hne3 : w.heap.size ≠ b := by omega
          clear h0 h1
          generalize wr.drewN nq = w1 at *
          have r0 : w1.cell? ⟨w.heap.size, 0, none⟩ = some (.int .i64 0) := by rw [cell_of_row _ _ _ _ _ _ HV2.out]; rfl
          have f0 : w1.frozen? ⟨w.heap.size, 0, none⟩ = false := frozen_of_row _ _ _ _ _ HV2.out
          have r1 : w1.cell? ⟨w.heap.size, 1, none⟩ = some (.bool false) := by rw [cell_of_row _ _ _ _ _ _ HV2.out]; rfl
          have f1 : w1.frozen? ⟨w.heap.size, 1, none⟩ = false := frozen_of_row _ _ _ _ _ HV2.out
          have r2 : w1.cell? ⟨w.heap.size, 2, none⟩ = some (.int .i64 0) := by rw [cell_of_row _ _ _ _ _ _ HV2.out]; rfl
          have f2 : w1.frozen? ⟨w.heap.size, 2, none⟩ = false := frozen_of_row _ _ _ _ _ HV2.out
          have r3 : w1.cell? ⟨w.heap.size, 3, none⟩ = some (.string ⟨#[]⟩) := by rw [cell_of_row _ _ _ _ _ _ HV2.out]; rfl
          have f3 : w1.frozen? ⟨w.heap.size, 3, none⟩ = false := frozen_of_row _ _ _ _ _ HV2.out
          have r4 : w1.cell? ⟨w.heap.size, 4, none⟩ = some (.slice none 0 0) := by rw [cell_of_row _ _ _ _ _ _ HV2.out]; rfl
          have f4 : w1.frozen? ⟨w.heap.size, 4, none⟩ = false := frozen_of_row _ _ _ _ _ HV2.out
          have r5 : w1.cell? ⟨w.heap.size, 5, none⟩ = some (.slice none 0 0) := by rw [cell_of_row _ _ _ _ _ _ HV2.out]; rfl
          have f5 : w1.frozen? ⟨w.heap.size, 5, none⟩ = false := frozen_of_row _ _ _ _ _ HV2.out
          by_cases hl0 : l = []
          · have HNe : Hid (number (rest t p) = .error 3) := by show number (rest t p) = _; rw [HN.out, numE, if_pos hl0]
            subst hl0
            go_wp2_with fail
            exact bodyPost_ret (v := .tuple #[.agg #[.int .i64 (0 : Nat), .bool false, .int .i64 0, .string ⟨#[]⟩, .slice none 0 0, .slice none 0 0], .int .i64 3]) (by simp [results, Tryz.results40, go_sem, r0, r1, r2, r3, r4, r5, hne, hne3]) rfl ⟨((((((HG2.out).setNew (Nat.le_refl _) _).setNew (Nat.le_refl _) _).setNew (Nat.le_refl _) _).setNew (Nat.le_refl _) _).setNew (Nat.le_refl _) _).setNew (Nat.le_refl _) _, Or.inl ⟨3, HNe.out, by decide, rfl⟩⟩
          · obtain ⟨c, r, rfl⟩ : ∃ c r, l = c :: r := by
              cases l with
              | nil => exact absurd rfl hl0
              | cons c r => exact ⟨c, r, rfl⟩
            obtain ⟨rr, hrr⟩ : ∃ rr : ByteArray, rr = ⟨(c :: r).toArray⟩ := ⟨_, rfl⟩
            have hrl : rr.toList = c :: r := by rw [hrr, ByteArray.toList_eq]
            have hrs : rr.size = r.length + 1 := by rw [hrr]; simp [ByteArray.size]
            have hr0 : 0 < rr.size := by omega
            have hrI : (0 : Int) < (rr.size : Int) := by omega
            have hrc : rr[0] = c := by simp [hrr, ByteArray.getElem_eq_getElem_data]
            have hnil : (rr.toList == []) = false := by rw [hrl]; rfl
            have HAT : Hid (∀ (j : Nat) (h : j < rr.size), ∃ h2 : j < (c :: r).length, rr[j] = (c :: r)[j]) := fun j h => ⟨by simp; omega, by simp [hrr, ByteArray.getElem_eq_getElem_data]⟩
            rw [← hrr] at HLl ⊢
            clear hrr
            by_cases h48 : c = 48
            · have h48b : ((rr[0].toNat : Int) == 48) = true := by rw [hrc, h48]; rfl
              by_cases hr1 : r = []
              · have hone : (rr.toList == [48]) = true := by rw [hrl, hr1, h48]; rfl
                have HNe : Hid (number (rest t p) = .error 3) := by show number (rest t p) = _; rw [HN.out, numE, if_neg (by simp), if_pos ⟨h48, Or.inl rfl⟩]
                clear hrc hrl
                go_wp2_with fail
                exact bodyPost_ret (v := .tuple #[.agg #[.int .i64 (0 : Nat), .bool false, .int .i64 0, .string ⟨#[]⟩, .slice none 0 0, .slice none 0 0], .int .i64 3]) (by simp [results, Tryz.results40, go_sem, r0, r1, r2, r3, r4, r5, hne, hne3]) rfl ⟨((((((HG2.out).setNew (Nat.le_refl _) _).setNew (Nat.le_refl _) _).setNew (Nat.le_refl _) _).setNew (Nat.le_refl _) _).setNew (Nat.le_refl _) _).setNew (Nat.le_refl _) _, Or.inl ⟨3, HNe.out, by decide, rfl⟩⟩
              · have hone : (rr.toList == [48]) = false := by rw [hrl, beq_eq_false_iff_ne]; intro e; simp at e; exact hr1 e.2
                have HNe : Hid (number (rest t p) = .error 3) := by
                  show number (rest t p) = _
                  rw [HN.out, numE, if_neg (by simp), if_pos ⟨h48, Or.inr (by have := List.length_pos_iff.2 hr1; simp; omega)⟩]
                clear hrc hrl
                go_wp2_with fail
                exact bodyPost_ret (v := .tuple #[.agg #[.int .i64 (0 : Nat), .bool false, .int .i64 0, .string ⟨#[]⟩, .slice none 0 0, .slice none 0 0], .int .i64 3]) (by simp [results, Tryz.results40, go_sem, r0, r1, r2, r3, r4, r5, hne, hne3]) rfl ⟨((((((HG2.out).setNew (Nat.le_refl _) _).setNew (Nat.le_refl _) _).setNew (Nat.le_refl _) _).setNew (Nat.le_refl _) _).setNew (Nat.le_refl _) _).setNew (Nat.le_refl _) _, Or.inl ⟨3, HNe.out, by decide, rfl⟩⟩
            · have h48b : ((rr[0].toNat : Int) == 48) = false := by rw [hrc]; exact byte_ne h48
              have hone : (rr.toList == [48]) = false := by rw [hrl, beq_eq_false_iff_ne]; intro e; simp at e; exact h48 e.1
              by_cases h18 : 18 < (c :: r).length
              · have hbig : (18 : Int) < (rr.size : Int) := by simp at h18; omega
                have HNe : Hid (number (rest t p) = .error 2) := by show number (rest t p) = _; rw [HN.out, numE, if_neg (by simp), if_neg (fun h => h48 h.1), if_pos h18]
                clear hrc hrl
                go_wp2_with fail
                exact bodyPost_ret (v := .tuple #[.agg #[.int .i64 (0 : Nat), .bool false, .int .i64 0, .string ⟨#[]⟩, .slice none 0 0, .slice none 0 0], .int .i64 2]) (by simp [results, Tryz.results40, go_sem, r0, r1, r2, r3, r4, r5, hne, hne3]) rfl ⟨((((((HG2.out).setNew (Nat.le_refl _) _).setNew (Nat.le_refl _) _).setNew (Nat.le_refl _) _).setNew (Nat.le_refl _) _).setNew (Nat.le_refl _) _).setNew (Nat.le_refl _) _, Or.inl ⟨2, HNe.out, by decide, rfl⟩⟩
              · have hsm : ¬ (18 : Int) < (rr.size : Int) := by simp at h18; omega
                have h18' : (c :: r).length ≤ 18 := by omega
                have hsm' : ¬ (18 : Int) < (rr.size : Int) := by simp at h18'; omega
                have HNo : Hid (number (rest t p) = .ok (some (Sum.inr (Sum.inl (numVal true (c :: r)))), rest t q)) := by
                  show number (rest t p) = _
                  rw [HN.out, numE, if_neg (by simp), if_neg (fun h => h48 h.1), if_neg h18]
                have HRS : Hid (rr.size = (c :: r).length) := by show rr.size = _; rw [hrs]; rfl
                have H18 : Hid ((c :: r).length ≤ 18) := h18'
                clear hrc hrl hrs h18' h48 h18 hl HS hl0 hdig hnd HN HT
                go_wp2_with fail
                go_loopw [6, 108] (fun n i wr => ∃ j : Nat, j ≤ rr.size ∧ i = .int .i64 j ∧ n = .int .i64 (decV ((c :: r).take j)) ∧ wr = w1) (fun n i _ => rr.size - (intOf i).toNat)
                case atStart => exact ⟨0, by omega, by go_num, rfl, rfl⟩
                case round =>
                  obtain ⟨j, hj, rfl, rfl, rfl⟩ := hrel
                  by_cases hlt2 : j < rr.size
                  · have hJ : (j : Int) < (rr.size : Int) := by omega
                    obtain ⟨hj2, hat⟩ := HAT.out j hlt2
                    have hdg : isDigit rr[j] = true := by rw [hat]; exact HD.out _ (List.getElem_mem _)
                    have hge := ((digit_iff _).1 hdg).1
                    have hle := ((digit_iff _).1 hdg).2
                    have hst : decV ((c :: r).take (j + 1)) = 10 * decV ((c :: r).take j) + (rr[j].toNat - 48) := by
                      rw [hat, List.take_succ_eq_append_getElem hj2]
                      unfold decV
                      rw [List.foldl_append]
                      rfl
                    have hb2 : decV ((c :: r).take (j + 1)) < 1000000000000000000 := by
                      have h1 := decV_lt ((c :: r).take (j + 1)) (fun x hx => HD.out x (List.mem_of_mem_take hx))
                      have h2 := H18.out
                      refine Nat.lt_of_lt_of_le h1 ?_
                      exact Nat.le_trans (Nat.pow_le_pow_right (by decide) (by rw [List.length_take]; omega)) (by decide : 10 ^ 18 ≤ 1000000000000000000)
                    have HST : Hid (Value.int .i64 (10 * ((decV ((c :: r).take j) : Nat) : Int) + ((rr[j].toNat : Int) - 48)) = Value.int .i64 ((decV ((c :: r).take (j + 1)) : Nat) : Int)) := by
                      show _ = _
                      refine congrArg _ ?_
                      omega
                    have hb3 : 10 * decV ((c :: r).take j) + (rr[j].toNat - 48) < 1000000000000000000 := by omega
                    clear hat hdg hst hb2
                    generalize hdd : decV ((c :: r).take j) = d1 at *
                    clear hdd
                    have hv1 : IntKind.i64.wrap (10 * (d1 : Int)) = 10 * (d1 : Int) := by rw [IntKind.wrap_i64]; omega
                    go_wp2_with fail
                    go_roundw
                    case rel => exact ⟨j + 1, by omega, by go_num, HST.out, trivial⟩
                    case measure => simp [intOf]; omega
                  · have hJ : ¬ (j : Int) < (rr.size : Int) := by omega
                    have hall : (c :: r).take j = c :: r := List.take_of_length_le (by have := HRS.out; omega)
                    rw [hall]
                    have hb2 : decV (c :: r) < 1000000000000000000 := by
                      have h1 := decV_lt (c :: r) HD.out
                      exact Nat.lt_of_lt_of_le h1 (Nat.le_trans (Nat.pow_le_pow_right (by decide) H18.out) (by decide : 10 ^ 18 ≤ 1000000000000000000))
                    obtain ⟨d, hd9⟩ : ∃ d, decV (c :: r) = d := ⟨_, rfl⟩
                    have HNv : Hid (number (rest t p) = .ok (some (Sum.inr (Sum.inl (-(d : Int)))), rest t q)) := by
                      show number (rest t p) = _
                      rw [HNo.out, ← hd9]
                      rfl
                    rw [hd9] at hb2 ⊢
                    clear hall HNo hd9
                    go_wp2_with fail
                    exact bodyPost_ret (v := .tuple #[.agg #[.int .i64 (3 : Nat), .bool false, .int .i64 (-(d : Int)), .string ⟨#[]⟩, .slice none 0 0, .slice none 0 0], .int .i64 0]) (by simp [results, Tryz.results40, go_sem, r0, r1, r2, r3, r4, r5, hne, hne3]) rfl ⟨((((((HG2.out).setNew (Nat.le_refl _) _).setNew (Nat.le_refl _) _).setNew (Nat.le_refl _) _).setNew (Nat.le_refl _) _).setNew (Nat.le_refl _) _).setNew (Nat.le_refl _) _, Or.inr ⟨-(d : Int), q, hq, HNv.out, rfl, ((((((HR2.out).other hne _).other hne _).other hne _).other hne _).other hne _).other hne _⟩⟩
        · have ho1 : (48 : Int) ≤ (t[q].toNat : Int) := by omega
          have ho2 : ¬ (t[q].toNat : Int) ≤ 57 := by omega
          go_wp2_with fail
          go_quiet (fail)
          have HR2 : Hid (Rf b t q k (wr.drewN nq)) := HRq.out.drewN nq
          have HG2 : Hid (G b w (wr.drewN nq)) := HGq.out.drewN nq
          have HV2 : Hid ((wr.drewN nq).heap[w.heap.size]? = some (.cells #[.int .i64 0, .bool false, .int .i64 0, .string ⟨#[]⟩, .slice none 0 0, .slice none 0 0] 25 (0, 0))) := HVq.out
          have hne3 : w.heap.size ≠ b := by omega
          clear h0 h1
          generalize wr.drewN nq = w1 at *
          have r0 : w1.cell? ⟨w.heap.size, 0, none⟩ = some (.int .i64 0) := by rw [cell_of_row _ _ _ _ _ _ HV2.out]; rfl
          have f0 : w1.frozen? ⟨w.heap.size, 0, none⟩ = false := frozen_of_row _ _ _ _ _ HV2.out
          have r1 : w1.cell? ⟨w.heap.size, 1, none⟩ = some (.bool false) := by rw [cell_of_row _ _ _ _ _ _ HV2.out]; rfl
          have f1 : w1.frozen? ⟨w.heap.size, 1, none⟩ = false := frozen_of_row _ _ _ _ _ HV2.out
          have r2 : w1.cell? ⟨w.heap.size, 2, none⟩ = some (.int .i64 0) := by rw [cell_of_row _ _ _ _ _ _ HV2.out]; rfl
          have f2 : w1.frozen? ⟨w.heap.size, 2, none⟩ = false := frozen_of_row _ _ _ _ _ HV2.out
          have r3 : w1.cell? ⟨w.heap.size, 3, none⟩ = some (.string ⟨#[]⟩) := by rw [cell_of_row _ _ _ _ _ _ HV2.out]; rfl
          have f3 : w1.frozen? ⟨w.heap.size, 3, none⟩ = false := frozen_of_row _ _ _ _ _ HV2.out
          have r4 : w1.cell? ⟨w.heap.size, 4, none⟩ = some (.slice none 0 0) := by rw [cell_of_row _ _ _ _ _ _ HV2.out]; rfl
          have f4 : w1.frozen? ⟨w.heap.size, 4, none⟩ = false := frozen_of_row _ _ _ _ _ HV2.out
          have r5 : w1.cell? ⟨w.heap.size, 5, none⟩ = some (.slice none 0 0) := by rw [cell_of_row _ _ _ _ _ _ HV2.out]; rfl
          have f5 : w1.frozen? ⟨w.heap.size, 5, none⟩ = false := frozen_of_row _ _ _ _ _ HV2.out
          by_cases hl0 : l = []
          · have HNe : Hid (number (rest t p) = .error 3) := by show number (rest t p) = _; rw [HN.out, numE, if_pos hl0]
            subst hl0
            go_wp2_with fail
            exact bodyPost_ret (v := .tuple #[.agg #[.int .i64 (0 : Nat), .bool false, .int .i64 0, .string ⟨#[]⟩, .slice none 0 0, .slice none 0 0], .int .i64 3]) (by simp [results, Tryz.results40, go_sem, r0, r1, r2, r3, r4, r5, hne, hne3]) rfl ⟨((((((HG2.out).setNew (Nat.le_refl _) _).setNew (Nat.le_refl _) _).setNew (Nat.le_refl _) _).setNew (Nat.le_refl _) _).setNew (Nat.le_refl _) _).setNew (Nat.le_refl _) _, Or.inl ⟨3, HNe.out, by decide, rfl⟩⟩
          · obtain ⟨c, r, rfl⟩ : ∃ c r, l = c :: r := by
              cases l with
              | nil => exact absurd rfl hl0
              | cons c r => exact ⟨c, r, rfl⟩
            obtain ⟨rr, hrr⟩ : ∃ rr : ByteArray, rr = ⟨(c :: r).toArray⟩ := ⟨_, rfl⟩
            have hrl : rr.toList = c :: r := by rw [hrr, ByteArray.toList_eq]
            have hrs : rr.size = r.length + 1 := by rw [hrr]; simp [ByteArray.size]
            have hr0 : 0 < rr.size := by omega
            have hrI : (0 : Int) < (rr.size : Int) := by omega
            have hrc : rr[0] = c := by simp [hrr, ByteArray.getElem_eq_getElem_data]
            have hnil : (rr.toList == []) = false := by rw [hrl]; rfl
            have HAT : Hid (∀ (j : Nat) (h : j < rr.size), ∃ h2 : j < (c :: r).length, rr[j] = (c :: r)[j]) := fun j h => ⟨by simp; omega, by simp [hrr, ByteArray.getElem_eq_getElem_data]⟩
            rw [← hrr] at HLl ⊢
            clear hrr
            by_cases h48 : c = 48
            · have h48b : ((rr[0].toNat : Int) == 48) = true := by rw [hrc, h48]; rfl
              by_cases hr1 : r = []
              · have hone : (rr.toList == [48]) = true := by rw [hrl, hr1, h48]; rfl
                have HNe : Hid (number (rest t p) = .error 3) := by show number (rest t p) = _; rw [HN.out, numE, if_neg (by simp), if_pos ⟨h48, Or.inl rfl⟩]
                clear hrc hrl
                go_wp2_with fail
                exact bodyPost_ret (v := .tuple #[.agg #[.int .i64 (0 : Nat), .bool false, .int .i64 0, .string ⟨#[]⟩, .slice none 0 0, .slice none 0 0], .int .i64 3]) (by simp [results, Tryz.results40, go_sem, r0, r1, r2, r3, r4, r5, hne, hne3]) rfl ⟨((((((HG2.out).setNew (Nat.le_refl _) _).setNew (Nat.le_refl _) _).setNew (Nat.le_refl _) _).setNew (Nat.le_refl _) _).setNew (Nat.le_refl _) _).setNew (Nat.le_refl _) _, Or.inl ⟨3, HNe.out, by decide, rfl⟩⟩
              · have hone : (rr.toList == [48]) = false := by rw [hrl, beq_eq_false_iff_ne]; intro e; simp at e; exact hr1 e.2
                have HNe : Hid (number (rest t p) = .error 3) := by
                  show number (rest t p) = _
                  rw [HN.out, numE, if_neg (by simp), if_pos ⟨h48, Or.inr (by have := List.length_pos_iff.2 hr1; simp; omega)⟩]
                clear hrc hrl
                go_wp2_with fail
                exact bodyPost_ret (v := .tuple #[.agg #[.int .i64 (0 : Nat), .bool false, .int .i64 0, .string ⟨#[]⟩, .slice none 0 0, .slice none 0 0], .int .i64 3]) (by simp [results, Tryz.results40, go_sem, r0, r1, r2, r3, r4, r5, hne, hne3]) rfl ⟨((((((HG2.out).setNew (Nat.le_refl _) _).setNew (Nat.le_refl _) _).setNew (Nat.le_refl _) _).setNew (Nat.le_refl _) _).setNew (Nat.le_refl _) _).setNew (Nat.le_refl _) _, Or.inl ⟨3, HNe.out, by decide, rfl⟩⟩
            · have h48b : ((rr[0].toNat : Int) == 48) = false := by rw [hrc]; exact byte_ne h48
              have hone : (rr.toList == [48]) = false := by rw [hrl, beq_eq_false_iff_ne]; intro e; simp at e; exact h48 e.1
              by_cases h18 : 18 < (c :: r).length
              · have hbig : (18 : Int) < (rr.size : Int) := by simp at h18; omega
                have HNe : Hid (number (rest t p) = .error 2) := by show number (rest t p) = _; rw [HN.out, numE, if_neg (by simp), if_neg (fun h => h48 h.1), if_pos h18]
                clear hrc hrl
                go_wp2_with fail
                exact bodyPost_ret (v := .tuple #[.agg #[.int .i64 (0 : Nat), .bool false, .int .i64 0, .string ⟨#[]⟩, .slice none 0 0, .slice none 0 0], .int .i64 2]) (by simp [results, Tryz.results40, go_sem, r0, r1, r2, r3, r4, r5, hne, hne3]) rfl ⟨((((((HG2.out).setNew (Nat.le_refl _) _).setNew (Nat.le_refl _) _).setNew (Nat.le_refl _) _).setNew (Nat.le_refl _) _).setNew (Nat.le_refl _) _).setNew (Nat.le_refl _) _, Or.inl ⟨2, HNe.out, by decide, rfl⟩⟩
              · have hsm : ¬ (18 : Int) < (rr.size : Int) := by simp at h18; omega
                have h18' : (c :: r).length ≤ 18 := by omega
                have hsm' : ¬ (18 : Int) < (rr.size : Int) := by simp at h18'; omega
                have HNo : Hid (number (rest t p) = .ok (some (Sum.inr (Sum.inl (numVal true (c :: r)))), rest t q)) := by
                  show number (rest t p) = _
                  rw [HN.out, numE, if_neg (by simp), if_neg (fun h => h48 h.1), if_neg h18]
                have HRS : Hid (rr.size = (c :: r).length) := by show rr.size = _; rw [hrs]; rfl
                have H18 : Hid ((c :: r).length ≤ 18) := h18'
                clear hrc hrl hrs h18' h48 h18 hl HS hl0 hdig hnd HN HT
                go_wp2_with fail
                go_loopw [6, 108] (fun n i wr => ∃ j : Nat, j ≤ rr.size ∧ i = .int .i64 j ∧ n = .int .i64 (decV ((c :: r).take j)) ∧ wr = w1) (fun n i _ => rr.size - (intOf i).toNat)
                case atStart => exact ⟨0, by omega, by go_num, rfl, rfl⟩
                case round =>
                  obtain ⟨j, hj, rfl, rfl, rfl⟩ := hrel
                  by_cases hlt2 : j < rr.size
                  · have hJ : (j : Int) < (rr.size : Int) := by omega
                    obtain ⟨hj2, hat⟩ := HAT.out j hlt2
                    have hdg : isDigit rr[j] = true := by rw [hat]; exact HD.out _ (List.getElem_mem _)
                    have hge := ((digit_iff _).1 hdg).1
                    have hle := ((digit_iff _).1 hdg).2
                    have hst : decV ((c :: r).take (j + 1)) = 10 * decV ((c :: r).take j) + (rr[j].toNat - 48) := by
                      rw [hat, List.take_succ_eq_append_getElem hj2]
                      unfold decV
                      rw [List.foldl_append]
                      rfl
                    have hb2 : decV ((c :: r).take (j + 1)) < 1000000000000000000 := by
                      have h1 := decV_lt ((c :: r).take (j + 1)) (fun x hx => HD.out x (List.mem_of_mem_take hx))
                      have h2 := H18.out
                      refine Nat.lt_of_lt_of_le h1 ?_
                      exact Nat.le_trans (Nat.pow_le_pow_right (by decide) (by rw [List.length_take]; omega)) (by decide : 10 ^ 18 ≤ 1000000000000000000)
                    have HST : Hid (Value.int .i64 (10 * ((decV ((c :: r).take j) : Nat) : Int) + ((rr[j].toNat : Int) - 48)) = Value.int .i64 ((decV ((c :: r).take (j + 1)) : Nat) : Int)) := by
                      show _ = _
                      refine congrArg _ ?_
                      omega
                    have hb3 : 10 * decV ((c :: r).take j) + (rr[j].toNat - 48) < 1000000000000000000 := by omega
                    clear hat hdg hst hb2
                    generalize hdd : decV ((c :: r).take j) = d1 at *
                    clear hdd
                    have hv1 : IntKind.i64.wrap (10 * (d1 : Int)) = 10 * (d1 : Int) := by rw [IntKind.wrap_i64]; omega
                    go_wp2_with fail
                    go_roundw
                    case rel => exact ⟨j + 1, by omega, by go_num, HST.out, trivial⟩
                    case measure => simp [intOf]; omega
                  · have hJ : ¬ (j : Int) < (rr.size : Int) := by omega
                    have hall : (c :: r).take j = c :: r := List.take_of_length_le (by have := HRS.out; omega)
                    rw [hall]
                    have hb2 : decV (c :: r) < 1000000000000000000 := by
                      have h1 := decV_lt (c :: r) HD.out
                      exact Nat.lt_of_lt_of_le h1 (Nat.le_trans (Nat.pow_le_pow_right (by decide) H18.out) (by decide : 10 ^ 18 ≤ 1000000000000000000))
                    obtain ⟨d, hd9⟩ : ∃ d, decV (c :: r) = d := ⟨_, rfl⟩
                    have HNv : Hid (number (rest t p) = .ok (some (Sum.inr (Sum.inl (-(d : Int)))), rest t q)) := by
                      show number (rest t p) = _
                      rw [HNo.out, ← hd9]
                      rfl
                    rw [hd9] at hb2 ⊢
                    clear hall HNo hd9
                    go_wp2_with fail
                    exact bodyPost_ret (v := .tuple #[.agg #[.int .i64 (3 : Nat), .bool false, .int .i64 (-(d : Int)), .string ⟨#[]⟩, .slice none 0 0, .slice none 0 0], .int .i64 0]) (by simp [results, Tryz.results40, go_sem, r0, r1, r2, r3, r4, r5, hne, hne3]) rfl ⟨((((((HG2.out).setNew (Nat.le_refl _) _).setNew (Nat.le_refl _) _).setNew (Nat.le_refl _) _).setNew (Nat.le_refl _) _).setNew (Nat.le_refl _) _).setNew (Nat.le_refl _) _, Or.inr ⟨-(d : Int), q, hq, HNv.out, rfl, ((((((HR2.out).other hne _).other hne _).other hne _).other hne _).other hne _).other hne _⟩⟩
      · have hI1 : ¬ (q : Int) < (t.size : Int) := by omega
        go_wp2_with fail
        go_quiet (fail)
        have HR2 : Hid (Rf b t q k (wr.drewN nq)) := HRq.out.drewN nq
        have HG2 : Hid (G b w (wr.drewN nq)) := HGq.out.drewN nq
        have HV2 : Hid ((wr.drewN nq).heap[w.heap.size]? = some (.cells #[.int .i64 0, .bool false, .int .i64 0, .string ⟨#[]⟩, .slice none 0 0, .slice none 0 0] 25 (0, 0))) := HVq.out
        have hne3 : w.heap.size ≠ b := by omega
        clear h0 h1
        generalize wr.drewN nq = w1 at *
        have r0 : w1.cell? ⟨w.heap.size, 0, none⟩ = some (.int .i64 0) := by rw [cell_of_row _ _ _ _ _ _ HV2.out]; rfl
        have f0 : w1.frozen? ⟨w.heap.size, 0, none⟩ = false := frozen_of_row _ _ _ _ _ HV2.out
        have r1 : w1.cell? ⟨w.heap.size, 1, none⟩ = some (.bool false) := by rw [cell_of_row _ _ _ _ _ _ HV2.out]; rfl
        have f1 : w1.frozen? ⟨w.heap.size, 1, none⟩ = false := frozen_of_row _ _ _ _ _ HV2.out
        have r2 : w1.cell? ⟨w.heap.size, 2, none⟩ = some (.int .i64 0) := by rw [cell_of_row _ _ _ _ _ _ HV2.out]; rfl
        have f2 : w1.frozen? ⟨w.heap.size, 2, none⟩ = false := frozen_of_row _ _ _ _ _ HV2.out
        have r3 : w1.cell? ⟨w.heap.size, 3, none⟩ = some (.string ⟨#[]⟩) := by rw [cell_of_row _ _ _ _ _ _ HV2.out]; rfl
        have f3 : w1.frozen? ⟨w.heap.size, 3, none⟩ = false := frozen_of_row _ _ _ _ _ HV2.out
        have r4 : w1.cell? ⟨w.heap.size, 4, none⟩ = some (.slice none 0 0) := by rw [cell_of_row _ _ _ _ _ _ HV2.out]; rfl
        have f4 : w1.frozen? ⟨w.heap.size, 4, none⟩ = false := frozen_of_row _ _ _ _ _ HV2.out
        have r5 : w1.cell? ⟨w.heap.size, 5, none⟩ = some (.slice none 0 0) := by rw [cell_of_row _ _ _ _ _ _ HV2.out]; rfl
        have f5 : w1.frozen? ⟨w.heap.size, 5, none⟩ = false := frozen_of_row _ _ _ _ _ HV2.out
        by_cases hl0 : l = []
        · have HNe : Hid (number (rest t p) = .error 3) := by show number (rest t p) = _; rw [HN.out, numE, if_pos hl0]
          subst hl0
          go_wp2_with fail
          exact bodyPost_ret (v := .tuple #[.agg #[.int .i64 (0 : Nat), .bool false, .int .i64 0, .string ⟨#[]⟩, .slice none 0 0, .slice none 0 0], .int .i64 3]) (by simp [results, Tryz.results40, go_sem, r0, r1, r2, r3, r4, r5, hne, hne3]) rfl ⟨((((((HG2.out).setNew (Nat.le_refl _) _).setNew (Nat.le_refl _) _).setNew (Nat.le_refl _) _).setNew (Nat.le_refl _) _).setNew (Nat.le_refl _) _).setNew (Nat.le_refl _) _, Or.inl ⟨3, HNe.out, by decide, rfl⟩⟩
        · obtain ⟨c, r, rfl⟩ : ∃ c r, l = c :: r := by
            cases l with
            | nil => exact absurd rfl hl0
            | cons c r => exact ⟨c, r, rfl⟩
          obtain ⟨rr, hrr⟩ : ∃ rr : ByteArray, rr = ⟨(c :: r).toArray⟩ := ⟨_, rfl⟩
          have hrl : rr.toList = c :: r := by rw [hrr, ByteArray.toList_eq]
          have hrs : rr.size = r.length + 1 := by rw [hrr]; simp [ByteArray.size]
          have hr0 : 0 < rr.size := by omega
          have hrI : (0 : Int) < (rr.size : Int) := by omega
          have hrc : rr[0] = c := by simp [hrr, ByteArray.getElem_eq_getElem_data]
          have hnil : (rr.toList == []) = false := by rw [hrl]; rfl
          have HAT : Hid (∀ (j : Nat) (h : j < rr.size), ∃ h2 : j < (c :: r).length, rr[j] = (c :: r)[j]) := fun j h => ⟨by simp; omega, by simp [hrr, ByteArray.getElem_eq_getElem_data]⟩
          rw [← hrr] at HLl ⊢
          clear hrr
          by_cases h48 : c = 48
          · have h48b : ((rr[0].toNat : Int) == 48) = true := by rw [hrc, h48]; rfl
            by_cases hr1 : r = []
            · have hone : (rr.toList == [48]) = true := by rw [hrl, hr1, h48]; rfl
              have HNe : Hid (number (rest t p) = .error 3) := by show number (rest t p) = _; rw [HN.out, numE, if_neg (by simp), if_pos ⟨h48, Or.inl rfl⟩]
              clear hrc hrl
              go_wp2_with fail
              exact bodyPost_ret (v := .tuple #[.agg #[.int .i64 (0 : Nat), .bool false, .int .i64 0, .string ⟨#[]⟩, .slice none 0 0, .slice none 0 0], .int .i64 3]) (by simp [results, Tryz.results40, go_sem, r0, r1, r2, r3, r4, r5, hne, hne3]) rfl ⟨((((((HG2.out).setNew (Nat.le_refl _) _).setNew (Nat.le_refl _) _).setNew (Nat.le_refl _) _).setNew (Nat.le_refl _) _).setNew (Nat.le_refl _) _).setNew (Nat.le_refl _) _, Or.inl ⟨3, HNe.out, by decide, rfl⟩⟩
            · have hone : (rr.toList == [48]) = false := by rw [hrl, beq_eq_false_iff_ne]; intro e; simp at e; exact hr1 e.2
              have HNe : Hid (number (rest t p) = .error 3) := by
                show number (rest t p) = _
                rw [HN.out, numE, if_neg (by simp), if_pos ⟨h48, Or.inr (by have := List.length_pos_iff.2 hr1; simp; omega)⟩]
              clear hrc hrl
              go_wp2_with fail
              exact bodyPost_ret (v := .tuple #[.agg #[.int .i64 (0 : Nat), .bool false, .int .i64 0, .string ⟨#[]⟩, .slice none 0 0, .slice none 0 0], .int .i64 3]) (by simp [results, Tryz.results40, go_sem, r0, r1, r2, r3, r4, r5, hne, hne3]) rfl ⟨((((((HG2.out).setNew (Nat.le_refl _) _).setNew (Nat.le_refl _) _).setNew (Nat.le_refl _) _).setNew (Nat.le_refl _) _).setNew (Nat.le_refl _) _).setNew (Nat.le_refl _) _, Or.inl ⟨3, HNe.out, by decide, rfl⟩⟩
          · have h48b : ((rr[0].toNat : Int) == 48) = false := by rw [hrc]; exact byte_ne h48
            have hone : (rr.toList == [48]) = false := by rw [hrl, beq_eq_false_iff_ne]; intro e; simp at e; exact h48 e.1
            by_cases h18 : 18 < (c :: r).length
            · have hbig : (18 : Int) < (rr.size : Int) := by simp at h18; omega
              have HNe : Hid (number (rest t p) = .error 2) := by show number (rest t p) = _; rw [HN.out, numE, if_neg (by simp), if_neg (fun h => h48 h.1), if_pos h18]
              clear hrc hrl
              go_wp2_with fail
              exact bodyPost_ret (v := .tuple #[.agg #[.int .i64 (0 : Nat), .bool false, .int .i64 0, .string ⟨#[]⟩, .slice none 0 0, .slice none 0 0], .int .i64 2]) (by simp [results, Tryz.results40, go_sem, r0, r1, r2, r3, r4, r5, hne, hne3]) rfl ⟨((((((HG2.out).setNew (Nat.le_refl _) _).setNew (Nat.le_refl _) _).setNew (Nat.le_refl _) _).setNew (Nat.le_refl _) _).setNew (Nat.le_refl _) _).setNew (Nat.le_refl _) _, Or.inl ⟨2, HNe.out, by decide, rfl⟩⟩
            · have hsm : ¬ (18 : Int) < (rr.size : Int) := by simp at h18; omega
              have h18' : (c :: r).length ≤ 18 := by omega
              have hsm' : ¬ (18 : Int) < (rr.size : Int) := by simp at h18'; omega
              have HNo : Hid (number (rest t p) = .ok (some (Sum.inr (Sum.inl (numVal true (c :: r)))), rest t q)) := by
                show number (rest t p) = _
                rw [HN.out, numE, if_neg (by simp), if_neg (fun h => h48 h.1), if_neg h18]
              have HRS : Hid (rr.size = (c :: r).length) := by show rr.size = _; rw [hrs]; rfl
              have H18 : Hid ((c :: r).length ≤ 18) := h18'
              clear hrc hrl hrs h18' h48 h18 hl HS hl0 hdig hnd HN HT
              go_wp2_with fail
              go_loopw [6, 108] (fun n i wr => ∃ j : Nat, j ≤ rr.size ∧ i = .int .i64 j ∧ n = .int .i64 (decV ((c :: r).take j)) ∧ wr = w1) (fun n i _ => rr.size - (intOf i).toNat)
              case atStart => exact ⟨0, by omega, by go_num, rfl, rfl⟩
              case round =>
                obtain ⟨j, hj, rfl, rfl, rfl⟩ := hrel
                by_cases hlt2 : j < rr.size
                · have hJ : (j : Int) < (rr.size : Int) := by omega
                  obtain ⟨hj2, hat⟩ := HAT.out j hlt2
                  have hdg : isDigit rr[j] = true := by rw [hat]; exact HD.out _ (List.getElem_mem _)
                  have hge := ((digit_iff _).1 hdg).1
                  have hle := ((digit_iff _).1 hdg).2
                  have hst : decV ((c :: r).take (j + 1)) = 10 * decV ((c :: r).take j) + (rr[j].toNat - 48) := by
                    rw [hat, List.take_succ_eq_append_getElem hj2]
                    unfold decV
                    rw [List.foldl_append]
                    rfl
                  have hb2 : decV ((c :: r).take (j + 1)) < 1000000000000000000 := by
                    have h1 := decV_lt ((c :: r).take (j + 1)) (fun x hx => HD.out x (List.mem_of_mem_take hx))
                    have h2 := H18.out
                    refine Nat.lt_of_lt_of_le h1 ?_
                    exact Nat.le_trans (Nat.pow_le_pow_right (by decide) (by rw [List.length_take]; omega)) (by decide : 10 ^ 18 ≤ 1000000000000000000)
                  have HST : Hid (Value.int .i64 (10 * ((decV ((c :: r).take j) : Nat) : Int) + ((rr[j].toNat : Int) - 48)) = Value.int .i64 ((decV ((c :: r).take (j + 1)) : Nat) : Int)) := by
                    show _ = _
                    refine congrArg _ ?_
                    omega
                  have hb3 : 10 * decV ((c :: r).take j) + (rr[j].toNat - 48) < 1000000000000000000 := by omega
                  clear hat hdg hst hb2
                  generalize hdd : decV ((c :: r).take j) = d1 at *
                  clear hdd
                  have hv1 : IntKind.i64.wrap (10 * (d1 : Int)) = 10 * (d1 : Int) := by rw [IntKind.wrap_i64]; omega
                  go_wp2_with fail
                  go_roundw
                  case rel => exact ⟨j + 1, by omega, by go_num, HST.out, trivial⟩
                  case measure => simp [intOf]; omega
                · have hJ : ¬ (j : Int) < (rr.size : Int) := by omega
                  have hall : (c :: r).take j = c :: r := List.take_of_length_le (by have := HRS.out; omega)
                  rw [hall]
                  have hb2 : decV (c :: r) < 1000000000000000000 := by
                    have h1 := decV_lt (c :: r) HD.out
                    exact Nat.lt_of_lt_of_le h1 (Nat.le_trans (Nat.pow_le_pow_right (by decide) H18.out) (by decide : 10 ^ 18 ≤ 1000000000000000000))
                  obtain ⟨d, hd9⟩ : ∃ d, decV (c :: r) = d := ⟨_, rfl⟩
                  have HNv : Hid (number (rest t p) = .ok (some (Sum.inr (Sum.inl (-(d : Int)))), rest t q)) := by
                    show number (rest t p) = _
                    rw [HNo.out, ← hd9]
                    rfl
                  rw [hd9] at hb2 ⊢
                  clear hall HNo hd9
                  go_wp2_with fail
                  exact bodyPost_ret (v := .tuple #[.agg #[.int .i64 (3 : Nat), .bool false, .int .i64 (-(d : Int)), .string ⟨#[]⟩, .slice none 0 0, .slice none 0 0], .int .i64 0]) (by simp [results, Tryz.results40, go_sem, r0, r1, r2, r3, r4, r5, hne, hne3]) rfl ⟨((((((HG2.out).setNew (Nat.le_refl _) _).setNew (Nat.le_refl _) _).setNew (Nat.le_refl _) _).setNew (Nat.le_refl _) _).setNew (Nat.le_refl _) _).setNew (Nat.le_refl _) _, Or.inr ⟨-(d : Int), q, hq, HNv.out, rfl, ((((((HR2.out).other hne _).other hne _).other hne _).other hne _).other hne _).other hne _⟩⟩
theorem rfnum_any (b : Nat) (t : ByteArray) (p k : Nat) (w : World) (h : Rf b t p k w) (hp : p < t.size) (ht : t.size ≤ 2000) :
    Calls Tryz.prog 40 #[.pointer (some ⟨b, 0, none⟩)] w (RNumPost b t p k w) := by
  by_cases h45 : t[p] = 45
  · exact rfnum_below b t p k w h hp ht h45
  · exact rfnum_plain b t p k w h hp ht h45
end Go.Proofs.YtaogilpkeeigoaaGreatDoor
