/- Several texts in one: Top, DocErr, PtrWay, Measure, PtrLead. -/
import Derived.Test.YthdgfehfoidnbabGreatDoorM07
import Derived.Test.YthdgfehfoidnbabGreatDoorM08
import Derived.Test.YthdgfehfoidnbabGreatDoorM03
import Derived.Test.YthdgfehfoidnbabGreatDoorM02
import Derived.Lib.AtoiErrMem
import Derived.Test.YthdgfehfoidnbabGreatDoorM04
/- Contracts over this translation of json.Read and Canon, at every text. -/
namespace Go.Proofs.YthdgfehfoidnbabGreatDoor
open Go.RowKit
set_option linter.unusedVariables false
set_option linter.unusedSimpArgs false
def ReadPost (s : Bs) (w : World) (e : Ending) (w' : World) : Prop :=
  Below w.heap.size w w' ∧ ((∃ er : Nat, read s = .error er ∧ er ≠ 0 ∧ er < 100 ∧ e = .returned (.tuple #[.nilIface, .int .i64 er])) ∨
    ∃ (j : J 10) (v : Value), read s = .ok j ∧ e = .returned (.tuple #[v, .int .i64 0]) ∧ (∃ T x, v = .iface T x) ∧ St (fun c => c < w.heap.size) w' 10 j v)
theorem rest_zero (t : ByteArray) : rest t 0 = t.data.toList := by simp [rest]
theorem data_len (t : ByteArray) : t.data.toList.length = t.size := by simp
set_option maxRecDepth 100000 in
set_option maxHeartbeats 2000000 in
theorem read_any (t : ByteArray) (w : World) (hs : t.size ≤ maxLen) :
    Calls Tryz.prog 17 #[.string t] w (ReadPost t.data.toList w) := by
  unfold maxLen at hs
  by_cases hbig : (2000 : Int) < (t.size : Int)
  · have HE : Hid (read t.data.toList = .error 2) := by
      show read t.data.toList = .error 2
      unfold read
      rw [if_pos (by rw [data_len]; omega)]
    go_enter Tryz.func17, Tryz.ntmps17
    go_wp2_with fail
    go_ret2
    exact ⟨Below.refl _ _, Or.inl ⟨2, HE.out, by decide, by decide, rfl⟩⟩
  have ht : t.size ≤ 2000 := by omega
  have HE : Hid (read t.data.toList = match value 10 0 (rest t 0) with
      | .error e => .error e
      | .ok (j, _, r) => if skip r = [] then .ok j else .error eSyntax) := by
    show read t.data.toList = _
    unfold read
    rw [if_neg (by rw [data_len]; omega), rest_zero]
    cases value 10 0 t.data.toList <;> rfl
  have HR : Hid (Rd w.heap.size t 0 0 (w.alloc (.cells #[.string t, .int .i64 0, .int .i64 0] 61))) := heap_alloc_new w _
  go_enter Tryz.func17, Tryz.ntmps17
  go_wp2_with fail
  refine (value_ok 10 w.heap.size t 0 0 0 _ HR.out (Nat.zero_le _) ht (by decide) (by decide) (by decide)).mono ?_
  rintro e w1 ⟨g1, h1⟩
  have HB1 : Hid (Below w.heap.size w w1) := below_of_new g1
  clear g1
  rcases h1 with ⟨er, v, hv, her, her2, rfl, hone⟩ | ⟨j, k', q, v, hv, hpq, hq, hkk, hk2, rfl, hone, hR, hst⟩
  · have HV : Hid (value 10 0 (rest t 0) = .error er) := hv
    have hbe : ((er : Int) != 0) = true := by rw [bne_iff_ne]; omega
    clear hv
    go_wp2_with fail
    go_ret2
    exact ⟨HB1.out, Or.inl ⟨er, by rw [HE.out, HV.out], her, her2, rfl⟩⟩
  · have HV : Hid (value 10 0 (rest t 0) = .ok (j, k', rest t q)) := hv
    have HR1 : Hid (Rd w.heap.size t q k' w1) := hR
    have HSt : Hid (St (fun c => c < w.heap.size + 1) w1 10 j v) := by show St (fun c => c < w.heap.size + 1) w1 10 j v; simpa using hst
    have HOne : Hid (∃ T x, v = .iface T x) := hone
    have HE2 : Hid (read t.data.toList = if skip (rest t q) = [] then .ok j else .error eSyntax) := by
      show read t.data.toList = _
      rw [HE.out, HV.out]
    clear hv hR hst hone
    go_wp2_with fail
    refine (skipBlanks_any w.heap.size t q k' _ HR1.out hq ht).mono ?_
    rintro e w2 ⟨rfl, g2, r2⟩
    have HB2 : Hid (Below w.heap.size w w2) := HB1.out.trans (below_of_G g2 HR1.out.lt)
    have HSt2 : Hid (St (fun c => c < w.heap.size) w2 10 j v) := ((HSt.out.grown g2 (fun k e => by cases e; show w.heap.size < w.heap.size + 1; omega)).mono (fun c _ hc => by show c < w.heap.size + 1; omega))
    have c1 := r2.place
    have hsl := skipAt_le t q
    have HSk : Hid (rest t (skipAt t q) = skip (rest t q)) := rest_skip t q hq
    clear g2 r2
    by_cases hend : skipAt t q < t.size
    · have hI : ((skipAt t q : Nat) : Int) < (t.size : Int) := by omega
      have HN : Hid (skip (rest t q) ≠ []) := by
        show skip (rest t q) ≠ []
        rw [← HSk.out, rest_cons hend]
        simp
      go_wp2_with fail
      go_ret2
      exact ⟨HB2.out, Or.inl ⟨3, by rw [HE2.out, if_neg HN.out], by decide, by decide, rfl⟩⟩
    · have hI : ¬ ((skipAt t q : Nat) : Int) < (t.size : Int) := by omega
      have HN : Hid (skip (rest t q) = []) := by
        show skip (rest t q) = []
        rw [← HSk.out, rest_nil (by omega)]
      go_wp2_with fail
      go_ret2
      exact ⟨HB2.out, Or.inr ⟨j, v, by rw [HE2.out, if_pos HN.out], rfl, HOne.out, HSt2.out⟩⟩
/-- what Canon answers -/
def canonE (s : Bs) : Array Value :=
  match read s with
  | .error e => #[.string ByteArray.empty, .int .i64 e]
  | .ok j => #[.string ⟨(tell 10 j).toArray⟩, .int .i64 0]
/-- what is known of Canon's answer -/
def CanonPost (s : Bs) (w : World) (e : Ending) (w' : World) : Prop := e = .returned (.tuple (canonE s)) ∧ Below w.heap.size w w'
set_option maxRecDepth 100000 in
set_option maxHeartbeats 2000000 in
theorem canon_any (t : ByteArray) (w : World) (hs : t.size ≤ maxLen) (hT : Tab w.heap.size w) :
    Calls Tryz.prog 22 #[.string t] w (CanonPost t.data.toList w) := by
  have HT : Hid (Tab w.heap.size w) := hT
  clear hT
  go_enter Tryz.func22, Tryz.ntmps22
  go_wp2_with fail
  refine (read_any t w hs).mono ?_
  rintro e w1 ⟨b1, h1⟩
  have HB1 : Hid (Below w.heap.size w w1) := b1
  clear b1
  rcases h1 with ⟨er, hr, her, her2, rfl⟩ | ⟨j, v, hr, rfl, hone, hst⟩
  · have HE : Hid (canonE t.data.toList = #[.string ByteArray.empty, .int .i64 er]) := by
      show canonE t.data.toList = _
      rw [canonE, hr]
    have hbe : ((er : Int) != 0) = true := by rw [bne_iff_ne]; omega
    clear hr
    go_wp2_with fail
    go_ret2
    exact ⟨by rw [HE.out]; rfl, HB1.out⟩
  · have HE : Hid (canonE t.data.toList = #[.string ⟨(tell 10 j).toArray⟩, .int .i64 0]) := by
      show canonE t.data.toList = _
      rw [canonE, hr]
    have hsh := read_short hr
    have hx := text_any 10 _ j v w1 hst (fit_of_good _ _ (read_good hr)) ((HT.out.below HB1.out).mono HB1.out.size) (by omega)
    have HX : Hid (Calls Tryz.prog 32 #[v] w1 fun e w' => e = .returned (.string ⟨(tell 10 j).toArray⟩) ∧ Below w1.heap.size w1 w') := hx
    clear hr hst hx hsh
    generalize (⟨(tell 10 j).toArray⟩ : ByteArray) = tx at *
    go_wp2_with fail
    refine Calls.mono HX.out ?_
    rintro e w2 ⟨rfl, b2⟩
    have HB2 : Hid (Below w.heap.size w w2) := HB1.out.trans (b2.mono HB1.out.size)
    clear b2
    go_wp2_with fail
    go_ret2
    exact ⟨by rw [HE.out]; rfl, HB2.out⟩
end Go.Proofs.YthdgfehfoidnbabGreatDoor
/- Plain facts on what goes wrong: no error is nothing; a document is never empty. -/
namespace Go.Proofs.YthdgfehfoidnbabGreatDoor
set_option linter.unusedVariables false
set_option linter.unusedSimpArgs false
theorem leafE_err {r : Bs} {e : Nat} (h : leafE r = .error e) : e = eSyntax ∨ e = eLarge := by
  unfold leafE at h
  split at h
  · unfold word at h; split at h <;> cases h; exact Or.inl rfl
  · split at h
    · unfold word at h; split at h <;> cases h; exact Or.inl rfl
    · split at h
      · unfold word at h; split at h <;> cases h; exact Or.inl rfl
      · split at h
        · unfold textE at h
          cases hq : quoted r with
          | none => rw [hq] at h; cases h; exact Or.inl rfl
          | some p => rw [hq] at h; cases h
        · unfold number at h
          simp only [] at h
          generalize (if (hd r == 45) = true then r.tail else r) = r1 at h
          split at h
          · cases h; exact Or.inl rfl
          · split at h
            · cases h; exact Or.inl rfl
            · split at h
              · cases h; exact Or.inr rfl
              · cases h
theorem beginE_vals (n k : Nat) (r : Bs) : beginE n k r = 0 ∨ beginE n k r = eSyntax ∨ beginE n k r = eLarge ∨ beginE n k r = eDeep := by
  unfold beginE
  split
  · exact Or.inr (Or.inl rfl)
  · split
    · exact Or.inr (Or.inr (Or.inl rfl))
    · split
      · exact Or.inr (Or.inr (Or.inr rfl))
      · exact Or.inl rfl
def IsErr (e : Nat) : Prop := e = eSyntax ∨ e = eLarge ∨ e = eDeep ∨ e = eTwice
theorem rowGo_err {σ : Type} {z : UInt8} {one : σ → Nat → Bs → Except Nat (σ × Nat × Bs)} (h : ∀ s k r e, one s k r = .error e → IsErr e) : ∀ (f : Nat) (s : σ) (k : Nat) (r : Bs) (e : Nat), rowGo z one f s k r = .error e → IsErr e
  | 0, s, k, r, e, he => by
    simp [rowGo] at he
    exact Or.inl he.symm
  | f + 1, s, k, r, e, he => by
    rw [rowGo] at he
    cases ho : one s k r with
    | error er => rw [ho] at he; cases he; exact h s k r e ho
    | ok p =>
      obtain ⟨s1, k1, r1⟩ := p
      rw [ho] at he
      simp only [] at he
      split at he
      · cases he
      · split at he
        · exact rowGo_err h f s1 k1 _ e he
        · cases he; exact Or.inl rfl
theorem row_err {σ : Type} {z : UInt8} {one : σ → Nat → Bs → Except Nat (σ × Nat × Bs)} (h : ∀ s k r e, one s k r = .error e → IsErr e) (s : σ) (k : Nat) (r : Bs) (e : Nat) (he : row z one s k r = .error e) : IsErr e := by
  unfold row at he
  split at he
  · cases he
  · exact rowGo_err h _ _ _ _ _ he
theorem value_isErr : ∀ (n : Nat) (k : Nat) (r : Bs) (e : Nat), value n k r = .error e → IsErr e
  | 0, k, r, e, h => by
    rw [value] at h
    split at h
    · rename_i h0
      cases h
      rcases beginE_vals 0 k (skip r) with h1 | h1 | h1 | h1
      · exact absurd h1 h0
      · exact Or.inl h1
      · exact Or.inr (Or.inl h1)
      · exact Or.inr (Or.inr (Or.inl h1))
    · unfold leafAt at h
      cases hl : leafE (skip r) with
      | error er =>
        rw [hl] at h
        cases h
        rcases leafE_err hl with h1 | h1
        · exact Or.inl h1
        · exact Or.inr (Or.inl h1)
      | ok p => rw [hl] at h; cases h
  | n + 1, k, r, e, h => by
    rw [value] at h
    split at h
    · rename_i h0
      cases h
      rcases beginE_vals (n + 1) k (skip r) with h1 | h1 | h1 | h1
      · exact absurd h1 h0
      · exact Or.inl h1
      · exact Or.inr (Or.inl h1)
      · exact Or.inr (Or.inr (Or.inl h1))
    · split at h
      · cases hr : row 93 (oneItem (value n)) [] (k + 1) (skip r) with
        | error er =>
          rw [hr] at h
          cases h
          refine row_err (one := oneItem (value n)) (fun s k r e ho => ?_) _ _ _ _ hr
          unfold oneItem at ho
          cases hv : value n k r with
          | error er => rw [hv] at ho; cases ho; exact value_isErr n k r e hv
          | ok p => rw [hv] at ho; cases ho
        | ok p => rw [hr] at h; cases h
      · split at h
        · cases hr : row 125 (oneField (value n)) [] (k + 1) (skip r) with
          | error er =>
            rw [hr] at h
            cases h
            refine row_err (one := oneField (value n)) (fun s k r e ho => ?_) _ _ _ _ hr
            unfold oneField at ho
            cases hn : nameE s r with
            | error er =>
              rw [hn] at ho
              cases ho
              unfold nameE at hn
              cases hq : quoted (skip r) with
              | none => rw [hq] at hn; cases hn; exact Or.inl rfl
              | some p =>
                rw [hq] at hn
                simp only [] at hn
                split at hn
                · cases hn; exact Or.inr (Or.inr (Or.inr rfl))
                · split at hn
                  · cases hn
                  · cases hn; exact Or.inl rfl
            | ok p =>
              obtain ⟨nm, r1⟩ := p
              rw [hn] at ho
              simp only [] at ho
              cases hv : value n k r1 with
              | error er => rw [hv] at ho; cases ho; exact value_isErr n k r1 e hv
              | ok p => rw [hv] at ho; cases ho
          | ok p => rw [hr] at h; cases h
        · unfold leafAt at h
          cases hl : leafE (skip r) with
          | error er =>
            rw [hl] at h
            cases h
            rcases leafE_err hl with h1 | h1
            · exact Or.inl h1
            · exact Or.inr (Or.inl h1)
          | ok p => rw [hl] at h; cases h
theorem read_isErr {s : Bs} {e : Nat} (h : read s = .error e) : IsErr e := by
  unfold read at h
  split at h
  · cases h; exact Or.inr (Or.inl rfl)
  · cases hv : value 10 0 s with
    | error er => rw [hv] at h; cases h; exact value_isErr _ _ _ _ hv
    | ok p =>
      obtain ⟨j1, k1, r1⟩ := p
      rw [hv] at h
      simp only [] at h
      split at h
      · cases h
      · cases h; exact Or.inl rfl
theorem read_err {s : Bs} {e : Nat} (h : read s = .error e) : e ≠ 0 := by
  rcases read_isErr h with rfl | rfl | rfl | rfl <;> decide
theorem dec_ne (u : Nat) : Lib.decDigits u ≠ [] := by
  rw [Lib.decDigits]
  split <;> simp
theorem tellLeaf_ne (l : Leaf) : tellLeaf l ≠ [] := by
  match l with
  | none => simp [tellLeaf, nullB]
  | some (Sum.inl true) => simp [tellLeaf, trueB]
  | some (Sum.inl false) => simp [tellLeaf, falseB]
  | some (Sum.inr (Sum.inl i)) =>
    show Lib.itoa i ≠ []
    unfold Lib.itoa
    split
    · simp
    · exact dec_ne _
  | some (Sum.inr (Sum.inr s)) => simp [tellLeaf, quote]
theorem tell_ne : ∀ (n : Nat) (j : J n), tell n j ≠ []
  | 0, j => tellLeaf_ne j
  | _ + 1, Sum.inl l => tellLeaf_ne l
  | _ + 1, Sum.inr (Sum.inl xs) => List.cons_ne_nil _ _
  | _ + 1, Sum.inr (Sum.inr fs) => List.cons_ne_nil _ _
end Go.Proofs.YthdgfehfoidnbabGreatDoor
/- Contracts over this translation: which place a step is, what a step leads to, what several lead to. -/
namespace Go.Proofs.YthdgfehfoidnbabGreatDoor
open Go.RowKit
set_option linter.unusedVariables false
set_option linter.unusedSimpArgs false
/-- the library's two errors are some errors, or none -/
def Errs (w : World) : Prop := ∃ e1 e2 : Value, (1 < w.heap.size ∧ w.cell? ⟨1, 0, none⟩ = some e1 ∧ (e1 = .nilIface ∨ ∃ te pe, e1 = .iface te pe)) ∧
  2 < w.heap.size ∧ w.cell? ⟨2, 0, none⟩ = some e2 ∧ (e2 = .nilIface ∨ ∃ te pe, e2 = .iface te pe)
/-- what stands of the library's variables -/
structure Env (w : World) : Prop where
  room : Room w
  errs : Errs w
  tab : Tab w.heap.size w
theorem Env.below {w w' : World} (h : Env w) (hb : Below w.heap.size w w') : Env w' := by
  obtain ⟨e1, e2, ⟨a1, a2, a3⟩, b1, b2, b3⟩ := h.errs
  have hs := hb.size
  exact ⟨h.room.below hb, ⟨e1, e2, ⟨by omega, by rw [hb.cell (p := ⟨1, 0, none⟩) a1]; exact a2, a3⟩, by omega, by rw [hb.cell (p := ⟨2, 0, none⟩) b1]; exact b2, b3⟩, (h.tab.below hb).mono hs⟩
theorem bytes_below {w w' : World} {e : TypeId} (h : w' = w ∨ ∃ t, w' = Lib.bytesWorld w e t) : Below w.heap.size w w' := by
  rcases h with rfl | ⟨t, rfl⟩
  · exact Below.refl _ _
  · exact Lib.bytesWorld_below _ _ _
theorem grow_below (w : World) (q : Nat) (os : Array Obj) : Below w.heap.size w (Sort.grow (w.drewN q) os) :=
  ⟨rfl, rfl, rfl, by simp [Sort.grow, World.drewN], fun k hk => by simp [Sort.grow, World.drewN, Array.getElem?_append, hk]⟩
/-- what is known of the answer on a place -/
def PlacePost (s : Bs) (w : World) (e : Ending) (w' : World) : Prop :=
  Below w.heap.size w w' ∧ ((∃ i : Nat, placeP s = some i ∧ (i : Int) ≤ 9223372036854775807 ∧ e = .returned (.tuple #[.int .i64 i, .bool true])) ∨ ∃ n : Int, placeP s = none ∧ e = .returned (.tuple #[.int .i64 n, .bool false]))
set_option maxRecDepth 100000 in
set_option maxHeartbeats 2000000 in
theorem place_any (s : ByteArray) (w : World) (hs : s.size ≤ 8000000) (hE : Env w) :
    Calls Tryz.prog 40 #[.string s] w (PlacePost s.data.toList w) := by
  cases hat : Lib.atoiAll s.data.toList with
  | ok v =>
    have hA := Tryz.strconv_Atoi_ok s (by omega) v hat w
    have HA : Hid (Calls Tryz.prog 61 #[.string s] w fun e w' => e = .returned (.tuple #[.int .i64 v, .nilIface]) ∧ Below w.heap.size w w') := by
      refine hA.mono ?_
      rintro e w1 ⟨rfl, h1⟩
      exact ⟨rfl, bytes_below h1⟩
    obtain ⟨hv1, hv2⟩ := Lib.atoiAll_bounds hat
    have HP : Hid (placeP s.data.toList = if 0 ≤ v ∧ Lib.itoa v = s.data.toList then some v.toNat else none) := by
      show placeP _ = _
      unfold placeP
      rw [hat]
    clear hA hat
    by_cases h0 : 0 ≤ v
    · have HI : Hid (∀ w1, Below w.heap.size w w1 → Calls Tryz.prog 62 #[.int .i64 v] w1 fun e w' => e = .returned (.string ⟨(Lib.itoa v).toArray⟩) ∧ Below w1.heap.size w1 w') := by
        intro w1 hb
        refine (Tryz.strconv_Itoa v hv1 hv2 w1 (hE.below hb).tab.here).mono ?_
        rintro e w2 ⟨rfl, k, os, rfl⟩
        exact ⟨rfl, grow_below _ _ _⟩
      have HEq : Hid (((⟨(Lib.itoa v).toArray⟩ : ByteArray).toList == s.toList) = decide (Lib.itoa v = s.data.toList)) := by
        show _ = _
        rw [ByteArray.toList_eq, ByteArray.toList_eq, Bool.eq_iff_iff, beq_iff_eq, decide_eq_true_iff]
      by_cases he : Lib.itoa v = s.data.toList
      · have HX : Hid (placeP s.data.toList = some v.toNat) := by
          show _ = _
          rw [HP.out, if_pos ⟨h0, he⟩]
        have hq : (((⟨(Lib.itoa v).toArray⟩ : ByteArray).toList == s.toList)) = true := by rw [HEq.out]; exact decide_eq_true he
        clear he
        generalize (⟨(Lib.itoa v).toArray⟩ : ByteArray) = y at *
        go_enter Tryz.func40, Tryz.ntmps40
        go_wp2_with fail
        refine Calls.mono HA.out ?_
        rintro e w1 ⟨rfl, b1⟩
        have HB1 : Hid (Below w.heap.size w w1) := b1
        clear b1
        go_wp2_with fail
        refine Calls.mono (HI.out w1 HB1.out) ?_
        rintro e w2 ⟨rfl, b2⟩
        have HB2 : Hid (Below w.heap.size w w2) := HB1.out.trans (b2.mono HB1.out.size)
        clear b2
        go_wp2_with fail
        go_ret2
        refine ⟨HB2.out, Or.inl ⟨v.toNat, HX.out, by omega, ?_⟩⟩
        rw [Int.toNat_of_nonneg h0]
        rfl
      · have HX : Hid (placeP s.data.toList = none) := by
          show _ = _
          rw [HP.out, if_neg (fun h => he h.2)]
        have hq : (((⟨(Lib.itoa v).toArray⟩ : ByteArray).toList == s.toList)) = false := by rw [HEq.out]; exact decide_eq_false he
        clear he
        generalize (⟨(Lib.itoa v).toArray⟩ : ByteArray) = y at *
        go_enter Tryz.func40, Tryz.ntmps40
        go_wp2_with fail
        refine Calls.mono HA.out ?_
        rintro e w1 ⟨rfl, b1⟩
        have HB1 : Hid (Below w.heap.size w w1) := b1
        clear b1
        go_wp2_with fail
        refine Calls.mono (HI.out w1 HB1.out) ?_
        rintro e w2 ⟨rfl, b2⟩
        have HB2 : Hid (Below w.heap.size w w2) := HB1.out.trans (b2.mono HB1.out.size)
        clear b2
        go_wp2_with fail
        go_ret2
        exact ⟨HB2.out, Or.inr ⟨_, HX.out, rfl⟩⟩
    · have HX : Hid (placeP s.data.toList = none) := by
        show _ = _
        rw [HP.out, if_neg (fun h => h0 h.1)]
      have hd0 : decide (0 ≤ v) = false := decide_eq_false h0
      clear h0
      go_enter Tryz.func40, Tryz.ntmps40
      go_wp2_with fail
      refine Calls.mono HA.out ?_
      rintro e w1 ⟨rfl, b1⟩
      have HB1 : Hid (Below w.heap.size w w1) := b1
      clear b1
      go_wp2_with fail
      go_ret2
      exact ⟨HB1.out, Or.inr ⟨_, HX.out, rfl⟩⟩
  | «syntax» =>
    obtain ⟨e1, e2, ⟨a1, a2, a3⟩, b1, b2, b3⟩ := hE.errs
    have hA := Tryz.strconv_Atoi_syntax s (by omega) hat e1 w a2 a3
    have HA : Hid (Calls Tryz.prog 61 #[.string s] w fun e w' => ∃ T x n, e = .returned (.tuple #[.int .i64 n, .iface T x]) ∧ Below w.heap.size w w') := by
      refine hA.mono ?_
      rintro e w1 ⟨N, rfl, _, _, h1⟩
      exact ⟨_, _, _, rfl, h1⟩
    have HX : Hid (placeP s.data.toList = none) := by
      show placeP _ = _
      unfold placeP
      rw [hat]
    clear hA hat a1 a2 a3 b1 b2 b3
    go_enter Tryz.func40, Tryz.ntmps40
    go_wp2_with fail
    refine Calls.mono HA.out ?_
    rintro e w1 ⟨T, x, n, rfl, b1⟩
    have HB1 : Hid (Below w.heap.size w w1) := b1
    clear b1
    go_wp2_with fail
    go_ret2
    exact ⟨HB1.out, Or.inr ⟨_, HX.out, rfl⟩⟩
  | range =>
    obtain ⟨e1, e2, ⟨a1, a2, a3⟩, b1, b2, b3⟩ := hE.errs
    have hA := Tryz.strconv_Atoi_range s (by omega) hat e2 w b2 b3
    have HA : Hid (Calls Tryz.prog 61 #[.string s] w fun e w' => ∃ T x n, e = .returned (.tuple #[.int .i64 n, .iface T x]) ∧ Below w.heap.size w w') := by
      refine hA.mono ?_
      rintro e w1 ⟨N, rfl, _, _, h1⟩
      exact ⟨_, _, _, rfl, h1⟩
    have HX : Hid (placeP s.data.toList = none) := by
      show placeP _ = _
      unfold placeP
      rw [hat]
    clear hA hat a1 a2 a3 b1 b2 b3
    go_enter Tryz.func40, Tryz.ntmps40
    go_wp2_with fail
    refine Calls.mono HA.out ?_
    rintro e w1 ⟨T, x, n, rfl, b1⟩
    have HB1 : Hid (Below w.heap.size w w1) := b1
    clear b1
    go_wp2_with fail
    go_ret2
    exact ⟨HB1.out, Or.inr ⟨_, HX.out, rfl⟩⟩
end Go.Proofs.YthdgfehfoidnbabGreatDoor
/- Contracts over this translation: how many values there are, and how deep they lie. -/
namespace Go.Proofs.YthdgfehfoidnbabGreatDoor
open Go.RowKit
set_option linter.unusedVariables false
set_option linter.unusedSimpArgs false
def sizeC (a b : Nat) : Array Value := #[.int .i64 (a : Int), .int .i64 (b : Int)]
set_option maxRecDepth 100000 in
set_option maxHeartbeats 2000000 in
theorem hold_any (zb a b c d : Nat) (w : World) (hz : w.heap[zb]? = some (.cells #[.int .i64 a, .int .i64 b] 54 (0, 0))) (ha : a ≤ 1000000) (hb : b ≤ 1000000) (hc : c ≤ 1000000) (hd' : d ≤ 1000000) :
    Calls Tryz.prog 43 #[.pointer (some ⟨zb, 0, none⟩), .agg #[.int .i64 c, .int .i64 d]] w fun e w' => e = .returned (.tuple #[]) ∧ w.grownBy w' (some zb) ∧ w'.heap[zb]? = some (.cells #[.int .i64 ((a + c : Nat) : Int), .int .i64 ((max b (d + 1) : Nat) : Int)] 54 (0, 0)) := by
  have hzw := lt_of_block hz
  have hza : (w.alloc (.cells #[.int .i64 c, .int .i64 d] 54)).heap[zb]? = some (.cells #[.int .i64 a, .int .i64 b] 54 (0, 0)) := (Below.heap_alloc w _ zb hzw).trans hz
  have hxa : (w.alloc (.cells #[.int .i64 c, .int .i64 d] 54)).heap[w.heap.size]? = some (.cells #[.int .i64 c, .int .i64 d] 54 (0, 0)) := heap_alloc_new w _
  have z0 : (w.alloc (.cells #[.int .i64 c, .int .i64 d] 54)).cell? ⟨zb, 0, none⟩ = some (.int .i64 a) := by rw [cell_of_row _ _ _ _ _ _ hza]; rfl
  have z1 : (w.alloc (.cells #[.int .i64 c, .int .i64 d] 54)).cell? ⟨zb, 1, none⟩ = some (.int .i64 b) := by rw [cell_of_row _ _ _ _ _ _ hza]; rfl
  have x0 : (w.alloc (.cells #[.int .i64 c, .int .i64 d] 54)).cell? ⟨w.heap.size, 0, none⟩ = some (.int .i64 c) := by rw [cell_of_row _ _ _ _ _ _ hxa]; rfl
  have x1 : (w.alloc (.cells #[.int .i64 c, .int .i64 d] 54)).cell? ⟨w.heap.size, 1, none⟩ = some (.int .i64 d) := by rw [cell_of_row _ _ _ _ _ _ hxa]; rfl
  have f0 : ∀ j, (w.alloc (.cells #[.int .i64 c, .int .i64 d] 54)).frozen? ⟨zb, j, none⟩ = false := fun j => frozen_of_row _ _ _ _ _ hza
  have f00 := f0 0
  have f01 := f0 1
  have hne : zb ≠ w.heap.size := by omega
  clear hz hxa f0
  have HZ : Hid ((w.alloc (.cells #[.int .i64 c, .int .i64 d] 54)).heap[zb]? = some (.cells #[.int .i64 a, .int .i64 b] 54 (0, 0))) := hza
  have HGr : Hid (w.grownBy (w.alloc (.cells #[.int .i64 c, .int .i64 d] 54)) (some zb)) := World.grownBy_alloc w _ _
  clear hza
  go_enter Tryz.func43, Tryz.ntmps43
  go_wp2
  generalize w.alloc (.cells #[.int .i64 c, .int .i64 d] 54) = wa at *
  go_region
  go_wp2
  go_region
  go_wp2
  go_end0
  refine ⟨rfl, (((show G zb w wa from HGr.out).setCell 0 _).setCell 1 _).drew.drew, ?_⟩
  have h1 := heap_setCell_same wa zb 0 _ _ (.int .i64 ((a : Int) + (c : Int))) HZ.out
  have h2 := heap_setCell_same _ zb 1 _ _ (.int .i64 (max (b : Int) ((d : Int) + 1))) h1
  have e1 : ((a + c : Nat) : Int) = (a : Int) + (c : Int) := by omega
  have e2 : ((max b (d + 1) : Nat) : Int) = max (b : Int) ((d : Int) + 1) := by omega
  rw [e1, e2]
  exact h2
/-- how many values, and how deep: at every value of depth n -/
def MeasureOK (n : Nat) : Prop := ∀ (av : Nat → Prop) (j : J n) (x : Value) (w : World), St av w n j x → nodes n j ≤ 100000 → depth n j ≤ 100000 →
  Calls Tryz.prog 29 #[x] w fun e w' => e = .returned (.agg #[.int .i64 (nodes n j), .int .i64 (depth n j)]) ∧ Below w.heap.size w w'
theorem nodes_pos : ∀ (n : Nat) (j : J n), 1 ≤ nodes n j
  | 0, _ => Nat.le_refl _
  | _ + 1, Sum.inl _ => Nat.le_refl _
  | _ + 1, Sum.inr (Sum.inl _) => Nat.le_add_right _ _
  | _ + 1, Sum.inr (Sum.inr _) => Nat.le_add_right _ _
theorem sum_ge : ∀ (l : List Nat), (∀ y ∈ l, 1 ≤ y) → l.length ≤ l.sum
  | [], _ => Nat.le_refl _
  | y :: l, h => by
    have := sum_ge l (fun z hz => h z (by simp [hz]))
    have := h y (by simp)
    simp only [List.length_cons, List.sum_cons]
    omega
theorem maxOf_snoc : ∀ (l : List Nat) (y : Nat), maxOf (l ++ [y]) = max (maxOf l) y
  | [], y => by simp [maxOf]
  | x :: l, y => by
    have := maxOf_snoc l y
    simp only [List.cons_append, maxOf, this]
    omega
theorem take_sum_le : ∀ (l : List Nat) (k : Nat), (l.take k).sum ≤ l.sum
  | [], k => by simp
  | x :: l, 0 => by simp
  | x :: l, k + 1 => by
    have := take_sum_le l k
    simp only [List.take_succ_cons, List.sum_cons]
    omega
theorem take_max_le : ∀ (l : List Nat) (k : Nat), maxOf (l.take k) ≤ maxOf l
  | [], k => by simp
  | x :: l, 0 => by simp [maxOf]
  | x :: l, k + 1 => by
    have := take_max_le l k
    simp only [List.take_succ_cons, maxOf]
    omega
set_option maxRecDepth 100000 in
set_option maxHeartbeats 1000000 in
theorem measure_leaf (l : Leaf) (w : World) :
    Calls Tryz.prog 29 #[leafV l] w fun e w' => e = .returned (.agg #[.int .i64 1, .int .i64 0]) ∧ Below w.heap.size w w' := by
  match l with
  | none =>
    obtain ⟨a1, a2, a3, a4, a5, a6⟩ := tas_Null
    unfold leafV
    go_enter Tryz.func29, Tryz.ntmps29
    go_wp2_with fail
    exact bodyPost_ret (v := .agg #[.int .i64 1, .int .i64 0]) (by simp [results, Tryz.results29, go_sem]) rfl ⟨rfl, (Below.refl _ _).alloc (Nat.le_refl _) _⟩
  | some (Sum.inl b) =>
    obtain ⟨a1, a2, a3, a4, a5, a6⟩ := tas_Bool
    unfold leafV
    go_enter Tryz.func29, Tryz.ntmps29
    go_wp2_with fail
    exact bodyPost_ret (v := .agg #[.int .i64 1, .int .i64 0]) (by simp [results, Tryz.results29, go_sem]) rfl ⟨rfl, (Below.refl _ _).alloc (Nat.le_refl _) _⟩
  | some (Sum.inr (Sum.inl i)) =>
    obtain ⟨a1, a2, a3, a4, a5, a6⟩ := tas_Number
    unfold leafV
    go_enter Tryz.func29, Tryz.ntmps29
    go_wp2_with fail
    exact bodyPost_ret (v := .agg #[.int .i64 1, .int .i64 0]) (by simp [results, Tryz.results29, go_sem]) rfl ⟨rfl, (Below.refl _ _).alloc (Nat.le_refl _) _⟩
  | some (Sum.inr (Sum.inr s)) =>
    obtain ⟨a1, a2, a3, a4, a5, a6⟩ := tas_Text
    unfold leafV
    go_enter Tryz.func29, Tryz.ntmps29
    go_wp2_with fail
    exact bodyPost_ret (v := .agg #[.int .i64 1, .int .i64 0]) (by simp [results, Tryz.results29, go_sem]) rfl ⟨rfl, (Below.refl _ _).alloc (Nat.le_refl _) _⟩
set_option maxRecDepth 100000 in
set_option maxHeartbeats 4000000 in
theorem measure_list (n : Nat) (hM : MeasureOK n) (av : Nat → Prop) (xs : List (J n)) (x : Value) (w : World) (hSt : St av w (n + 1) (Sum.inr (Sum.inl xs)) x) (hN : nodes (n + 1) (Sum.inr (Sum.inl xs)) ≤ 100000) (hD : depth (n + 1) (Sum.inr (Sum.inl xs)) ≤ 100000) :
    Calls Tryz.prog 29 #[x] w fun e w' => e = .returned (.agg #[.int .i64 (nodes (n + 1) (Sum.inr (Sum.inl xs))), .int .i64 (depth (n + 1) (Sum.inr (Sum.inl xs)))]) ∧ Below w.heap.size w w' := by
  have en : nodes (n + 1) (Sum.inr (Sum.inl xs)) = 1 + (xs.map (nodes n)).sum := rfl
  have ed : depth (n + 1) (Sum.inr (Sum.inl xs)) = 1 + maxOf (xs.map (depth n)) := rfl
  rw [en] at hN ⊢
  rw [ed] at hD ⊢
  obtain ⟨p, g, cap, vs, rfl, hpp, hvl, hlc, hcm, hcell, hel⟩ := hSt.list
  unfold maxLen at hcm
  have hlen : xs.length ≤ 100000 := by
    have h := sum_ge (xs.map (nodes n)) (fun y hy => by
      obtain ⟨z, _, rfl⟩ := List.mem_map.1 hy
      exact nodes_pos _ _)
    rw [List.length_map] at h
    omega
  have HEl : Hid (∀ w1, Below w.heap.size w w1 → ∀ k (hk : k < xs.length), ∃ u, w1.cell? ⟨g, k, none⟩ = some u ∧ St (fun c => w.heap.size ≤ c) w1 n xs[k] u) := by
    intro w1 hb k hk
    have hu : vs[k]? = some (vs[k]'(by omega)) := List.getElem?_eq_getElem (by omega)
    refine ⟨_, by rw [hb.cell (p := ⟨g, k, none⟩) (hpp k hk).2.2]; exact hcell k _ hu, ?_⟩
    exact (((hel k xs[k] _ (List.getElem?_eq_getElem hk) hu).wide (fun c hc => Or.inr hc) : St (fun c => w.heap.size ≤ c) w n xs[k] _)).step hb.size (fun c hc _ => hb.block c hc)
  have HTk : Hid (∀ k (hk : k < xs.length), ((xs.map (nodes n)).take (k + 1)).sum = ((xs.map (nodes n)).take k).sum + nodes n xs[k] ∧ maxOf ((xs.map (depth n)).take (k + 1)) = max (maxOf ((xs.map (depth n)).take k)) (depth n xs[k])) := fun k hk => by
    constructor
    · rw [List.take_succ_eq_append_getElem (by simpa using hk), List.sum_append]
      simp
    · rw [List.take_succ_eq_append_getElem (by simpa using hk), maxOf_snoc]
      simp
  have HLe : Hid (∀ k, ((xs.map (nodes n)).take k).sum ≤ (xs.map (nodes n)).sum ∧ maxOf ((xs.map (depth n)).take k) ≤ maxOf (xs.map (depth n))) := fun k => ⟨take_sum_le _ k, take_max_le _ k⟩
  have HAll : Hid (∀ k, xs.length ≤ k → ((xs.map (nodes n)).take k).sum = (xs.map (nodes n)).sum ∧ maxOf ((xs.map (depth n)).take k) = maxOf (xs.map (depth n))) := fun k hk => by
    rw [List.take_of_length_le (by simpa using hk), List.take_of_length_le (by simpa using hk)]
    exact ⟨rfl, rfl⟩
  generalize xs.map (nodes n) = ns at *
  generalize xs.map (depth n) = ds at *
  have HM : Hid (MeasureOK n) := hM
  obtain ⟨a1, a2, a3, a4, a5, a6⟩ := tas_List
  have HPp : Hid (∀ k, k < xs.length → p = some ⟨g, 0, none⟩) := fun k hk => (hpp k hk).1
  clear hcell hel hM en ed hpp
  have HZ0 : Hid (((w.alloc (.cells #[.int .i64 0, .int .i64 0] 54)).alloc (.cells #[.int .i64 1, .int .i64 1] 54)).heap[w.heap.size + 1]? = some (.cells #[.int .i64 1, .int .i64 1] 54 (0, 0))) := by
    have h0 := heap_alloc_new (w.alloc (.cells #[.int .i64 0, .int .i64 0] 54)) (.cells #[.int .i64 1, .int .i64 1] 54)
    have e0 : (w.alloc (.cells #[.int .i64 0, .int .i64 0] 54)).heap.size = w.heap.size + 1 := by simp
    rw [e0] at h0
    exact h0
  have HZr : Hid (((w.alloc (.cells #[.int .i64 0, .int .i64 0] 54)).alloc (.cells #[.int .i64 1, .int .i64 1] 54)).heap[w.heap.size]? = some (.cells #[.int .i64 0, .int .i64 0] 54 (0, 0))) := by
    show ((w.alloc (.cells #[.int .i64 0, .int .i64 0] 54)).alloc (.cells #[.int .i64 1, .int .i64 1] 54)).heap[w.heap.size]? = _
    rw [Below.heap_alloc _ _ _ (by simp)]
    exact heap_alloc_new w _
  have HB0 : Hid (Below w.heap.size w ((w.alloc (.cells #[.int .i64 0, .int .i64 0] 54)).alloc (.cells #[.int .i64 1, .int .i64 1] 54))) := ((Below.refl _ w).alloc (Nat.le_refl _) _).alloc (by simp) _
  go_enter Tryz.func29, Tryz.ntmps29
  go_wp2_with fail
  go_loopw [18] (fun i wr => ∃ k : Nat, k ≤ xs.length ∧ i = .int .i64 k ∧ wr.heap[w.heap.size + 1]? = some (.cells #[.int .i64 ((1 + (ns.take k).sum : Nat) : Int), .int .i64 ((1 + maxOf (ds.take k) : Nat) : Int)] 54 (0, 0)) ∧ wr.heap[w.heap.size]? = some (.cells #[.int .i64 0, .int .i64 0] 54 (0, 0)) ∧ Below w.heap.size w wr) (fun i _ => xs.length - (intOf i).toNat)
  case atStart => exact ⟨0, Nat.zero_le _, rfl, HZ0.out, HZr.out, HB0.out⟩
  case round =>
    obtain ⟨k, hk, rfl, hz, hrb, hbel⟩ := hrel
    have HZ : Hid (wr.heap[w.heap.size + 1]? = some (.cells #[.int .i64 ((1 + (ns.take k).sum : Nat) : Int), .int .i64 ((1 + maxOf (ds.take k) : Nat) : Int)] 54 (0, 0))) := hz
    have HRb : Hid (wr.heap[w.heap.size]? = some (.cells #[.int .i64 0, .int .i64 0] 54 (0, 0))) := hrb
    have HB : Hid (Below w.heap.size w wr) := hbel
    have hle := HLe.out k
    have hzw := lt_of_block hz
    clear hz hrb hbel
    by_cases hlt : k < xs.length
    · have hpe := HPp.out k hlt
      subst hpe
      obtain ⟨u, hcu, hst⟩ := HEl.out wr HB.out k hlt
      have HSt : Hid (St (fun c => w.heap.size ≤ c) wr n xs[k] u) := hst
      have hle2 := HLe.out (k + 1)
      have htk := HTk.out k hlt
      have hnk : nodes n xs[k] ≤ 100000 := by omega
      have hdk : depth n xs[k] ≤ 100000 := by omega
      have HTK : Hid ((ns.take (k + 1)).sum = (ns.take k).sum + nodes n xs[k] ∧ maxOf (ds.take (k + 1)) = max (maxOf (ds.take k)) (depth n xs[k])) := htk
      clear hst htk
      go_wp2_with fail
      refine (HM.out _ xs[k] u wr HSt.out hnk hdk).mono ?_
      rintro e w1 ⟨rfl, b1⟩
      have hz1 : w1.heap[w.heap.size + 1]? = some (.cells #[.int .i64 ((1 + (ns.take k).sum : Nat) : Int), .int .i64 ((1 + maxOf (ds.take k) : Nat) : Int)] 54 (0, 0)) := (b1.block _ (lt_of_block HZ.out)).trans HZ.out
      have HZ1 : Hid (w1.heap[w.heap.size + 1]? = some (.cells #[.int .i64 ((1 + (ns.take k).sum : Nat) : Int), .int .i64 ((1 + maxOf (ds.take k) : Nat) : Int)] 54 (0, 0))) := hz1
      have HR1 : Hid (w1.heap[w.heap.size]? = some (.cells #[.int .i64 0, .int .i64 0] 54 (0, 0))) := (b1.block _ (lt_of_block HRb.out)).trans HRb.out
      have HB1 : Hid (Below w.heap.size w w1) := HB.out.trans (b1.mono HB.out.size)
      clear b1 hz1
      go_wp2_with fail
      refine (hold_any (w.heap.size + 1) (1 + (ns.take k).sum) (1 + maxOf (ds.take k)) (nodes n xs[k]) (depth n xs[k]) w1 HZ1.out (by omega) (by omega) (by omega) (by omega)).mono ?_
      rintro e w2 ⟨rfl, g2, z2⟩
      have HZ2 : Hid (w2.heap[w.heap.size + 1]? = some (.cells #[.int .i64 ((1 + (ns.take (k + 1)).sum : Nat) : Int), .int .i64 ((1 + maxOf (ds.take (k + 1)) : Nat) : Int)] 54 (0, 0))) := by
        show w2.heap[w.heap.size + 1]? = _
        have e1 : 1 + (ns.take (k + 1)).sum = 1 + (ns.take k).sum + nodes n xs[k] := by rw [HTK.out.1]; omega
        have e2 : 1 + maxOf (ds.take (k + 1)) = max (1 + maxOf (ds.take k)) (depth n xs[k] + 1) := by rw [HTK.out.2]; omega
        rw [e1, e2]
        exact z2
      have HR2 : Hid (w2.heap[w.heap.size]? = some (.cells #[.int .i64 0, .int .i64 0] 54 (0, 0))) := (g2.block _ (lt_of_block HR1.out) (fun e => by simp at e)).trans HR1.out
      have HB2 : Hid (Below w.heap.size w w2) := HB1.out.grown g2 HB1.out.size (fun k e => by cases e; omega)
      clear g2 z2
      go_wp2_with fail
      go_roundw
      case rel => exact ⟨k + 1, by omega, by go_num, HZ2.out, HR2.out, HB2.out⟩
      case measure => simp [intOf]; omega
    · have hall := HAll.out k (by omega)
      have HA : Hid ((ns.take k).sum = ns.sum ∧ maxOf (ds.take k) = maxOf ds) := hall
      have hz : wr.heap[w.heap.size + 1]? = some (.cells #[.int .i64 ((1 + ns.sum : Nat) : Int), .int .i64 ((1 + maxOf ds : Nat) : Int)] 54 (0, 0)) := by
        have := HZ.out
        rw [hall.1, hall.2] at this
        exact this
      have z0 : wr.cell? ⟨w.heap.size + 1, 0, none⟩ = some (.int .i64 ((1 + ns.sum : Nat) : Int)) := by rw [cell_of_row _ _ _ _ _ _ hz]; rfl
      have z1 : wr.cell? ⟨w.heap.size + 1, 1, none⟩ = some (.int .i64 ((1 + maxOf ds : Nat) : Int)) := by rw [cell_of_row _ _ _ _ _ _ hz]; rfl
      have r0 : wr.cell? ⟨w.heap.size, 0, none⟩ = some (.int .i64 0) := by rw [cell_of_row _ _ _ _ _ _ HRb.out]; rfl
      have r1 : wr.cell? ⟨w.heap.size, 1, none⟩ = some (.int .i64 0) := by rw [cell_of_row _ _ _ _ _ _ HRb.out]; rfl
      have f0 : wr.frozen? ⟨w.heap.size, 0, none⟩ = false := frozen_of_row _ _ _ _ _ HRb.out
      have f1 : wr.frozen? ⟨w.heap.size, 1, none⟩ = false := frozen_of_row _ _ _ _ _ HRb.out
      clear hall hz
      obtain ⟨A, hA⟩ : ∃ A : Int, A = ((1 + ns.sum : Nat) : Int) := ⟨_, rfl⟩
      obtain ⟨B, hB⟩ : ∃ B : Int, B = ((1 + maxOf ds : Nat) : Int) := ⟨_, rfl⟩
      rw [← hA] at z0
      rw [← hB] at z1
      have HAB : Hid (A = ((1 + ns.sum : Nat) : Int) ∧ B = ((1 + maxOf ds : Nat) : Int)) := ⟨hA, hB⟩
      clear hA hB
      go_wp2_with fail
      exact bodyPost_ret (v := .agg #[.int .i64 A, .int .i64 B]) (by simp [results, Tryz.results29, go_sem, r0, r1]) rfl ⟨by rw [HAB.out.1, HAB.out.2], (HB.out.setCell (Nat.le_refl _) _).setCell (Nat.le_refl _) _⟩
set_option maxRecDepth 100000 in
set_option maxHeartbeats 4000000 in
theorem measure_object (n : Nat) (hM : MeasureOK n) (av : Nat → Prop) (fs : List (Bs × J n)) (x : Value) (w : World) (hSt : St av w (n + 1) (Sum.inr (Sum.inr fs)) x) (hN : nodes (n + 1) (Sum.inr (Sum.inr fs)) ≤ 100000) (hD : depth (n + 1) (Sum.inr (Sum.inr fs)) ≤ 100000) :
    Calls Tryz.prog 29 #[x] w fun e w' => e = .returned (.agg #[.int .i64 (nodes (n + 1) (Sum.inr (Sum.inr fs))), .int .i64 (depth (n + 1) (Sum.inr (Sum.inr fs)))]) ∧ Below w.heap.size w w' := by
  have en : nodes (n + 1) (Sum.inr (Sum.inr fs)) = 1 + (fs.map (fun f => nodes n f.2)).sum := rfl
  have ed : depth (n + 1) (Sum.inr (Sum.inr fs)) = 1 + maxOf (fs.map (fun f => depth n f.2)) := rfl
  rw [en] at hN ⊢
  rw [ed] at hD ⊢
  obtain ⟨p, g, cap, vs, rfl, hpp, hvl, hlc, hcm, hcell, hel⟩ := hSt.obj
  unfold maxLen at hcm
  have hlen : fs.length ≤ 100000 := by
    have h := sum_ge (fs.map (fun f => nodes n f.2)) (fun y hy => by
      obtain ⟨z, _, rfl⟩ := List.mem_map.1 hy
      exact nodes_pos _ _)
    rw [List.length_map] at h
    omega
  have HEl : Hid (∀ w1, Below w.heap.size w w1 → ∀ k (hk : k < fs.length), ∃ u, w1.cell? ⟨g, k * 2, none⟩ = some (.string ⟨fs[k].1.toArray⟩) ∧ w1.cell? ⟨g, k * 2 + 1, none⟩ = some u ∧ St (fun c => w.heap.size ≤ c) w1 n fs[k].2 u) := by
    intro w1 hb k hk
    have hu : vs[k]? = some (vs[k]'(by omega)) := List.getElem?_eq_getElem (by omega)
    have hf : fs[k]? = some fs[k] := List.getElem?_eq_getElem hk
    have hc := hcell k _ _ hf hu
    refine ⟨_, by rw [hb.cell (p := ⟨g, k * 2, none⟩) (hpp k hk).2.2]; exact hc.1, by rw [hb.cell (p := ⟨g, k * 2 + 1, none⟩) (hpp k hk).2.2]; exact hc.2, ?_⟩
    exact (((hel k fs[k] _ hf hu).wide (fun c hc => Or.inr hc) : St (fun c => w.heap.size ≤ c) w n fs[k].2 _)).step hb.size (fun c hc _ => hb.block c hc)
  have HTk : Hid (∀ k (hk : k < fs.length), ((fs.map (fun f => nodes n f.2)).take (k + 1)).sum = ((fs.map (fun f => nodes n f.2)).take k).sum + nodes n fs[k].2 ∧ maxOf ((fs.map (fun f => depth n f.2)).take (k + 1)) = max (maxOf ((fs.map (fun f => depth n f.2)).take k)) (depth n fs[k].2)) := fun k hk => by
    constructor
    · rw [List.take_succ_eq_append_getElem (by simpa using hk), List.sum_append]
      simp
    · rw [List.take_succ_eq_append_getElem (by simpa using hk), maxOf_snoc]
      simp
  have HLe : Hid (∀ k, ((fs.map (fun f => nodes n f.2)).take k).sum ≤ (fs.map (fun f => nodes n f.2)).sum ∧ maxOf ((fs.map (fun f => depth n f.2)).take k) ≤ maxOf (fs.map (fun f => depth n f.2))) := fun k => ⟨take_sum_le _ k, take_max_le _ k⟩
  have HAll : Hid (∀ k, fs.length ≤ k → ((fs.map (fun f => nodes n f.2)).take k).sum = (fs.map (fun f => nodes n f.2)).sum ∧ maxOf ((fs.map (fun f => depth n f.2)).take k) = maxOf (fs.map (fun f => depth n f.2))) := fun k hk => by
    rw [List.take_of_length_le (by simpa using hk), List.take_of_length_le (by simpa using hk)]
    exact ⟨rfl, rfl⟩
  generalize fs.map (fun f => nodes n f.2) = ns at *
  generalize fs.map (fun f => depth n f.2) = ds at *
  have HM : Hid (MeasureOK n) := hM
  obtain ⟨a1, a2, a3, a4, a5, a6⟩ := tas_Object
  have HPp : Hid (∀ k, k < fs.length → p = some ⟨g, 0, none⟩) := fun k hk => (hpp k hk).1
  clear hcell hel hM en ed hpp
  have HZ0 : Hid (((w.alloc (.cells #[.int .i64 0, .int .i64 0] 54)).alloc (.cells #[.int .i64 1, .int .i64 1] 54)).heap[w.heap.size + 1]? = some (.cells #[.int .i64 1, .int .i64 1] 54 (0, 0))) := by
    have h0 := heap_alloc_new (w.alloc (.cells #[.int .i64 0, .int .i64 0] 54)) (.cells #[.int .i64 1, .int .i64 1] 54)
    have e0 : (w.alloc (.cells #[.int .i64 0, .int .i64 0] 54)).heap.size = w.heap.size + 1 := by simp
    rw [e0] at h0
    exact h0
  have HZr : Hid (((w.alloc (.cells #[.int .i64 0, .int .i64 0] 54)).alloc (.cells #[.int .i64 1, .int .i64 1] 54)).heap[w.heap.size]? = some (.cells #[.int .i64 0, .int .i64 0] 54 (0, 0))) := by
    show ((w.alloc (.cells #[.int .i64 0, .int .i64 0] 54)).alloc (.cells #[.int .i64 1, .int .i64 1] 54)).heap[w.heap.size]? = _
    rw [Below.heap_alloc _ _ _ (by simp)]
    exact heap_alloc_new w _
  have HB0 : Hid (Below w.heap.size w ((w.alloc (.cells #[.int .i64 0, .int .i64 0] 54)).alloc (.cells #[.int .i64 1, .int .i64 1] 54))) := ((Below.refl _ w).alloc (Nat.le_refl _) _).alloc (by simp) _
  go_enter Tryz.func29, Tryz.ntmps29
  go_wp2_with fail
  go_loopw [33] (fun i wr => ∃ k : Nat, k ≤ fs.length ∧ i = .int .i64 k ∧ wr.heap[w.heap.size + 1]? = some (.cells #[.int .i64 ((1 + (ns.take k).sum : Nat) : Int), .int .i64 ((1 + maxOf (ds.take k) : Nat) : Int)] 54 (0, 0)) ∧ wr.heap[w.heap.size]? = some (.cells #[.int .i64 0, .int .i64 0] 54 (0, 0)) ∧ Below w.heap.size w wr) (fun i _ => fs.length - (intOf i).toNat)
  case atStart => exact ⟨0, Nat.zero_le _, rfl, HZ0.out, HZr.out, HB0.out⟩
  case round =>
    obtain ⟨k, hk, rfl, hz, hrb, hbel⟩ := hrel
    have HZ : Hid (wr.heap[w.heap.size + 1]? = some (.cells #[.int .i64 ((1 + (ns.take k).sum : Nat) : Int), .int .i64 ((1 + maxOf (ds.take k) : Nat) : Int)] 54 (0, 0))) := hz
    have HRb : Hid (wr.heap[w.heap.size]? = some (.cells #[.int .i64 0, .int .i64 0] 54 (0, 0))) := hrb
    have HB : Hid (Below w.heap.size w wr) := hbel
    have hle := HLe.out k
    have hzw := lt_of_block hz
    clear hz hrb hbel
    by_cases hlt : k < fs.length
    · have hpe := HPp.out k hlt
      subst hpe
      obtain ⟨u, hcn, hcu, hst⟩ := HEl.out wr HB.out k hlt
      obtain ⟨T, y, rfl⟩ := st_iface hst
      have hle2 := HLe.out (k + 1)
      have htk := HTk.out k hlt
      have hnk : nodes n fs[k].2 ≤ 100000 := by omega
      have hdk : depth n fs[k].2 ≤ 100000 := by omega
      have HTK : Hid ((ns.take (k + 1)).sum = (ns.take k).sum + nodes n fs[k].2 ∧ maxOf (ds.take (k + 1)) = max (maxOf (ds.take k)) (depth n fs[k].2)) := htk
      have HSt : Hid (St (fun c => w.heap.size ≤ c) wr n fs[k].2 (.iface T y)) := hst
      clear hst htk
      generalize (⟨fs[k].1.toArray⟩ : ByteArray) = nm at *
      generalize fs[k].2 = el at *
      have hsw := HB.out.size
      have HStA : Hid (St (fun c => w.heap.size ≤ c) (wr.alloc (.cells #[.string nm, .iface T y] 75)) n el (.iface T y)) := HSt.out.grown (World.grownBy_alloc wr _ none) (fun k e => by cases e)
      have HZA : Hid ((wr.alloc (.cells #[.string nm, .iface T y] 75)).heap[w.heap.size + 1]? = some (.cells #[.int .i64 ((1 + (ns.take k).sum : Nat) : Int), .int .i64 ((1 + maxOf (ds.take k) : Nat) : Int)] 54 (0, 0))) := (Below.heap_alloc wr _ _ hzw).trans HZ.out
      have HRA : Hid ((wr.alloc (.cells #[.string nm, .iface T y] 75)).heap[w.heap.size]? = some (.cells #[.int .i64 0, .int .i64 0] 54 (0, 0))) := (Below.heap_alloc wr _ _ (by omega)).trans HRb.out
      have HBA : Hid (Below w.heap.size w (wr.alloc (.cells #[.string nm, .iface T y] 75))) := HB.out.alloc hsw _
      go_wp2_with fail
      generalize wr.alloc (.cells #[.string nm, .iface T y] 75) = wa at *
      refine (HM.out _ el (.iface T y) wa HStA.out hnk hdk).mono ?_
      rintro e w1 ⟨rfl, b1⟩
      have hz1 : w1.heap[w.heap.size + 1]? = some (.cells #[.int .i64 ((1 + (ns.take k).sum : Nat) : Int), .int .i64 ((1 + maxOf (ds.take k) : Nat) : Int)] 54 (0, 0)) := (b1.block _ (lt_of_block HZA.out)).trans HZA.out
      have HZ1 : Hid (w1.heap[w.heap.size + 1]? = some (.cells #[.int .i64 ((1 + (ns.take k).sum : Nat) : Int), .int .i64 ((1 + maxOf (ds.take k) : Nat) : Int)] 54 (0, 0))) := hz1
      have HR1 : Hid (w1.heap[w.heap.size]? = some (.cells #[.int .i64 0, .int .i64 0] 54 (0, 0))) := (b1.block _ (lt_of_block HRA.out)).trans HRA.out
      have HB1 : Hid (Below w.heap.size w w1) := HBA.out.trans (b1.mono HBA.out.size)
      clear b1 hz1
      go_wp2_with fail
      refine (hold_any (w.heap.size + 1) (1 + (ns.take k).sum) (1 + maxOf (ds.take k)) (nodes n el) (depth n el) w1 HZ1.out (by omega) (by omega) (by omega) (by omega)).mono ?_
      rintro e w2 ⟨rfl, g2, z2⟩
      have HZ2 : Hid (w2.heap[w.heap.size + 1]? = some (.cells #[.int .i64 ((1 + (ns.take (k + 1)).sum : Nat) : Int), .int .i64 ((1 + maxOf (ds.take (k + 1)) : Nat) : Int)] 54 (0, 0))) := by
        show w2.heap[w.heap.size + 1]? = _
        have e1 : 1 + (ns.take (k + 1)).sum = 1 + (ns.take k).sum + nodes n el := by rw [HTK.out.1]; omega
        have e2 : 1 + maxOf (ds.take (k + 1)) = max (1 + maxOf (ds.take k)) (depth n el + 1) := by rw [HTK.out.2]; omega
        rw [e1, e2]
        exact z2
      have HR2 : Hid (w2.heap[w.heap.size]? = some (.cells #[.int .i64 0, .int .i64 0] 54 (0, 0))) := (g2.block _ (lt_of_block HR1.out) (fun e => by simp at e)).trans HR1.out
      have HB2 : Hid (Below w.heap.size w w2) := HB1.out.grown g2 HB1.out.size (fun k e => by cases e; omega)
      clear g2 z2
      go_wp2_with fail
      go_roundw
      case rel => exact ⟨k + 1, by omega, by go_num, HZ2.out, HR2.out, HB2.out⟩
      case measure => simp [intOf]; omega
    · have hall := HAll.out k (by omega)
      have HA : Hid ((ns.take k).sum = ns.sum ∧ maxOf (ds.take k) = maxOf ds) := hall
      have hz : wr.heap[w.heap.size + 1]? = some (.cells #[.int .i64 ((1 + ns.sum : Nat) : Int), .int .i64 ((1 + maxOf ds : Nat) : Int)] 54 (0, 0)) := by
        have := HZ.out
        rw [hall.1, hall.2] at this
        exact this
      have z0 : wr.cell? ⟨w.heap.size + 1, 0, none⟩ = some (.int .i64 ((1 + ns.sum : Nat) : Int)) := by rw [cell_of_row _ _ _ _ _ _ hz]; rfl
      have z1 : wr.cell? ⟨w.heap.size + 1, 1, none⟩ = some (.int .i64 ((1 + maxOf ds : Nat) : Int)) := by rw [cell_of_row _ _ _ _ _ _ hz]; rfl
      have r0 : wr.cell? ⟨w.heap.size, 0, none⟩ = some (.int .i64 0) := by rw [cell_of_row _ _ _ _ _ _ HRb.out]; rfl
      have r1 : wr.cell? ⟨w.heap.size, 1, none⟩ = some (.int .i64 0) := by rw [cell_of_row _ _ _ _ _ _ HRb.out]; rfl
      have f0 : wr.frozen? ⟨w.heap.size, 0, none⟩ = false := frozen_of_row _ _ _ _ _ HRb.out
      have f1 : wr.frozen? ⟨w.heap.size, 1, none⟩ = false := frozen_of_row _ _ _ _ _ HRb.out
      clear hall hz
      obtain ⟨A, hA⟩ : ∃ A : Int, A = ((1 + ns.sum : Nat) : Int) := ⟨_, rfl⟩
      obtain ⟨B, hB⟩ : ∃ B : Int, B = ((1 + maxOf ds : Nat) : Int) := ⟨_, rfl⟩
      rw [← hA] at z0
      rw [← hB] at z1
      have HAB : Hid (A = ((1 + ns.sum : Nat) : Int) ∧ B = ((1 + maxOf ds : Nat) : Int)) := ⟨hA, hB⟩
      clear hA hB
      go_wp2_with fail
      exact bodyPost_ret (v := .agg #[.int .i64 A, .int .i64 B]) (by simp [results, Tryz.results29, go_sem, r0, r1]) rfl ⟨by rw [HAB.out.1, HAB.out.2], (HB.out.setCell (Nat.le_refl _) _).setCell (Nat.le_refl _) _⟩
theorem measure_ok : ∀ n, MeasureOK n
  | 0 => fun av j x w hSt hN hD => by
    have e : x = leafV j := hSt
    subst e
    exact measure_leaf j w
  | n + 1 => fun av j x w hSt hN hD => by
    have hM := measure_ok n
    match j, hSt, hN, hD with
    | Sum.inl l, hSt, hN, hD =>
      have e : x = leafV l := hSt
      subst e
      exact measure_leaf l w
    | Sum.inr (Sum.inl xs), hSt, hN, hD => exact measure_list n hM av xs x w hSt hN hD
    | Sum.inr (Sum.inr fs), hSt, hN, hD => exact measure_object n hM av fs x w hSt hN hD
end Go.Proofs.YthdgfehfoidnbabGreatDoor
/- Contracts over this translation: what a step leads to, and what several lead to. -/
namespace Go.Proofs.YthdgfehfoidnbabGreatDoor
open Go.RowKit
set_option linter.unusedVariables false
set_option linter.unusedSimpArgs false
theorem St.on {av : Nat → Prop} {w w' : World} {n : Nat} {j : J n} {v : Value} (h : St av w n j v) (hb : Below w.heap.size w w') : St av w' n j v := h.step hb.size (fun c hc _ => hb.block c hc)
/-! how great what a step leads to is -/
theorem nodes_item {n : Nat} {xs : List (J n)} {x : J n} (h : x ∈ xs) : nodes n x < nodes (n + 1) (Sum.inr (Sum.inl xs)) := by
  show nodes n x < 1 + (xs.map (nodes n)).sum
  have : ∀ l : List Nat, ∀ y ∈ l, y ≤ l.sum := by
    intro l
    induction l with
    | nil => intro y hy; simp at hy
    | cons a l ih =>
      intro y hy
      rcases List.mem_cons.1 hy with rfl | hy
      · simp
      · have := ih y hy
        simp only [List.sum_cons]
        omega
  have := this (xs.map (nodes n)) _ (List.mem_map.2 ⟨x, h, rfl⟩)
  omega
theorem nodes_field {n : Nat} {fs : List (Bs × J n)} {f : Bs × J n} (h : f ∈ fs) : nodes n f.2 < nodes (n + 1) (Sum.inr (Sum.inr fs)) := by
  show nodes n f.2 < 1 + (fs.map fun f => nodes n f.2).sum
  have : ∀ l : List Nat, ∀ y ∈ l, y ≤ l.sum := by
    intro l
    induction l with
    | nil => intro y hy; simp at hy
    | cons a l ih =>
      intro y hy
      rcases List.mem_cons.1 hy with rfl | hy
      · simp
      · have := ih y hy
        simp only [List.sum_cons]
        omega
  have := this (fs.map fun f => nodes n f.2) _ (List.mem_map.2 ⟨f, h, rfl⟩)
  omega
theorem len_nodes_list {n : Nat} (xs : List (J n)) : xs.length < nodes (n + 1) (Sum.inr (Sum.inl xs)) := by
  show xs.length < 1 + (xs.map (nodes n)).sum
  have h := sum_ge (xs.map (nodes n)) (fun y hy => by
    obtain ⟨z, _, rfl⟩ := List.mem_map.1 hy
    exact nodes_pos _ _)
  rw [List.length_map] at h
  omega
theorem len_nodes_obj {n : Nat} (fs : List (Bs × J n)) : fs.length < nodes (n + 1) (Sum.inr (Sum.inr fs)) := by
  show fs.length < 1 + (fs.map fun f => nodes n f.2).sum
  have h := sum_ge (fs.map fun f => nodes n f.2) (fun y hy => by
    obtain ⟨z, _, rfl⟩ := List.mem_map.1 hy
    exact nodes_pos _ _)
  rw [List.length_map] at h
  omega
theorem nodes_child {n : Nat} {j : J (n + 1)} {s : Bs} {c : J n} (hr : Rise (n + 1) j) (h : childP j s = some c) : nodes n c < nodes (n + 1) j := by
  match j, hr, h with
  | Sum.inr (Sum.inl xs), hr, h =>
    obtain ⟨i, hi, hx⟩ := Option.bind_eq_some_iff.1 (show ((placeP s).bind fun i => xs[i]?) = some c from h)
    exact nodes_item (List.mem_of_getElem? hx)
  | Sum.inr (Sum.inr fs), hr, h => exact nodes_field (f := (s, c)) (fieldAt_mem hr.1 h)
/-- what is known of a step's answer -/
def LeadPost {n : Nat} (av : Nat → Prop) (o : Option (J n)) (w : World) (e : Ending) (w' : World) : Prop :=
  Below w.heap.size w w' ∧ ((o = none ∧ e = .returned .nilIface) ∨ ∃ c T x, o = some c ∧ e = .returned (.iface T x) ∧ St av w' n c (.iface T x))
theorem ta_nil {P : Program} {T xT : TypeId} {d : TypeDesc} {z : Value} (w : World) (hu : P.underlying T = some d) (hd : (match d with | .interface _ => false | _ => true) = true) (hz : ∀ w, (zeroValue T).run P w = .ok z w) :
    (Instr.typeAssert .nilIface xT T true).run P w = .ok (.tuple #[z, .bool false]) w := by
  unfold Instr.typeAssert
  simp only [Sem.run_bind, run_underlying hu, Result.andThen]
  cases d <;> simp_all [Sem.run_pure, Sem.run_bind, Result.andThen]
set_option maxRecDepth 100000 in
set_option maxHeartbeats 1000000 in
theorem lead_nil (s : ByteArray) (w : World) : Calls Tryz.prog 31 #[.nilIface, .string s] w fun e w' => e = .returned .nilIface ∧ Below w.heap.size w w' := by
  have a1 : ∀ w : World, (Instr.typeAssert .nilIface 36 66 true).run Tryz.prog w = .ok (.tuple #[.slice none 0 0, .bool false]) w := fun w => ta_nil w Tryz.underlying66 rfl Tryz.zeroValue66
  have a2 : ∀ w : World, (Instr.typeAssert .nilIface 36 69 true).run Tryz.prog w = .ok (.tuple #[.slice none 0 0, .bool false]) w := fun w => ta_nil w Tryz.underlying69 rfl Tryz.zeroValue69
  go_enter Tryz.func31, Tryz.ntmps31
  go_wp2_with fail
  go_ret
  exact ⟨rfl, Below.refl _ _⟩
set_option maxRecDepth 100000 in
set_option maxHeartbeats 1000000 in
theorem lead_leaf (l : Leaf) (s : ByteArray) (w : World) : Calls Tryz.prog 31 #[leafV l, .string s] w fun e w' => e = .returned .nilIface ∧ Below w.heap.size w w' := by
  match l with
  | none =>
    obtain ⟨a1, a2, a3, a4, a5, a6⟩ := tas_Null
    unfold leafV
    go_enter Tryz.func31, Tryz.ntmps31
    go_wp2_with fail
    go_ret
    exact ⟨rfl, Below.refl _ _⟩
  | some (Sum.inl b) =>
    obtain ⟨a1, a2, a3, a4, a5, a6⟩ := tas_Bool
    unfold leafV
    go_enter Tryz.func31, Tryz.ntmps31
    go_wp2_with fail
    go_ret
    exact ⟨rfl, Below.refl _ _⟩
  | some (Sum.inr (Sum.inl i)) =>
    obtain ⟨a1, a2, a3, a4, a5, a6⟩ := tas_Number
    unfold leafV
    go_enter Tryz.func31, Tryz.ntmps31
    go_wp2_with fail
    go_ret
    exact ⟨rfl, Below.refl _ _⟩
  | some (Sum.inr (Sum.inr t)) =>
    obtain ⟨a1, a2, a3, a4, a5, a6⟩ := tas_Text
    unfold leafV
    go_enter Tryz.func31, Tryz.ntmps31
    go_wp2_with fail
    go_ret
    exact ⟨rfl, Below.refl _ _⟩
theorem field_idx {α : Type} {fs : List (Bs × α)} (hr : Rising fs) {s : Bs} (ha : (fs.any fun f => f.1 == s) = true) : ∃ h : placeOfName fs s < fs.length, fieldAt fs s = some (fs[placeOfName fs s]'h).2 := by
  obtain ⟨A, c, C, hfs, hp, hA, hC⟩ := rise_split hr ha
  have hlt : placeOfName fs s < fs.length := by rw [hp, hfs]; simp
  refine ⟨hlt, ?_⟩
  unfold fieldAt
  rw [ha, if_pos rfl, List.getElem?_eq_getElem hlt]
  rfl
set_option maxRecDepth 100000 in
set_option maxHeartbeats 2000000 in
theorem lead_obj {n : Nat} (av : Nat → Prop) (fs : List (Bs × J n)) (v : Value) (s : ByteArray) (w : World) (hSt : St av w (n + 1) (Sum.inr (Sum.inr fs)) v) (hr : Rising fs) (hl : fs.length ≤ 2000) (hs : s.size ≤ 8000000) :
    Calls Tryz.prog 31 #[v, .string s] w (LeadPost av (fieldAt fs s.data.toList) w) := by
  obtain ⟨a1, a2, a3, a4, a5, a6⟩ := tas_Object
  rcases hSt with ⟨rfl, rfl⟩ | ⟨g, cap, vs, rfl, hvl, hlc, hcm, hg, hgw, hcell, hel⟩
  · have hF : Calls Tryz.prog 38 #[.slice none 0 0, .string s] w fun e w' => e = .returned (.tuple #[.int .i64 0, .bool false]) ∧ Below w.heap.size w w' := find_nil s w
    have HF : Hid (Calls Tryz.prog 38 #[.slice none 0 0, .string s] w fun e w' => e = .returned (.tuple #[.int .i64 0, .bool false]) ∧ Below w.heap.size w w') := hF
    clear hF
    go_enter Tryz.func31, Tryz.ntmps31
    go_wp2_with fail
    refine Calls.mono HF.out ?_
    rintro e w1 ⟨rfl, b1⟩
    have HB : Hid (Below w.heap.size w w1) := b1
    clear b1
    go_wp2_with fail
    go_ret
    exact ⟨HB.out, Or.inl ⟨rfl, rfl⟩⟩
  · have hF := find_any g cap fs vs s w ⟨hvl, hcell⟩ hgw hr hl hlc hcm
    cases ha : (fs.any fun f => f.1 == s.data.toList) with
    | false =>
      rw [ha] at hF
      have HN : Hid (fieldAt fs s.data.toList = none) := by
        show fieldAt _ _ = _
        unfold fieldAt
        rw [ha, if_neg (by decide)]
      have HF : Hid (Calls Tryz.prog 38 #[.slice (some ⟨g, 0, none⟩) fs.length cap, .string s] w fun e w' => e = .returned (.tuple #[.int .i64 (placeOfName fs s.data.toList), .bool false]) ∧ Below w.heap.size w w') := hF
      clear hF hcell hel ha
      generalize placeOfName fs s.data.toList = pl at *
      go_enter Tryz.func31, Tryz.ntmps31
      go_wp2_with fail
      refine Calls.mono HF.out ?_
      rintro e w1 ⟨rfl, b1⟩
      have HB : Hid (Below w.heap.size w w1) := b1
      clear b1
      go_wp2_with fail
      go_ret
      exact ⟨HB.out, Or.inl ⟨HN.out, rfl⟩⟩
    | true =>
      rw [ha] at hF
      have HF : Hid (Calls Tryz.prog 38 #[.slice (some ⟨g, 0, none⟩) fs.length cap, .string s] w fun e w' => e = .returned (.tuple #[.int .i64 (placeOfName fs s.data.toList), .bool true]) ∧ Below w.heap.size w w') := hF
      obtain ⟨hlt, hfi⟩ := field_idx hr ha
      have hu : vs[placeOfName fs s.data.toList]? = some (vs[placeOfName fs s.data.toList]'(by omega)) := List.getElem?_eq_getElem (by omega)
      have hc := (hcell _ _ _ (List.getElem?_eq_getElem hlt) hu).2
      have hst := hel _ _ _ (List.getElem?_eq_getElem hlt) hu
      have HN : Hid (fieldAt fs s.data.toList = some (fs[placeOfName fs s.data.toList]).2) := hfi
      generalize vs[placeOfName fs s.data.toList]'(by omega) = u at *
      obtain ⟨T, x, rfl⟩ := st_iface hst
      have HSt : Hid (St av w n (fs[placeOfName fs s.data.toList]).2 (.iface T x)) := hst
      have HC : Hid (∀ w1, Below w.heap.size w w1 → w1.cell? ⟨g, placeOfName fs s.data.toList * 2 + 1, none⟩ = some (.iface T x)) := fun w1 hb => by
        rw [hb.cell (p := ⟨g, placeOfName fs s.data.toList * 2 + 1, none⟩) hgw]
        exact hc
      generalize (fs[placeOfName fs s.data.toList]).2 = c at *
      generalize placeOfName fs s.data.toList = pl at *
      unfold maxLen at hcm
      have hI : (pl : Int) < (fs.length : Int) := by omega
      clear hF hcell hel ha hfi hc hst hu
      go_enter Tryz.func31, Tryz.ntmps31
      go_wp2_with fail
      refine Calls.mono HF.out ?_
      rintro e w1 ⟨rfl, b1⟩
      have HB : Hid (Below w.heap.size w w1) := b1
      have hc1 := HC.out w1 b1
      clear b1
      go_wp2_with fail
      go_ret
      exact ⟨HB.out, Or.inr ⟨c, T, x, HN.out, rfl, HSt.out.on HB.out⟩⟩
set_option maxRecDepth 100000 in
set_option maxHeartbeats 2000000 in
theorem lead_list {n : Nat} (av : Nat → Prop) (xs : List (J n)) (v : Value) (s : ByteArray) (w : World) (hSt : St av w (n + 1) (Sum.inr (Sum.inl xs)) v) (hs : s.size ≤ 8000000) (hE : Env w) :
    Calls Tryz.prog 31 #[v, .string s] w (LeadPost av ((placeP s.data.toList).bind fun i => xs[i]?) w) := by
  obtain ⟨a1, a2, a3, a4, a5, a6⟩ := tas_List
  obtain ⟨p, g, cap, vs, rfl, hpp, hvl, hlc, hcm, hcell, hel⟩ := hSt.list
  unfold maxLen at hcm
  have HP : Hid (Calls Tryz.prog 40 #[.string s] w (PlacePost s.data.toList w)) := place_any s w hs hE
  have HEl : Hid (∀ w1, Below w.heap.size w w1 → ∀ k (hk : k < xs.length), ∃ T x, p = some ⟨g, 0, none⟩ ∧ w1.cell? ⟨g, k, none⟩ = some (.iface T x) ∧ St av w1 n xs[k] (.iface T x)) := by
    intro w1 hb k hk
    have hu : vs[k]? = some (vs[k]'(by omega)) := List.getElem?_eq_getElem (by omega)
    have hst := hel k xs[k] _ (List.getElem?_eq_getElem hk) hu
    obtain ⟨T, x, hx⟩ := st_iface hst
    rw [hx] at hu hst
    exact ⟨T, x, (hpp k hk).1, by rw [hb.cell (p := ⟨g, k, none⟩) (hpp k hk).2.2]; exact hcell k _ hu, hst.on hb⟩
  clear hcell hel hpp
  go_enter Tryz.func31, Tryz.ntmps31
  go_wp2_with fail
  refine Calls.mono HP.out ?_
  rintro e w1 ⟨b1, h1⟩
  have HB : Hid (Below w.heap.size w w1) := b1
  clear b1
  rcases h1 with ⟨i, hi, hi63, rfl⟩ | ⟨k, hk, rfl⟩
  · have HI : Hid (placeP s.data.toList = some i) := hi
    clear hi
    by_cases hlt : i < xs.length
    · obtain ⟨T, x, rfl, hc, hst⟩ := HEl.out w1 HB.out i hlt
      have HSt : Hid (St av w1 n xs[i] (.iface T x)) := hst
      have hI : (i : Int) < (xs.length : Int) := by omega
      clear hst
      go_wp2_with fail
      go_ret
      exact ⟨HB.out, Or.inr ⟨xs[i], T, x, by rw [HI.out, Option.bind_some, List.getElem?_eq_getElem hlt], rfl, HSt.out⟩⟩
    · have hI : decide ((i : Int) < (xs.length : Int)) = false := decide_eq_false (by omega)
      go_wp2_with fail
      go_ret
      exact ⟨HB.out, Or.inl ⟨by rw [HI.out, Option.bind_some, List.getElem?_eq_none (by omega)], rfl⟩⟩
  · have HI : Hid (placeP s.data.toList = none) := hk
    clear hk
    go_wp2_with fail
    go_ret
    exact ⟨HB.out, Or.inl ⟨by rw [HI.out]; rfl, rfl⟩⟩
theorem lead_any {n : Nat} (av : Nat → Prop) (j : J (n + 1)) (v : Value) (s : ByteArray) (w : World) (hSt : St av w (n + 1) j v) (hr : Rise (n + 1) j) (hn : nodes (n + 1) j ≤ 2000) (hs : s.size ≤ 8000000) (hE : Env w) :
    Calls Tryz.prog 31 #[v, .string s] w (LeadPost av (childP j s.data.toList) w) := by
  match j, hSt, hr, hn with
  | Sum.inl l, hSt, hr, hn =>
    have e : v = leafV l := hSt
    subst e
    refine (lead_leaf l s w).mono ?_
    rintro e w1 ⟨rfl, b1⟩
    exact ⟨b1, Or.inl ⟨rfl, rfl⟩⟩
  | Sum.inr (Sum.inl xs), hSt, hr, hn => exact lead_list av xs v s w hSt hs hE
  | Sum.inr (Sum.inr fs), hSt, hr, hn => exact lead_obj av fs v s w hSt hr.1 (by have := len_nodes_obj fs; omega) hs
/-- the steps that are left lead to what all steps lead to -/
theorem getP_child {n : Nat} {j : J (n + 1)} {s : Bs} {r : List Bs} {c : J n} (h : childP j s = some c) : getP (n + 1) j (s :: r) = (getP n c r).map (lift n (n + 1)) := by
  show ((childP j s).bind fun c => (getP n c r).map (lift n (n + 1))) = _
  rw [h]
  rfl
theorem getP_lost {n : Nat} {j : J (n + 1)} {s : Bs} {r : List Bs} (h : childP j s = none) : getP (n + 1) j (s :: r) = none := by
  show ((childP j s).bind fun c => (getP n c r).map (lift n (n + 1))) = _
  rw [h]
  rfl
theorem getP_nil (n : Nat) (j : J n) : getP n j [] = some j := by cases n <;> rfl
/-- what is known of what several steps lead to -/
def FindPost {N : Nat} (av : Nat → Prop) (o : Option (J N)) (w : World) (e : Ending) (w' : World) : Prop :=
  Below w.heap.size w w' ∧ ((o = none ∧ e = .returned .nilIface) ∨ ∃ (m : Nat) (c : J m) (T : TypeId) (x : Value), m ≤ N ∧ o = some (lift m N c) ∧ e = .returned (.iface T x) ∧ St av w' m c (.iface T x))
/-- a value on the way -/
def OnWay {N : Nat} (av : Nat → Prop) (D : J N) (L : List Bs) (k : Nat) (u : Value) (wr : World) : Prop :=
  (u = .nilIface ∧ getP N D L = none) ∨ ∃ (m : Nat) (c : J m) (T : TypeId) (x : Value), u = .iface T x ∧ m ≤ N ∧ St av wr m c (.iface T x) ∧ Rise m c ∧ nodes m c ≤ 2000 ∧ getP N D L = (getP m c (L.drop k)).map (lift m N)
theorem onWay_step {N : Nat} {av : Nat → Prop} {D : J N} {L : List Bs} {k : Nat} {wr w1 : World} {e : Ending} {m : Nat} {c : J (m + 1)} (hk : k < L.length) (hm : m + 1 ≤ N) (hr : Rise (m + 1) c) (hn : nodes (m + 1) c ≤ 2000) (hg : getP N D L = (getP (m + 1) c (L.drop k)).map (lift (m + 1) N))
    (h : LeadPost av (childP c L[k]) wr e w1) : ∃ u, e = .returned u ∧ (u = .nilIface ∨ ∃ T x, u = .iface T x) ∧ OnWay av D L (k + 1) u w1 := by
  obtain ⟨_, h⟩ := h
  rw [List.drop_eq_getElem_cons hk] at hg
  rcases h with ⟨h1, rfl⟩ | ⟨c', T, x, h1, rfl, h2⟩
  · exact ⟨_, rfl, Or.inl rfl, Or.inl ⟨rfl, by rw [hg, getP_lost h1]; rfl⟩⟩
  · refine ⟨_, rfl, Or.inr ⟨T, x, rfl⟩, Or.inr ⟨m, c', T, x, rfl, by omega, h2, rise_child hr h1, by have := nodes_child hr h1; omega, ?_⟩⟩
    rw [hg, getP_child h1, Option.map_map]
    congr 1
    funext y
    exact lift_lift m (m + 1) N y (Nat.le_trans (depth_bound m y) (by omega))
theorem onWay_leaf {N : Nat} {av : Nat → Prop} {D : J N} {L : List Bs} {k : Nat} {w1 : World} {c : J 0} (hk : k < L.length) (hg : getP N D L = (getP 0 c (L.drop k)).map (lift 0 N)) : OnWay av D L (k + 1) .nilIface w1 := by
  rw [List.drop_eq_getElem_cons hk] at hg
  exact Or.inl ⟨rfl, by rw [hg]; rfl⟩
set_option maxRecDepth 100000 in
set_option maxHeartbeats 4000000 in
theorem findSteps_any {N : Nat} (av : Nat → Prop) (D : J N) (T : TypeId) (x : Value) (vl : Value) (L : List Bs) (w : World) (hSt : St av w N D (.iface T x)) (hr : Rise N D) (hn : nodes N D ≤ 2000) (hL : Strs w vl L) (hlen : L.length ≤ 100) (hsz : ∀ s ∈ L, s.length ≤ 8000000) (hE : Env w) :
    Calls Tryz.prog 15 #[.iface T x, vl] w (FindPost av (getP N D L) w) := by
  have HO : Hid (OnWay av D L 0 (.iface T x) w) := Or.inr ⟨N, D, T, x, rfl, Nat.le_refl _, hSt, hr, hn, by
    rw [List.drop_zero]
    cases getP N D L with
    | none => rfl
    | some c => show some c = some (lift N N c); rw [lift_self]⟩
  have HEnd : Hid (∀ u wr, OnWay av D L L.length u wr → (u = .nilIface ∧ getP N D L = none) ∨ ∃ (m : Nat) (c : J m) (T : TypeId) (x : Value), u = .iface T x ∧ m ≤ N ∧ getP N D L = some (lift m N c) ∧ St av wr m c (.iface T x)) := by
    intro u wr h
    rcases h with h | ⟨m, c, T, x, h1, h2, h3, _, _, h4⟩
    · exact Or.inl h
    · rw [List.drop_length, getP_nil] at h4
      exact Or.inr ⟨m, c, T, x, h1, h2, h4, h3⟩
  have HE : Hid (Env w) := hE
  have HC : Hid (∀ w1, Below w.heap.size w w1 → ∀ k (hk : k < L.length), ∃ g o cap, vl = .slice (some ⟨g, o, none⟩) L.length cap ∧ L.length ≤ cap ∧ w1.cell? ⟨g, o + k, none⟩ = some (.string ⟨L[k].toArray⟩)) := by
    intro w1 hb k hk
    rcases hL with ⟨rfl, _⟩ | ⟨g, o, cap, h1, h2, h3, h4, h5⟩
    · simp at hk
    · exact ⟨g, o, cap, h1, h2, by rw [hb.cell (p := ⟨g, o + k, none⟩) h4]; exact h5 k _ (List.getElem?_eq_getElem hk)⟩
  have HZ : Hid (∀ k (hk : k < L.length), (⟨L[k].toArray⟩ : ByteArray).size ≤ 8000000) := fun k hk => by
    rw [size_of]
    exact hsz _ (List.getElem_mem hk)
  have hsh : ∃ q c, vl = .slice q L.length c := by
    rcases hL with ⟨rfl, q, c, h⟩ | ⟨g, o, cap, h1, _⟩
    · exact ⟨q, c, h⟩
    · exact ⟨_, _, h1⟩
  obtain ⟨q, cp, hq⟩ := hsh
  subst hq
  clear hSt hr hn hL hsz hE
  go_enter Tryz.func15, Tryz.ntmps15
  go_wp2_with fail
  go_loopw [0, 9] (fun u i wr => ∃ k : Nat, k ≤ L.length ∧ i = .int .i64 k ∧ OnWay av D L k u wr ∧ Below w.heap.size w wr) (fun _ i _ => L.length - (intOf i).toNat)
  case atStart => exact ⟨0, Nat.zero_le _, rfl, HO.out, Below.refl _ _⟩
  case round =>
    obtain ⟨k, hk, rfl, hon, hbel⟩ := hrel
    have HB : Hid (Below w.heap.size w wr) := hbel
    have HOn : Hid (OnWay av D L k u0 wr) := hon
    clear hbel hon
    by_cases hlt : k < L.length
    · obtain ⟨g, o, cap, hvl, hlc, hc⟩ := HC.out wr HB.out k hlt
      cases hvl
      have hz := HZ.out k hlt
      have HD : Hid ((⟨L[k].toArray⟩ : ByteArray).data.toList = L[k]) := by show _ = _; simp
      generalize hy : (⟨L[k].toArray⟩ : ByteArray) = y at *
      have HL' : Hid (Calls Tryz.prog 31 #[u0, .string y] wr fun e w' => (∃ u, e = .returned u ∧ (u = .nilIface ∨ ∃ T x, u = .iface T x) ∧ OnWay av D L (k + 1) u w') ∧ Below wr.heap.size wr w') := by
        show Calls Tryz.prog 31 #[u0, .string y] wr fun e w' => (∃ u, e = .returned u ∧ (u = .nilIface ∨ ∃ T x, u = .iface T x) ∧ OnWay av D L (k + 1) u w') ∧ Below wr.heap.size wr w'
        rcases HOn.out with ⟨rfl, h1⟩ | ⟨m, c, T, x, rfl, h2, h3, h4, h5, h6⟩
        · refine (lead_nil y wr).mono ?_
          rintro e w1 ⟨rfl, b1⟩
          exact ⟨⟨_, rfl, Or.inl rfl, Or.inl ⟨rfl, h1⟩⟩, b1⟩
        · cases m with
          | zero =>
            have e : Value.iface T x = leafV c := h3
            rw [e]
            refine (lead_leaf c y wr).mono ?_
            rintro e w1 ⟨rfl, b1⟩
            exact ⟨⟨_, rfl, Or.inl rfl, onWay_leaf hlt h6⟩, b1⟩
          | succ m =>
            have h := lead_any av c (.iface T x) y wr h3 h4 h5 hz (HE.out.below HB.out)
            rw [HD.out] at h
            refine h.mono ?_
            intro e w1 h7
            exact ⟨onWay_step hlt h2 h4 h5 h6 h7, h7.1⟩
      go_wp2_with fail
      refine Calls.mono HL'.out ?_
      rintro e w1 ⟨⟨u, rfl, hu, hon⟩, b1⟩
      have HOn1 : Hid (OnWay av D L (k + 1) u w1) := hon
      have HB1 : Hid (Below w.heap.size w w1) := HB.out.trans (b1.mono HB.out.size)
      clear b1 hon hu hc
      go_wp2_with fail
      go_roundw
      case rel => exact ⟨k + 1, by omega, by go_num, HOn1.out, HB1.out⟩
      case measure => simp [intOf]; omega
    · have hke : k = L.length := by omega
      have HX := HEnd.out u0 wr (by have := HOn.out; rw [hke] at this; exact this)
      have HX' : Hid ((u0 = .nilIface ∧ getP N D L = none) ∨ ∃ (m : Nat) (c : J m) (T : TypeId) (x : Value), u0 = .iface T x ∧ m ≤ N ∧ getP N D L = some (lift m N c) ∧ St av wr m c (.iface T x)) := HX
      clear HX
      go_wp2_with fail
      go_ret
      refine ⟨HB.out, ?_⟩
      rcases HX'.out with ⟨rfl, h⟩ | ⟨m, c, T, x, rfl, h1, h2, h3⟩
      · exact Or.inl ⟨h, rfl⟩
      · exact Or.inr ⟨m, c, T, x, h1, h2, rfl, h3⟩
end Go.Proofs.YthdgfehfoidnbabGreatDoor
