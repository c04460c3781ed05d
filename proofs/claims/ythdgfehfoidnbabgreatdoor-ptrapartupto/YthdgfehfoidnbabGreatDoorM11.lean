/- Several texts in one: PtrChangeP, DocTell, DocTold, DocSize, SizeAny. -/
import Derived.Test.YthdgfehfoidnbabGreatDoorM10
import Derived.Test.YthdgfehfoidnbabGreatDoorM03
import Derived.Test.YthdgfehfoidnbabGreatDoorM09
import Derived.Test.YthdgfehfoidnbabGreatDoorM08
/- Contracts over this translation: what is made of a value by what is done at the end of a way (putting). -/
namespace Go.Proofs.YthdgfehfoidnbabGreatDoor
open Go.RowKit
set_option linter.unusedVariables false
set_option linter.unusedSimpArgs false
/-- what the function that is handed down does -/
def EndOKP (c0 c1 : Nat) (en : (m : Nat) → J m → Except Nat (J m)) (w0 : World) : Prop :=
  ∀ (w : World), Below w0.heap.size w0 w → ∀ (m : Nat) (j : J m) (T : TypeId) (x : Value), 11 ≤ m → S0 w m j (.iface T x) → Rise m j → nodes m j ≤ 2000 →
    Calls Tryz.prog 20 #[.iface T x, .pointer (some ⟨c0, 0, none⟩), .pointer (some ⟨c1, 0, none⟩)] w (MadePost m (en m j) w)
theorem EndOKP.below {c0 c1 : Nat} {en : (m : Nat) → J m → Except Nat (J m)} {w0 w1 : World} (h : EndOKP c0 c1 en w0) (hb : Below w0.heap.size w0 w1) : EndOKP c0 c1 en w1 :=
  fun w hw => h w (hb.trans (hw.mono hb.size))
set_option maxRecDepth 100000 in
set_option maxHeartbeats 2000000 in
theorem changeP_nil (c0 c1 : Nat) (en : (m : Nat) → J m → Except Nat (J m)) (n : Nat) (j : J n) (T : TypeId) (x : Value) (q : Option Addr) (cap : Nat) (w : World) (hn : 11 ≤ n) (hSt : S0 w n j (.iface T x)) (hr : Rise n j) (hnd : nodes n j ≤ 2000) (he : EndOKP c0 c1 en w) :
    Calls Tryz.prog 35 #[.iface T x, .slice q 0 cap, .func (.func 20) #[] #[.pointer (some ⟨c0, 0, none⟩), .pointer (some ⟨c1, 0, none⟩)]] w (MadePost n (en n j) w) := by
  have HC : Hid (Calls Tryz.prog 20 #[.iface T x, .pointer (some ⟨c0, 0, none⟩), .pointer (some ⟨c1, 0, none⟩)] w (MadePost n (en n j) w)) := he w (Below.refl _ _) n j T x hn hSt hr hnd
  clear he hSt hr hnd
  generalize en n j = r at *
  go_enter Tryz.func35, Tryz.ntmps35
  go_wp2_with fail
  refine Calls.mono HC.out ?_
  rintro e w1 ⟨b1, h1⟩
  have HB : Hid (Below w.heap.size w w1) := b1
  clear b1
  rcases h1 with ⟨er, h1, h2, h3, rfl⟩ | ⟨j', T', x', h1, rfl, h2⟩
  · have HR : Hid (r = .error er) := h1
    clear h1
    go_wp2_with fail
    go_ret2
    exact ⟨HB.out, Or.inl ⟨er, HR.out, h2, h3, rfl⟩⟩
  · have HR : Hid (r = .ok j') := h1
    have HS : Hid (S0 w1 n j' (.iface T' x')) := h2
    clear h1 h2
    go_wp2_with fail
    go_ret2
    exact ⟨HB.out, Or.inr ⟨_, _, _, HR.out, rfl, HS.out⟩⟩
set_option maxRecDepth 100000 in
set_option maxHeartbeats 4000000 in
theorem changeP_ok (c0 c1 : Nat) (en : (m : Nat) → J m → Except Nat (J m)) : ∀ (L : List Bs) (n : Nat) (j : J n) (T : TypeId) (x : Value) (vl : Value) (w : World), 11 + L.length ≤ n → S0 w n j (.iface T x) → Rise n j → nodes n j ≤ 2000 → Strs w vl L → (∀ s ∈ L, s.length ≤ 8000000) → Env w → EndOKP c0 c1 en w →
    Calls Tryz.prog 35 #[.iface T x, vl, .func (.func 20) #[] #[.pointer (some ⟨c0, 0, none⟩), .pointer (some ⟨c1, 0, none⟩)]] w (MadePost n (changeP n j L en) w)
  | [], n, j, T, x, vl, w, hn, hSt, hr, hnd, hL, hsz, hE, he => by
    have hc : changeP n j [] en = en n j := by cases n <;> rfl
    rw [hc]
    have hq : ∃ q cap, vl = .slice q 0 cap := by
      rcases hL with ⟨_, q, c, h⟩ | ⟨g, o, cap, h, _⟩
      · exact ⟨q, c, h⟩
      · exact ⟨_, _, h⟩
    obtain ⟨q, cap, rfl⟩ := hq
    exact changeP_nil c0 c1 en n j T x q cap w (by simpa using hn) hSt hr hnd he
  | s :: L, 0, j, T, x, vl, w, hn, hSt, hr, hnd, hL, hsz, hE, he => by simp at hn
  | s :: L, n + 1, j, T, x, vl, w, hn, hSt, hr, hnd, hL, hsz, hE, he => by
    have IH := changeP_ok c0 c1 en L n
    have hq : ∃ g o cap, vl = .slice (some ⟨g, o, none⟩) (s :: L).length cap ∧ (s :: L).length ≤ cap ∧ cap ≤ maxLen ∧ g < w.heap.size ∧ w.cell? ⟨g, o, none⟩ = some (.string ⟨s.toArray⟩) := by
      rcases hL with ⟨h, _⟩ | ⟨g, o, cap, h, h1, h2, h3, h4⟩
      · cases h
      · exact ⟨g, o, cap, h, h1, h2, h3, by have := h4 0 s rfl; exact this⟩
    obtain ⟨g, o, cap, rfl, hlc, hcm, hg, hc0⟩ := hq
    obtain ⟨A, hA⟩ := named_if (cap = 1) ⟨g, o, none⟩ ⟨g, o + 1, none⟩
    have hLt := strs_tail hL hA
    have hzs : (⟨s.toArray⟩ : ByteArray).size ≤ 8000000 := by rw [size_of]; exact hsz s (by simp)
    have hsd : (⟨s.toArray⟩ : ByteArray).data.toList = s := by simp
    have hln : (s :: L).length = L.length + 1 := rfl
    have hL10 : L.length ≤ 10000 ∨ 10000 < L.length := by omega
    have HLead : Hid (Calls Tryz.prog 31 #[.iface T x, .string ⟨s.toArray⟩] w (LeadPost (fun _ => False) (childP j s) w)) := by
      have h := lead_any (fun _ => False) j (.iface T x) ⟨s.toArray⟩ w hSt hr hnd hzs hE
      rw [hsd] at h
      exact h
    have HIn : Hid (∀ w1 c T' x', Below w.heap.size w w1 → childP j s = some c → S0 w1 n c (.iface T' x') → Calls Tryz.prog 35 #[.iface T' x', .slice (some A) L.length (cap - 1), .func (.func 20) #[] #[.pointer (some ⟨c0, 0, none⟩), .pointer (some ⟨c1, 0, none⟩)]] w1 (MadePost n (changeP n c L en) w1)) := by
      intro w1 c T' x' hb hc hs1
      have hnc := nodes_child hr hc
      exact IH c T' x' _ w1 (by simp at hn; omega) hs1 (rise_child hr hc) (by omega) (hLt.below hb) (fun t ht => hsz t (by simp [ht])) (hE.below hb) (he.below hb)
    have HPut : Hid (∀ w1 (c : J n) T' x', Below w.heap.size w w1 → S0 w1 n c (.iface T' x') → Calls Tryz.prog 21 #[.iface T x, .string ⟨s.toArray⟩, .iface T' x'] w1 (MadePost (n + 1) (putAt j s c) w1)) := by
      intro w1 c T' x' hb hs1
      have h := put_any j c (.iface T x) ⟨s.toArray⟩ T' x' w1 (hSt.on hb) hr hnd hs1 hzs (hE.below hb)
      rw [hsd] at h
      exact h
    have HCell : Hid (∀ w1, Below w.heap.size w w1 → w1.cell? ⟨g, o, none⟩ = some (.string ⟨s.toArray⟩)) := fun w1 hb => by
      rw [hb.cell (p := ⟨g, o, none⟩) hg]
      exact hc0
    have HCh : Hid (changeP (n + 1) j (s :: L) en = match childP j s with
        | none => .error eNone
        | some c => match changeP n c L en with
          | .error y => .error y
          | .ok c' => putAt j s c') := rfl
    unfold maxLen at hcm
    rw [hln] at hlc ⊢
    clear IH hL hLt hSt hr hnd hsz hE he hsd hL10 hzs hln
    generalize changeP (n + 1) j (s :: L) en = res at *
    generalize (⟨s.toArray⟩ : ByteArray) = sb at *
    have hI1 : ¬ ((L.length : Int) + 1 = 0) := by omega
    have hlen1 : L.length ≤ 9223372036854775806 := by omega
    go_enter Tryz.func35, Tryz.ntmps35
    go_wp2_with fail
    refine Calls.mono HLead.out ?_
    rintro e w1 ⟨b1, h1⟩
    have HB1 : Hid (Below w.heap.size w w1) := b1
    clear b1
    rcases h1 with ⟨h1, rfl⟩ | ⟨c, T', x', h1, rfl, h2⟩
    · have HR : Hid (res = .error 7) := by have := HCh.out; rw [h1] at this; exact this
      clear h1
      go_wp2_with fail
      go_ret2
      exact ⟨HB1.out, Or.inl ⟨7, HR.out, by decide, by decide, rfl⟩⟩
    · have HCc : Hid (childP j s = some c) := h1
      have HS1 : Hid (S0 w1 n c (.iface T' x')) := h2
      clear h1 h2
      go_wp2_with fail
      refine Calls.mono (HIn.out w1 c T' x' HB1.out HCc.out HS1.out) ?_
      rintro e w2 ⟨b2, h2⟩
      have HB2 : Hid (Below w.heap.size w w2) := HB1.out.trans (b2.mono HB1.out.size)
      clear b2
      rcases h2 with ⟨er, h3, h4, h5, rfl⟩ | ⟨c', T2, x2, h3, rfl, h4⟩
      · have HR : Hid (res = .error er) := by
          have := HCh.out
          rw [HCc.out] at this
          simp only [h3] at this
          exact this
        have hbe : ((er : Int) != 0) = true := by rw [bne_iff_ne]; omega
        clear h3
        go_wp2_with fail
        go_ret2
        exact ⟨HB2.out, Or.inl ⟨er, HR.out, h4, h5, rfl⟩⟩
      · have HR : Hid (res = putAt j s c') := by
          have := HCh.out
          rw [HCc.out] at this
          simp only [h3] at this
          exact this
        have HS2 : Hid (S0 w2 n c' (.iface T2 x2)) := h4
        have hc2 := HCell.out w2 HB2.out
        clear h3 h4
        go_wp2_with fail
        refine Calls.mono (HPut.out w2 c' T2 x2 HB2.out HS2.out) ?_
        rintro e w3 ⟨b3, h3⟩
        have HB3 : Hid (Below w.heap.size w w3) := HB2.out.trans (b3.mono HB2.out.size)
        clear b3
        rcases h3 with ⟨er, h3, h4, h5, rfl⟩ | ⟨j', T3, x3, h3, rfl, h4⟩
        · have HR3 : Hid (res = .error er) := HR.out.trans h3
          clear h3
          go_wp2_with fail
          go_ret2
          exact ⟨HB3.out, Or.inl ⟨er, HR3.out, h4, h5, rfl⟩⟩
        · have HR3 : Hid (res = .ok j') := HR.out.trans h3
          have HS3 : Hid (S0 w3 (n + 1) j' (.iface T3 x3)) := h4
          clear h3 h4
          go_wp2_with fail
          go_ret2
          exact ⟨HB3.out, Or.inr ⟨_, _, _, HR3.out, rfl, HS3.out⟩⟩
end Go.Proofs.YthdgfehfoidnbabGreatDoor
/- Plain facts: what is told is read as it was, wherever there is room. -/
namespace Go.Proofs.YthdgfehfoidnbabGreatDoor
set_option linter.unusedVariables false
set_option linter.unusedSimpArgs false
def noDigit (r : Bs) : Prop := isDigit (hd r) = false
theorem digit_of (m : Nat) (h : m < 10) : isDigit (UInt8.ofNat (48 + m)) = true ∧ (UInt8.ofNat (48 + m)).toNat = 48 + m := by
  have e : (UInt8.ofNat (48 + m)).toNat = 48 + m := by simp; omega
  exact ⟨(digit_iff _).2 (by omega), e⟩
theorem dec_digits : ∀ (k u : Nat), u < 10 ^ k → ∀ c ∈ Lib.decDigits u, isDigit c = true
  | 0, u, hu, c, hc => by
    have : u = 0 := by simpa using hu
    subst this
    rw [Lib.decDigits] at hc
    simp at hc
    subst hc
    decide
  | k + 1, u, hu, c, hc => by
    rw [Lib.decDigits] at hc
    split at hc
    · have hc := List.mem_singleton.1 hc
      subst hc
      exact (digit_of u (by assumption)).1
    · rcases List.mem_append.1 hc with hc | hc
      · exact dec_digits k (u / 10) (by rw [Nat.pow_succ] at hu; omega) c hc
      · have hc := List.mem_singleton.1 hc
        subst hc
        exact (digit_of (u % 10) (by omega)).1
theorem decV_snoc (ds : Bs) (c : UInt8) : decV (ds ++ [c]) = 10 * decV ds + (c.toNat - 48) := by
  unfold decV
  rw [List.foldl_append]
  rfl
theorem dec_val : ∀ (k u : Nat), u < 10 ^ k → decV (Lib.decDigits u) = u
  | 0, u, hu => by
    have : u = 0 := by simpa using hu
    subst this
    rw [Lib.decDigits]
    rfl
  | k + 1, u, hu => by
    rw [Lib.decDigits]
    split
    · rename_i h
      have := (digit_of u h).2
      show 10 * 0 + ((UInt8.ofNat (48 + u)).toNat - 48) = u
      omega
    · rw [decV_snoc, dec_val k (u / 10) (by rw [Nat.pow_succ] at hu; omega), (digit_of (u % 10) (by omega)).2]
      omega
theorem dec_first : ∀ (k u : Nat), u < 10 ^ k → 1 ≤ u → hd (Lib.decDigits u) ≠ 48
  | 0, u, hu, h1 => by simp at hu; omega
  | k + 1, u, hu, h1 => by
    rw [Lib.decDigits]
    split
    · rename_i h
      intro e
      have h2 := (digit_of u h).2
      have e' : UInt8.ofNat (48 + u) = 48 := e
      rw [e'] at h2
      have : (48 : UInt8).toNat = 48 := rfl
      omega
    · have ih := dec_first k (u / 10) (by rw [Nat.pow_succ] at hu; omega) (by omega)
      have hne := dec_ne (u / 10)
      cases hd' : Lib.decDigits (u / 10) with
      | nil => exact absurd hd' hne
      | cons c r =>
        rw [hd'] at ih
        exact ih
theorem dec_len' : ∀ (k u : Nat), 1 ≤ k → u < 10 ^ k → (Lib.decDigits u).length ≤ k
  | 0, u, h, _ => by omega
  | k + 1, u, _, hu => by
    rw [Lib.decDigits]
    split
    · simp
    · rename_i h10
      cases k with
      | zero => simp at hu; omega
      | succ k =>
        have := dec_len' (k + 1) (u / 10) (by omega) (by rw [Nat.pow_succ] at hu; omega)
        simp only [List.length_append, List.length_cons, List.length_nil]
        omega
theorem take_digits {ds r : Bs} (h : ∀ c ∈ ds, isDigit c = true) (hr : noDigit r) : (ds ++ r).takeWhile isDigit = ds ∧ (ds ++ r).dropWhile isDigit = r := by
  induction ds with
  | nil =>
    cases r with
    | nil => exact ⟨rfl, rfl⟩
    | cons c r =>
      have hc : isDigit c = false := hr
      simp [List.takeWhile_cons, List.dropWhile_cons, hc]
  | cons d ds ih =>
    have h1 := h d (by simp)
    have h2 := ih (fun c hc => h c (by simp [hc]))
    simp [List.takeWhile_cons, List.dropWhile_cons, h1, h2]
theorem number_dec (below : Bool) (u : Nat) (r : Bs) (hu : u < 10 ^ 18) (hb : below = true → 1 ≤ u) (hr : noDigit r) :
    number ((if below then [45] else []) ++ (Lib.decDigits u ++ r)) = .ok (some (Sum.inr (Sum.inl (if below then -(u : Int) else (u : Int)))), r) := by
  have hdg := dec_digits 18 u hu
  have hv := dec_val 18 u hu
  have hl := dec_len' 18 u (by decide) hu
  have hne := dec_ne u
  have htd := take_digits hdg hr
  have hfirst : hd (Lib.decDigits u) ≠ 45 ∧ (hd (Lib.decDigits u ++ r) = hd (Lib.decDigits u)) := by
    cases hd' : Lib.decDigits u with
    | nil => exact absurd hd' hne
    | cons c t =>
      have hc := (digit_iff c).1 (hdg c (by rw [hd']; simp))
      refine ⟨?_, rfl⟩
      intro e
      have e' : c = 45 := e
      rw [e'] at hc
      have : (45 : UInt8).toNat = 45 := rfl
      omega
  cases below with
  | true =>
    have h1 := hb rfl
    have hf := dec_first 18 u hu h1
    show number (45 :: (Lib.decDigits u ++ r)) = _
    unfold number
    have e1 : (hd (45 :: (Lib.decDigits u ++ r)) == 45) = true := rfl
    simp only [e1, if_true, List.tail_cons, htd.1, htd.2]
    rw [if_neg hne, if_neg (fun e => hf e.1), if_neg (by omega)]
    simp only [numVal, if_true, hv]
  | false =>
    show number (Lib.decDigits u ++ r) = _
    unfold number
    have e1 : (hd (Lib.decDigits u ++ r) == 45) = false := by
      rw [hfirst.2]
      exact beq_eq_false_iff_ne.2 hfirst.1
    simp only [e1, Bool.false_eq_true, if_false, htd.1, htd.2]
    rw [if_neg hne, if_neg, if_neg (by omega)]
    · simp only [numVal, Bool.false_eq_true, if_false, hv]
    · rintro ⟨h1, h2⟩
      rcases h2 with h2 | h2
      · cases h2
      · by_cases h0 : u = 0
        · subst h0
          rw [Lib.decDigits] at h2
          simp at h2
        · exact dec_first 18 u hu (by omega) h1
/-- how a leaf that is told begins, and that it is read -/
theorem leafE_tell (l : Leaf) (h : GoodLeaf l) (r : Bs) (hr : noDigit r) : leafE (tellLeaf l ++ r) = .ok (l, r) ∧ hd (tellLeaf l ++ r) ∈ opens ∧ blank (hd (tellLeaf l ++ r)) = false ∧ hd (tellLeaf l ++ r) ≠ 91 ∧ hd (tellLeaf l ++ r) ≠ 123 := by
  match l, h with
  | none, _ =>
    refine ⟨?_, by show (110 : UInt8) ∈ opens; decide, rfl, by show (110 : UInt8) ≠ 91; decide, by show (110 : UInt8) ≠ 123; decide⟩
    show leafE (nullB ++ r) = _
    unfold leafE
    rw [if_pos (show hd (nullB ++ r) = 110 from rfl), word, if_pos (List.isPrefixOf_iff_prefix.2 (List.prefix_append _ _))]
    simp
  | some (Sum.inl true), _ =>
    refine ⟨?_, by show (116 : UInt8) ∈ opens; decide, rfl, by show (116 : UInt8) ≠ 91; decide, by show (116 : UInt8) ≠ 123; decide⟩
    show leafE (trueB ++ r) = _
    unfold leafE
    rw [if_neg (by show (116 : UInt8) ≠ 110; decide), if_pos (show hd (trueB ++ r) = 116 from rfl), word, if_pos (List.isPrefixOf_iff_prefix.2 (List.prefix_append _ _))]
    simp
  | some (Sum.inl false), _ =>
    refine ⟨?_, by show (102 : UInt8) ∈ opens; decide, rfl, by show (102 : UInt8) ≠ 91; decide, by show (102 : UInt8) ≠ 123; decide⟩
    show leafE (falseB ++ r) = _
    unfold leafE
    rw [if_neg (by show (102 : UInt8) ≠ 110; decide), if_neg (by show (102 : UInt8) ≠ 116; decide), if_pos (show hd (falseB ++ r) = 102 from rfl), word, if_pos (List.isPrefixOf_iff_prefix.2 (List.prefix_append _ _))]
    simp
  | some (Sum.inr (Sum.inr s)), h =>
    refine ⟨?_, by show (34 : UInt8) ∈ opens; decide, rfl, by show (34 : UInt8) ≠ 91; decide, by show (34 : UInt8) ≠ 123; decide⟩
    show leafE (quote s ++ r) = _
    unfold leafE
    have e : hd (quote s ++ r) = 34 := rfl
    rw [e]
    rw [if_neg (by decide), if_neg (by decide), if_neg (by decide), if_pos rfl, textE, quoted_quote s h r]
  | some (Sum.inr (Sum.inl i)), h =>
    have h1 : -1000000000000000000 < i := h.1
    have h2 : i < 1000000000000000000 := h.2
    obtain ⟨below, u, hi, hit, hu, hb⟩ : ∃ (below : Bool) (u : Nat), i = (if below then -(u : Int) else (u : Int)) ∧ Lib.itoa i = (if below then [45] else []) ++ Lib.decDigits u ∧ u < 10 ^ 18 ∧ (below = true → 1 ≤ u) := by
      by_cases hneg : i < 0
      · exact ⟨true, i.natAbs, by simp; omega, by unfold Lib.itoa; rw [if_pos hneg]; rfl, by omega, fun _ => by omega⟩
      · exact ⟨false, i.toNat, by simp; omega, by unfold Lib.itoa; rw [if_neg hneg]; rfl, by omega, fun e => by cases e⟩
    have hn := number_dec below u r hu hb hr
    have hdg := dec_digits 18 u hu
    have hne := dec_ne u
    show leafE (Lib.itoa i ++ r) = _ ∧ hd (Lib.itoa i ++ r) ∈ opens ∧ blank (hd (Lib.itoa i ++ r)) = false ∧ hd (Lib.itoa i ++ r) ≠ 91 ∧ hd (Lib.itoa i ++ r) ≠ 123
    rw [hit, List.append_assoc]
    have hhd : hd ((if below then [45] else []) ++ (Lib.decDigits u ++ r)) = 45 ∨ (48 ≤ (hd ((if below then [45] else []) ++ (Lib.decDigits u ++ r))).toNat ∧ (hd ((if below then [45] else []) ++ (Lib.decDigits u ++ r))).toNat ≤ 57) := by
      cases below with
      | true => exact Or.inl rfl
      | false =>
        right
        cases hd' : Lib.decDigits u with
        | nil => exact absurd hd' hne
        | cons c t => exact (digit_iff c).1 (hdg c (by rw [hd']; simp))
    generalize hX : (if below then [45] else []) ++ (Lib.decDigits u ++ r) = X at *
    have hfacts : hd X ∈ opens ∧ blank (hd X) = false ∧ hd X ≠ 91 ∧ hd X ≠ 123 ∧ hd X ≠ 110 ∧ hd X ≠ 116 ∧ hd X ≠ 102 ∧ hd X ≠ 34 := by
      generalize hd X = c at hhd
      rcases hhd with rfl | ⟨ha, hb'⟩
      · decide
      · have hne' : ∀ m : Nat, m < 256 → (m < 48 ∨ 57 < m) → c ≠ UInt8.ofNat m := by
          intro m hm hm2 e
          subst e
          have : (UInt8.ofNat m).toNat = m := by simp; omega
          omega
        refine ⟨?_, ?_, hne' 91 (by decide) (by decide), hne' 123 (by decide) (by decide), hne' 110 (by decide) (by decide), hne' 116 (by decide) (by decide), hne' 102 (by decide) (by decide), hne' 34 (by decide) (by decide)⟩
        · have hall : ∀ m : Fin 10, UInt8.ofNat (48 + m.val) ∈ opens := by decide
          have hc : c = UInt8.ofNat (48 + (c.toNat - 48)) := by
            apply UInt8.toNat_inj.1
            simp
            omega
          rw [hc]
          exact hall ⟨c.toNat - 48, by omega⟩
        · have h32 := hne' 32 (by decide) (by decide)
          have h10 := hne' 10 (by decide) (by decide)
          have h9 := hne' 9 (by decide) (by decide)
          have e32 : UInt8.ofNat 32 = 32 := rfl
          have e10 : UInt8.ofNat 10 = 10 := rfl
          have e9 : UInt8.ofNat 9 = 9 := rfl
          rw [e32] at h32
          rw [e10] at h10
          rw [e9] at h9
          simp [blank, h32, h10, h9]
    refine ⟨?_, hfacts.1, hfacts.2.1, hfacts.2.2.1, hfacts.2.2.2.1⟩
    unfold leafE
    rw [if_neg hfacts.2.2.2.2.1, if_neg hfacts.2.2.2.2.2.1, if_neg hfacts.2.2.2.2.2.2.1, if_neg hfacts.2.2.2.2.2.2.2, hn, ← hi]
theorem skip_not {r : Bs} (h : blank (hd r) = false) : skip r = r := by
  cases r with
  | nil => rfl
  | cons c r =>
    have hc : blank c = false := h
    rw [skip, if_neg (by simp [hc])]
/-- what comes of reading what is told, at whatever depth and count -/
def Told (m k : Nat) (t : Bs) (many deep : Nat) (r : Bs) : Prop :=
  (∃ j' : J m, value m k (t ++ r) = .ok (j', k + many, r) ∧ tell m j' = t ∧ nodes m j' = many ∧ depth m j' = deep ∧ k + many ≤ 200 ∧ deep ≤ m) ∨
    (value m k (t ++ r) = .error 2 ∧ 200 < k + many) ∨ (value m k (t ++ r) = .error 4 ∧ m < deep)
theorem tell_leafJ (m : Nat) (l : Leaf) : tell m (leaf m l) = tellLeaf l ∧ nodes m (leaf m l) = 1 ∧ depth m (leaf m l) = 0 := by
  cases m <;> exact ⟨rfl, rfl, rfl⟩
theorem value_first {m k : Nat} {r : Bs} (hb : blank (hd r) = false) (ho : hd r ∈ opens) : (200 ≤ k → value m k r = .error 2) ∧ (k < 200 → m = 0 → (hd r = 91 ∨ hd r = 123) → value m k r = .error 4) := by
  have hsk := skip_not hb
  refine ⟨fun hk => ?_, fun hk hm hc => ?_⟩
  · have e : beginE m k (skip r) = 2 := by
      rw [hsk]
      unfold beginE
      rw [if_neg (by simpa using ho), if_pos hk]
    cases m with
    | zero => rw [value, if_pos (by rw [e]; decide), e]
    | succ m => rw [value, if_pos (by rw [e]; decide), e]
  · subst hm
    have e : beginE 0 k (skip r) = 4 := by
      rw [hsk]
      unfold beginE
      rw [if_neg (by simpa using ho), if_neg (by omega), if_pos ⟨rfl, hc⟩]
    rw [value, if_pos (by rw [e]; decide), e]
theorem told_leaf (m k : Nat) (l : Leaf) (h : GoodLeaf l) (r : Bs) (hr : noDigit r) (hk : k ≤ 200) : Told m k (tellLeaf l) 1 0 r := by
  obtain ⟨hl, ho, hb, h91, h123⟩ := leafE_tell l h r hr
  have hv := value_first (m := m) (k := k) hb ho
  have hsk := skip_not hb
  by_cases h200 : 200 ≤ k
  · exact Or.inr (Or.inl ⟨hv.1 h200, by omega⟩)
  · have e : beginE m k (skip (tellLeaf l ++ r)) = 0 := by
      rw [hsk]
      unfold beginE
      rw [if_neg (by simpa using ho), if_neg h200, if_neg]
      rintro ⟨_, h1 | h1⟩
      · exact h91 h1
      · exact h123 h1
    have hval : value m k (tellLeaf l ++ r) = .ok (leaf m l, k + 1, r) := by
      cases m with
      | zero => rw [value, if_neg (by simp [e]), leafAt, hsk, hl]
      | succ m => rw [value, if_neg (by simp [e]), hsk, if_neg h91, if_neg h123, leafAt, hl]
    have ht := tell_leafJ m l
    exact Or.inl ⟨leaf m l, hval, ht.1, ht.2.1, ht.2.2, by omega, Nat.zero_le _⟩
end Go.Proofs.YthdgfehfoidnbabGreatDoor
/- Plain facts: lists and objects that are told are read as they were, wherever there is room; so every value. -/
namespace Go.Proofs.YthdgfehfoidnbabGreatDoor
set_option linter.unusedVariables false
set_option linter.unusedSimpArgs false
/-- every value of depth n that is told is read so -/
def ToldAt (n : Nat) : Prop := ∀ (j : J n), Good n j → ∀ (m k : Nat) (r : Bs), noDigit r → k ≤ 200 → Told m k (tell n j) (nodes n j) (depth n j) r
theorem tell_hd : ∀ (n : Nat) (j : J n), Good n j → ∀ r, noDigit r → hd (tell n j ++ r) ∈ opens ∧ blank (hd (tell n j ++ r)) = false
  | 0, j, h, r, hr => ⟨(leafE_tell j h r hr).2.1, (leafE_tell j h r hr).2.2.1⟩
  | _ + 1, Sum.inl l, h, r, hr => ⟨(leafE_tell l h r hr).2.1, (leafE_tell l h r hr).2.2.1⟩
  | _ + 1, Sum.inr (Sum.inl xs), h, r, hr => ⟨by show (91 : UInt8) ∈ opens; decide, rfl⟩
  | _ + 1, Sum.inr (Sum.inr fs), h, r, hr => ⟨by show (123 : UInt8) ∈ opens; decide, rfl⟩
theorem commas_cons (t : Bs) (ts : List Bs) (r : Bs) : commas (t :: ts) ++ r = t ++ (match ts with | [] => r | _ :: _ => 44 :: (commas ts ++ r)) := by
  cases ts with
  | nil => rfl
  | cons u us => simp [commas]
theorem commas_ge : ∀ ts : List Bs, ts.length ≤ (commas ts).length + 1
  | [] => by simp
  | [x] => by simp
  | x :: y :: r => by
    have := commas_ge (y :: r)
    simp only [commas, List.length_append, List.length_cons] at this ⊢
    omega
/-- what comes of a row of values -/
def RowTold {σ : Type} (m : Nat) (res : Except Nat (σ × Nat × Bs)) (good : σ → Prop) (k many deep : Nat) (r : Bs) : Prop :=
  (∃ s, res = .ok (s, k + many, r) ∧ good s ∧ k + many ≤ 200 ∧ deep ≤ m) ∨ (res = .error 2 ∧ 200 < k + many) ∨ (res = .error 4 ∧ m < deep)
theorem items_told {n : Nat} (ih : ToldAt n) (m : Nat) (r : Bs) : ∀ (rest : List (J n)) (x : J n) (f : Nat) (s : List (J m)) (k : Nat), (∀ y ∈ x :: rest, Good n y) → rest.length < f → k ≤ 200 →
    RowTold m (rowGo 93 (oneItem (value m)) f s k (commas ((x :: rest).map (tell n)) ++ 93 :: r)) (fun s' => ∃ ys, s' = s ++ ys ∧ ys.map (tell m) = (x :: rest).map (tell n) ∧ ys.map (nodes m) = (x :: rest).map (nodes n) ∧ ys.map (depth m) = (x :: rest).map (depth n)) k ((x :: rest).map (nodes n)).sum (maxOf ((x :: rest).map (depth n))) r
  | [], x, 0, s, k, hG, hf, hk => by omega
  | [], x, f + 1, s, k, hG, hf, hk => by
    have h1 := ih x (hG x (by simp)) m k (93 :: r) (by show isDigit 93 = false; decide) hk
    have e : commas (([x] : List (J n)).map (tell n)) ++ 93 :: r = tell n x ++ 93 :: r := rfl
    rw [e]
    have em : (([x] : List (J n)).map (nodes n)).sum = nodes n x := by simp
    have ed : maxOf (([x] : List (J n)).map (depth n)) = depth n x := by simp [maxOf]
    rw [em, ed]
    rcases h1 with ⟨j', hv, ht, hn, hd', h200, hm⟩ | ⟨hv, h200⟩ | ⟨hv, hm⟩
    · refine Or.inl ⟨s ++ [j'], ?_, ⟨[j'], rfl, by simp [ht], by simp [hn], by simp [hd']⟩, h200, hm⟩
      rw [rowGo, oneItem, hv]
      rfl
    · refine Or.inr (Or.inl ⟨?_, h200⟩)
      rw [rowGo, oneItem, hv]
    · refine Or.inr (Or.inr ⟨?_, hm⟩)
      rw [rowGo, oneItem, hv]
  | y :: rest, x, 0, s, k, hG, hf, hk => by omega
  | y :: rest, x, f + 1, s, k, hG, hf, hk => by
    have h1 := ih x (hG x (by simp)) m k (44 :: (commas ((y :: rest).map (tell n)) ++ 93 :: r)) (by show isDigit 44 = false; decide) hk
    have e : commas ((x :: y :: rest).map (tell n)) ++ 93 :: r = tell n x ++ 44 :: (commas ((y :: rest).map (tell n)) ++ 93 :: r) := by
      simp [commas]
    rw [e]
    have em : ((x :: y :: rest).map (nodes n)).sum = nodes n x + ((y :: rest).map (nodes n)).sum := by simp
    have ed : maxOf ((x :: y :: rest).map (depth n)) = max (depth n x) (maxOf ((y :: rest).map (depth n))) := rfl
    rw [em, ed]
    rcases h1 with ⟨j', hv, ht, hn, hd', h200, hm⟩ | ⟨hv, h200⟩ | ⟨hv, hm⟩
    · have ih2 := items_told ih m r rest y f (s ++ [j']) (k + nodes n x) (fun z hz => hG z (by simp at hz ⊢; exact Or.inr hz)) (by simp at hf; omega) h200
      have hgo : rowGo 93 (oneItem (value m)) (f + 1) s k (tell n x ++ 44 :: (commas ((y :: rest).map (tell n)) ++ 93 :: r)) = rowGo 93 (oneItem (value m)) f (s ++ [j']) (k + nodes n x) (commas ((y :: rest).map (tell n)) ++ 93 :: r) := by
        rw [rowGo, oneItem, hv]
        rfl
      rw [hgo]
      rcases ih2 with ⟨s', hr, ⟨ys, rfl, h1, h2, h3⟩, h4, h5⟩ | ⟨hr, h4⟩ | ⟨hr, h4⟩
      · refine Or.inl ⟨s ++ [j'] ++ ys, ?_, ⟨j' :: ys, by simp, by simp [ht, h1], by simp [hn, h2], by simp [hd', h3]⟩, by omega, by omega⟩
        rw [hr]
        simp [Nat.add_assoc]
      · exact Or.inr (Or.inl ⟨hr, by omega⟩)
      · exact Or.inr (Or.inr ⟨hr, by omega⟩)
    · refine Or.inr (Or.inl ⟨?_, by omega⟩)
      rw [rowGo, oneItem, hv]
    · refine Or.inr (Or.inr ⟨?_, by omega⟩)
      rw [rowGo, oneItem, hv]
theorem value_row {m k : Nat} {c : UInt8} {X : Bs} (hk : k < 200) (hc : c = 91 ∨ c = 123) : beginE (m + 1) k (skip (c :: X)) = 0 ∧ skip (c :: X) = c :: X := by
  have hb : blank c = false := by rcases hc with rfl | rfl <;> rfl
  have hsk : skip (c :: X) = c :: X := by rw [skip, if_neg (by simp [hb])]
  refine ⟨?_, hsk⟩
  rw [hsk]
  unfold beginE
  have hh : hd (c :: X) = c := rfl
  rw [hh, if_neg (by rcases hc with rfl | rfl <;> decide), if_neg (by omega), if_neg (by rintro ⟨h, _⟩; omega)]
theorem told_list {n : Nat} (ih : ToldAt n) (xs : List (J n)) (hG : ∀ x ∈ xs, Good n x) (m k : Nat) (r : Bs) (hr : noDigit r) (hk : k ≤ 200) :
    Told m k (tell (n + 1) (Sum.inr (Sum.inl xs))) (nodes (n + 1) (Sum.inr (Sum.inl xs))) (depth (n + 1) (Sum.inr (Sum.inl xs))) r := by
  have et : tell (n + 1) (Sum.inr (Sum.inl xs)) = 91 :: (commas (xs.map (tell n)) ++ [93]) := rfl
  have en : nodes (n + 1) (Sum.inr (Sum.inl xs)) = 1 + (xs.map (nodes n)).sum := rfl
  have ed : depth (n + 1) (Sum.inr (Sum.inl xs)) = 1 + maxOf (xs.map (depth n)) := rfl
  have eX : tell (n + 1) (Sum.inr (Sum.inl xs)) ++ r = 91 :: (commas (xs.map (tell n)) ++ 93 :: r) := by rw [et]; simp
  unfold Told
  rw [eX, en, ed]
  have hv := value_first (m := m) (k := k) (r := 91 :: (commas (xs.map (tell n)) ++ 93 :: r)) rfl (by show (91 : UInt8) ∈ opens; decide)
  by_cases h200 : 200 ≤ k
  · exact Or.inr (Or.inl ⟨hv.1 h200, by omega⟩)
  cases m with
  | zero => exact Or.inr (Or.inr ⟨hv.2 (by omega) rfl (Or.inl rfl), by omega⟩)
  | succ m =>
    obtain ⟨hb, hsk⟩ := value_row (m := m) (k := k) (c := 91) (X := commas (xs.map (tell n)) ++ 93 :: r) (by omega) (Or.inl rfl)
    have hval : value (m + 1) k (91 :: (commas (xs.map (tell n)) ++ 93 :: r)) = match row 93 (oneItem (value m)) [] (k + 1) (91 :: (commas (xs.map (tell n)) ++ 93 :: r)) with
      | .error e => .error e
      | .ok (s, k', r') => .ok (Sum.inr (Sum.inl s), k', r') := by
      rw [value, if_neg (by simp [hb]), hsk, if_pos (show hd (91 :: (commas (xs.map (tell n)) ++ 93 :: r)) = 91 from rfl)]
      cases row 93 (oneItem (value m)) [] (k + 1) (91 :: (commas (xs.map (tell n)) ++ 93 :: r)) <;> rfl
    have hrow : RowTold m (row 93 (oneItem (value m)) [] (k + 1) (91 :: (commas (xs.map (tell n)) ++ 93 :: r))) (fun s' => s'.map (tell m) = xs.map (tell n) ∧ s'.map (nodes m) = xs.map (nodes n) ∧ s'.map (depth m) = xs.map (depth n)) (k + 1) (xs.map (nodes n)).sum (maxOf (xs.map (depth n))) r := by
      cases xs with
      | nil =>
        refine Or.inl ⟨[], ?_, ⟨rfl, rfl, rfl⟩, by simp; omega, by simp [maxOf]⟩
        rfl
      | cons x rest =>
        have hh := tell_hd n x (hG x (by simp)) (match rest.map (tell n) with | [] => 93 :: r | _ :: _ => 44 :: (commas (rest.map (tell n)) ++ 93 :: r)) (by cases rest.map (tell n) <;> rfl)
        have eC : commas ((x :: rest).map (tell n)) ++ 93 :: r = tell n x ++ (match rest.map (tell n) with | [] => 93 :: r | _ :: _ => 44 :: (commas (rest.map (tell n)) ++ 93 :: r)) := commas_cons (tell n x) (rest.map (tell n)) (93 :: r)
        rw [← eC] at hh
        have hi := items_told ih m r rest x ((91 :: (commas ((x :: rest).map (tell n)) ++ 93 :: r)).length + 1) [] (k + 1) hG (by
          have := commas_ge ((x :: rest).map (tell n))
          simp only [List.length_map, List.length_cons, List.length_append] at this ⊢
          omega) (by omega)
        have hne : hd (commas ((x :: rest).map (tell n)) ++ 93 :: r) ≠ 93 := by
          intro e
          rw [e] at hh
          exact absurd hh.1 (by decide)
        have hgo : row 93 (oneItem (value m)) [] (k + 1) (91 :: (commas ((x :: rest).map (tell n)) ++ 93 :: r)) = rowGo 93 (oneItem (value m)) ((91 :: (commas ((x :: rest).map (tell n)) ++ 93 :: r)).length + 1) [] (k + 1) (commas ((x :: rest).map (tell n)) ++ 93 :: r) := by
          rw [row, List.tail_cons, skip_not hh.2, if_neg hne]
        rw [hgo]
        rcases hi with ⟨s', h1, ⟨ys, rfl, h2, h3, h4⟩, h5, h6⟩ | h | h
        · exact Or.inl ⟨_, h1, ⟨by simpa using h2, by simpa using h3, by simpa using h4⟩, h5, h6⟩
        · exact Or.inr (Or.inl h)
        · exact Or.inr (Or.inr h)
    rw [hval]
    rcases hrow with ⟨s', h1, ⟨h2, h3, h4⟩, h5, h6⟩ | ⟨h1, h5⟩ | ⟨h1, h5⟩
    · refine Or.inl ⟨Sum.inr (Sum.inl s'), ?_, ?_, ?_, ?_, by omega, by omega⟩
      · rw [h1]
        simp only [Nat.add_assoc]
      · show 91 :: (commas (s'.map (tell m)) ++ [93]) = _
        rw [h2, et]
      · show 1 + (s'.map (nodes m)).sum = _
        rw [h3]
      · show 1 + maxOf (s'.map (depth m)) = _
        rw [h4]
    · exact Or.inr (Or.inl ⟨by rw [h1], by omega⟩)
    · exact Or.inr (Or.inr ⟨by rw [h1], by omega⟩)
/-- the text of a field -/
def fieldT (n : Nat) (f : Bs × J n) : Bs := quote f.1 ++ 58 :: tell n f.2
theorem insert_end_of {α : Type} {s : List (Bs × α)} {nm : Bs} (v : α) (h : ∀ g ∈ s, less g.1 nm = true) : insertAt s nm v = s ++ [(nm, v)] := by
  have hp : placeOfName s nm = s.length := place_of s nm s.length (Nat.le_refl _) (fun x f hx hf => h f (List.mem_of_getElem? hf)) (fun f hf => by rw [List.getElem?_eq_none (Nat.le_refl _)] at hf; cases hf)
  rw [insert_eq, hp]
  simp
theorem any_of_less {α : Type} {s : List (Bs × α)} {nm : Bs} (h : ∀ g ∈ s, less g.1 nm = true) : (s.any fun f => f.1 == nm) = false := by
  rw [List.any_eq_false]
  intro f hf e
  have e' : f.1 = nm := by simpa using e
  have := h f hf
  rw [e', less_iff, cmp_self] at this
  omega
theorem nameE_told {α : Type} {s : List (Bs × α)} {nm X : Bs} (hm : ∀ c ∈ nm, meant c = true) (h : ∀ g ∈ s, less g.1 nm = true) : nameE s (quote nm ++ 58 :: X) = .ok (nm, X) := by
  have hsk : skip (quote nm ++ 58 :: X) = quote nm ++ 58 :: X := skip_not rfl
  unfold nameE
  rw [hsk, quoted_quote nm hm]
  simp only []
  rw [if_neg (by rw [any_of_less h]; decide)]
  have e : skip (58 :: X) = 58 :: X := skip_not rfl
  rw [e, if_pos (show hd (58 :: X) = 58 from rfl)]
  rfl
theorem fields_told {n : Nat} (ih : ToldAt n) (m : Nat) (r : Bs) : ∀ (rest : List (Bs × J n)) (x : Bs × J n) (f : Nat) (s : List (Bs × J m)) (k : Nat), (∀ y ∈ x :: rest, (∀ c ∈ y.1, meant c = true) ∧ Good n y.2) → Rising (x :: rest) → (∀ g ∈ s, ∀ y ∈ x :: rest, less g.1 y.1 = true) → rest.length < f → k ≤ 200 →
    RowTold m (rowGo 125 (oneField (value m)) f s k (commas ((x :: rest).map (fieldT n)) ++ 125 :: r)) (fun s' => ∃ ys, s' = s ++ ys ∧ ys.map (fieldT m) = (x :: rest).map (fieldT n) ∧ ys.map (fun f => nodes m f.2) = (x :: rest).map (fun f => nodes n f.2) ∧ ys.map (fun f => depth m f.2) = (x :: rest).map (fun f => depth n f.2)) k ((x :: rest).map (fun f => nodes n f.2)).sum (maxOf ((x :: rest).map (fun f => depth n f.2))) r
  | [], x, 0, s, k, hG, hR, hs, hf, hk => by omega
  | [], x, f + 1, s, k, hG, hR, hs, hf, hk => by
    have hx := hG x (by simp)
    have h1 := ih x.2 hx.2 m k (125 :: r) (by show isDigit 125 = false; decide) hk
    have e : commas (([x] : List (Bs × J n)).map (fieldT n)) ++ 125 :: r = quote x.1 ++ 58 :: (tell n x.2 ++ 125 :: r) := by simp [commas, fieldT]
    have hn := nameE_told (X := tell n x.2 ++ 125 :: r) hx.1 (fun g hg => hs g hg x (by simp))
    rw [e]
    have em : (([x] : List (Bs × J n)).map (fun f => nodes n f.2)).sum = nodes n x.2 := by simp
    have ed : maxOf (([x] : List (Bs × J n)).map (fun f => depth n f.2)) = depth n x.2 := by simp [maxOf]
    rw [em, ed]
    rcases h1 with ⟨j', hv, ht, hnn, hd', h200, hm⟩ | ⟨hv, h200⟩ | ⟨hv, hm⟩
    · refine Or.inl ⟨s ++ [(x.1, j')], ?_, ⟨[(x.1, j')], rfl, by simp [ht, fieldT], by simp [hnn], by simp [hd']⟩, h200, hm⟩
      rw [rowGo, oneField, hn]
      simp only [hv]
      rw [insert_end_of j' (fun g hg => hs g hg x (by simp))]
      rfl
    · refine Or.inr (Or.inl ⟨?_, h200⟩)
      rw [rowGo, oneField, hn]
      simp only [hv]
    · refine Or.inr (Or.inr ⟨?_, hm⟩)
      rw [rowGo, oneField, hn]
      simp only [hv]
  | y :: rest, x, 0, s, k, hG, hR, hs, hf, hk => by omega
  | y :: rest, x, f + 1, s, k, hG, hR, hs, hf, hk => by
    have hx := hG x (by simp)
    have h1 := ih x.2 hx.2 m k (44 :: (commas ((y :: rest).map (fieldT n)) ++ 125 :: r)) (by show isDigit 44 = false; decide) hk
    have e : commas ((x :: y :: rest).map (fieldT n)) ++ 125 :: r = quote x.1 ++ 58 :: (tell n x.2 ++ 44 :: (commas ((y :: rest).map (fieldT n)) ++ 125 :: r)) := by simp [commas, fieldT]
    have hn := nameE_told (X := tell n x.2 ++ 44 :: (commas ((y :: rest).map (fieldT n)) ++ 125 :: r)) hx.1 (fun g hg => hs g hg x (by simp))
    rw [e]
    have em : ((x :: y :: rest).map (fun f => nodes n f.2)).sum = nodes n x.2 + ((y :: rest).map (fun f => nodes n f.2)).sum := by simp
    have ed : maxOf ((x :: y :: rest).map (fun f => depth n f.2)) = max (depth n x.2) (maxOf ((y :: rest).map (fun f => depth n f.2))) := rfl
    rw [em, ed]
    have hR' := List.pairwise_cons.1 hR
    rcases h1 with ⟨j', hv, ht, hnn, hd', h200, hm⟩ | ⟨hv, h200⟩ | ⟨hv, hm⟩
    · have ih2 := fields_told ih m r rest y f (s ++ [(x.1, j')]) (k + nodes n x.2) (fun z hz => hG z (by simp at hz ⊢; exact Or.inr hz)) hR'.2 (fun g hg z hz => by
          rcases List.mem_append.1 hg with hg | hg
          · exact hs g hg z (by simp at hz ⊢; exact Or.inr hz)
          · have hg := List.mem_singleton.1 hg
            subst hg
            exact hR'.1 z hz) (by simp at hf; omega) h200
      have hgo : rowGo 125 (oneField (value m)) (f + 1) s k (quote x.1 ++ 58 :: (tell n x.2 ++ 44 :: (commas ((y :: rest).map (fieldT n)) ++ 125 :: r))) = rowGo 125 (oneField (value m)) f (s ++ [(x.1, j')]) (k + nodes n x.2) (commas ((y :: rest).map (fieldT n)) ++ 125 :: r) := by
        rw [rowGo, oneField, hn]
        simp only [hv]
        rw [insert_end_of j' (fun g hg => hs g hg x (by simp))]
        rfl
      rw [hgo]
      rcases ih2 with ⟨s', hr, ⟨ys, rfl, h1, h2, h3⟩, h4, h5⟩ | ⟨hr, h4⟩ | ⟨hr, h4⟩
      · refine Or.inl ⟨s ++ [(x.1, j')] ++ ys, ?_, ⟨(x.1, j') :: ys, by simp, by simp [ht, h1, fieldT], by simp [hnn, h2], by simp [hd', h3]⟩, by omega, by omega⟩
        rw [hr]
        simp [Nat.add_assoc]
      · exact Or.inr (Or.inl ⟨hr, by omega⟩)
      · exact Or.inr (Or.inr ⟨hr, by omega⟩)
    · refine Or.inr (Or.inl ⟨?_, by omega⟩)
      rw [rowGo, oneField, hn]
      simp only [hv]
    · refine Or.inr (Or.inr ⟨?_, by omega⟩)
      rw [rowGo, oneField, hn]
      simp only [hv]
theorem told_object {n : Nat} (ih : ToldAt n) (fs : List (Bs × J n)) (hR : Rising fs) (hG : ∀ f ∈ fs, (∀ c ∈ f.1, meant c = true) ∧ Good n f.2) (m k : Nat) (r : Bs) (hr : noDigit r) (hk : k ≤ 200) :
    Told m k (tell (n + 1) (Sum.inr (Sum.inr fs))) (nodes (n + 1) (Sum.inr (Sum.inr fs))) (depth (n + 1) (Sum.inr (Sum.inr fs))) r := by
  have et : tell (n + 1) (Sum.inr (Sum.inr fs)) = 123 :: (commas (fs.map (fieldT n)) ++ [125]) := rfl
  have en : nodes (n + 1) (Sum.inr (Sum.inr fs)) = 1 + (fs.map (fun f => nodes n f.2)).sum := rfl
  have ed : depth (n + 1) (Sum.inr (Sum.inr fs)) = 1 + maxOf (fs.map (fun f => depth n f.2)) := rfl
  have eX : tell (n + 1) (Sum.inr (Sum.inr fs)) ++ r = 123 :: (commas (fs.map (fieldT n)) ++ 125 :: r) := by rw [et]; simp
  unfold Told
  rw [eX, en, ed]
  have hv := value_first (m := m) (k := k) (r := 123 :: (commas (fs.map (fieldT n)) ++ 125 :: r)) rfl (by show (123 : UInt8) ∈ opens; decide)
  by_cases h200 : 200 ≤ k
  · exact Or.inr (Or.inl ⟨hv.1 h200, by omega⟩)
  cases m with
  | zero => exact Or.inr (Or.inr ⟨hv.2 (by omega) rfl (Or.inr rfl), by omega⟩)
  | succ m =>
    obtain ⟨hb, hsk⟩ := value_row (m := m) (k := k) (c := 123) (X := commas (fs.map (fieldT n)) ++ 125 :: r) (by omega) (Or.inr rfl)
    have hval : value (m + 1) k (123 :: (commas (fs.map (fieldT n)) ++ 125 :: r)) = match row 125 (oneField (value m)) [] (k + 1) (123 :: (commas (fs.map (fieldT n)) ++ 125 :: r)) with
      | .error e => .error e
      | .ok (s, k', r') => .ok (Sum.inr (Sum.inr s), k', r') := by
      rw [value, if_neg (by simp [hb]), hsk, if_neg (show ¬ hd (123 :: (commas (fs.map (fieldT n)) ++ 125 :: r)) = 91 from by show ¬ (123 : UInt8) = 91; decide), if_pos (show hd (123 :: (commas (fs.map (fieldT n)) ++ 125 :: r)) = 123 from rfl)]
      cases row 125 (oneField (value m)) [] (k + 1) (123 :: (commas (fs.map (fieldT n)) ++ 125 :: r)) <;> rfl
    have hrow : RowTold m (row 125 (oneField (value m)) [] (k + 1) (123 :: (commas (fs.map (fieldT n)) ++ 125 :: r))) (fun s' => s'.map (fieldT m) = fs.map (fieldT n) ∧ s'.map (fun f => nodes m f.2) = fs.map (fun f => nodes n f.2) ∧ s'.map (fun f => depth m f.2) = fs.map (fun f => depth n f.2)) (k + 1) (fs.map (fun f => nodes n f.2)).sum (maxOf (fs.map (fun f => depth n f.2))) r := by
      cases fs with
      | nil =>
        refine Or.inl ⟨[], ?_, ⟨rfl, rfl, rfl⟩, by simp; omega, by simp [maxOf]⟩
        rfl
      | cons x rest =>
        have hi := fields_told ih m r rest x ((123 :: (commas ((x :: rest).map (fieldT n)) ++ 125 :: r)).length + 1) [] (k + 1) hG hR (fun g hg => by simp at hg) (by
          have := commas_ge ((x :: rest).map (fieldT n))
          simp only [List.length_map, List.length_cons, List.length_append] at this ⊢
          omega) (by omega)
        have hh : hd (commas ((x :: rest).map (fieldT n)) ++ 125 :: r) = 34 := by
          cases rest <;> rfl
        have hgo : row 125 (oneField (value m)) [] (k + 1) (123 :: (commas ((x :: rest).map (fieldT n)) ++ 125 :: r)) = rowGo 125 (oneField (value m)) ((123 :: (commas ((x :: rest).map (fieldT n)) ++ 125 :: r)).length + 1) [] (k + 1) (commas ((x :: rest).map (fieldT n)) ++ 125 :: r) := by
          rw [row, List.tail_cons, skip_not (by rw [hh]; rfl), if_neg (by rw [hh]; decide)]
        rw [hgo]
        rcases hi with ⟨s', h1, ⟨ys, rfl, h2, h3, h4⟩, h5, h6⟩ | h | h
        · exact Or.inl ⟨_, h1, ⟨by simpa using h2, by simpa using h3, by simpa using h4⟩, h5, h6⟩
        · exact Or.inr (Or.inl h)
        · exact Or.inr (Or.inr h)
    rw [hval]
    rcases hrow with ⟨s', h1, ⟨h2, h3, h4⟩, h5, h6⟩ | ⟨h1, h5⟩ | ⟨h1, h5⟩
    · refine Or.inl ⟨Sum.inr (Sum.inr s'), ?_, ?_, ?_, ?_, by omega, by omega⟩
      · rw [h1]
        simp only [Nat.add_assoc]
      · show 123 :: (commas (s'.map (fieldT m)) ++ [125]) = _
        rw [h2, et]
      · show 1 + (s'.map (fun f => nodes m f.2)).sum = _
        rw [h3]
      · show 1 + maxOf (s'.map (fun f => depth m f.2)) = _
        rw [h4]
    · exact Or.inr (Or.inl ⟨by rw [h1], by omega⟩)
    · exact Or.inr (Or.inr ⟨by rw [h1], by omega⟩)
theorem told_any : ∀ n, ToldAt n
  | 0 => fun j h m k r hr hk => told_leaf m k j h r hr hk
  | n + 1 => fun j h m k r hr hk => by
    have ih := told_any n
    match j, h with
    | Sum.inl l, h => exact told_leaf m k l h r hr hk
    | Sum.inr (Sum.inl xs), h => exact told_list ih xs h m k r hr hk
    | Sum.inr (Sum.inr fs), h => exact told_object ih fs h.1 h.2 m k r hr hk
end Go.Proofs.YthdgfehfoidnbabGreatDoor
/- Plain facts: how many values are read and how deep they lie; what is told, alone and within a list, is read so. -/
namespace Go.Proofs.YthdgfehfoidnbabGreatDoor
set_option linter.unusedVariables false
set_option linter.unusedSimpArgs false
theorem maxOf_bound {b : Nat} : ∀ (l : List Nat), (∀ y ∈ l, y ≤ b) → maxOf l ≤ b
  | [], _ => Nat.zero_le _
  | x :: l, h => by
    have h1 := maxOf_bound l (fun z hz => h z (by simp [hz]))
    have h2 := h x (by simp)
    simp only [maxOf]
    omega
theorem depth_le : ∀ (n : Nat) (j : J n), depth n j ≤ n
  | 0, _ => Nat.le_refl _
  | _ + 1, Sum.inl _ => Nat.zero_le _
  | n + 1, Sum.inr (Sum.inl xs) => by
    have := maxOf_bound (b := n) (xs.map (depth n)) (fun y hy => by
      obtain ⟨z, _, rfl⟩ := List.mem_map.1 hy
      exact depth_le n z)
    show 1 + maxOf (xs.map (depth n)) ≤ n + 1
    omega
  | n + 1, Sum.inr (Sum.inr fs) => by
    have := maxOf_bound (b := n) (fs.map (fun f => depth n f.2)) (fun y hy => by
      obtain ⟨z, _, rfl⟩ := List.mem_map.1 hy
      exact depth_le n z.2)
    show 1 + maxOf (fs.map (fun f => depth n f.2)) ≤ n + 1
    omega
theorem rowGo_inv {σ : Type} {z : UInt8} {one : σ → Nat → Bs → Except Nat (σ × Nat × Bs)} {P : σ → Nat → Prop} (h : ∀ s k r s' k' r', P s k → one s k r = .ok (s', k', r') → P s' k') : ∀ (f : Nat) (s : σ) (k : Nat) (r : Bs) (s' : σ) (k' : Nat) (r' : Bs), P s k → rowGo z one f s k r = .ok (s', k', r') → P s' k'
  | 0, s, k, r, s', k', r', hs, e => by simp [rowGo] at e
  | f + 1, s, k, r, s', k', r', hs, e => by
    rw [rowGo] at e
    cases ho : one s k r with
    | error er => rw [ho] at e; cases e
    | ok p =>
      obtain ⟨s1, k1, r1⟩ := p
      have h1 := h s k r s1 k1 r1 hs ho
      rw [ho] at e
      simp only [] at e
      split at e
      · cases e; exact h1
      · split at e
        · exact rowGo_inv h f s1 k1 _ s' k' r' h1 e
        · cases e
theorem row_inv {σ : Type} {z : UInt8} {one : σ → Nat → Bs → Except Nat (σ × Nat × Bs)} {P : σ → Nat → Prop} (h : ∀ s k r s' k' r', P s k → one s k r = .ok (s', k', r') → P s' k') (s : σ) (k : Nat) (r : Bs) (s' : σ) (k' : Nat) (r' : Bs) (hs : P s k) (e : row z one s k r = .ok (s', k', r')) : P s' k' := by
  unfold row at e
  split at e
  · cases e; exact hs
  · exact rowGo_inv h _ _ _ _ _ _ _ hs e
theorem begin_room {n k : Nat} {r : Bs} (h : beginE n k r = 0) : k < 200 := by
  unfold beginE at h
  split at h
  · simp at h
  · split at h
    · simp at h
    · omega
theorem value_size : ∀ (n : Nat) (k : Nat) (r : Bs) (j : J n) (k' : Nat) (r' : Bs), value n k r = .ok (j, k', r') → k' = k + nodes n j ∧ k' ≤ 200
  | 0, k, r, j, k', r', e => by
    have hb := begin_room (value_cases e).1
    rcases (value_cases e).2 with ⟨l, _, _, hl, rfl, rfl⟩ | ⟨m, hm, _⟩ | ⟨m, hm, _⟩
    · exact ⟨rfl, by omega⟩
    · cases hm
    · cases hm
  | n + 1, k, r, j, k', r', e => by
    have hb := begin_room (value_cases e).1
    rcases (value_cases e).2 with ⟨l, _, _, hl, rfl, rfl⟩ | ⟨m, hm, xs, _, hr, hj⟩ | ⟨m, hm, fs, _, hr, hj⟩
    · exact ⟨rfl, by omega⟩
    · cases hm
      subst hj
      have h := row_inv (one := oneItem (value n)) (P := fun s q => q = k + 1 + (s.map (nodes n)).sum ∧ q ≤ 200) (fun s q r s' q' r' hs ho => by
        obtain ⟨v, hv, rfl⟩ := oneItem_ok ho
        obtain ⟨h1, h2⟩ := value_size n q r v q' r' hv
        refine ⟨?_, h2⟩
        simp only [List.map_append, List.sum_append, List.map_cons, List.map_nil, List.sum_cons, List.sum_nil]
        omega) _ _ _ _ _ _ ⟨by simp, by omega⟩ hr
      refine ⟨?_, h.2⟩
      show k' = k + (1 + (xs.map (nodes n)).sum)
      omega
    · cases hm
      subst hj
      have h := row_inv (one := oneField (value n)) (P := fun s q => q = k + 1 + (s.map (fun f => nodes n f.2)).sum ∧ q ≤ 200) (fun s q r s' q' r' hs ho => by
        obtain ⟨nm, v, r1, hn, hv, rfl⟩ := oneField_ok ho
        obtain ⟨h1, h2⟩ := value_size n q r1 v q' r' hv
        refine ⟨?_, h2⟩
        rw [sum_insert (fun f => nodes n f.2)]
        show q' = k + 1 + ((s.map (fun f => nodes n f.2)).sum + nodes n v)
        omega) _ _ _ _ _ _ ⟨by simp, by omega⟩ hr
      refine ⟨?_, h.2⟩
      show k' = k + (1 + (fs.map (fun f => nodes n f.2)).sum)
      omega
theorem read_val {s : Bs} {j : J 10} (h : read s = .ok j) : ∃ k r, value 10 0 s = .ok (j, k, r) ∧ skip r = [] ∧ s.length ≤ 2000 := by
  unfold read at h
  split at h
  · cases h
  · cases hv : value 10 0 s with
    | error er => rw [hv] at h; cases h
    | ok p =>
      obtain ⟨j1, k1, r1⟩ := p
      rw [hv] at h
      simp only [] at h
      split at h
      · rename_i hl hs
        cases h
        exact ⟨k1, r1, rfl, hs, by omega⟩
      · cases h
theorem nodes_one : ∀ (n : Nat) (j : J n), 1 ≤ nodes n j
  | 0, _ => Nat.le_refl _
  | _ + 1, Sum.inl _ => Nat.le_refl _
  | _ + 1, Sum.inr (Sum.inl _) => Nat.le_add_right _ _
  | _ + 1, Sum.inr (Sum.inr _) => Nat.le_add_right _ _
theorem read_size {s : Bs} {j : J 10} (h : read s = .ok j) : 1 ≤ nodes 10 j ∧ nodes 10 j ≤ 200 ∧ depth 10 j ≤ 10 := by
  obtain ⟨k, r, hv, _, _⟩ := read_val h
  obtain ⟨h1, h2⟩ := value_size _ _ _ _ _ _ hv
  exact ⟨nodes_one _ _, by omega, depth_le _ _⟩
/-- what is told of a value, read -/
theorem read_of_told {t : Bs} {many deep : Nat} (h : Told 10 0 t many deep []) (hl : t.length ≤ 2000) :
    (∃ j', read t = .ok j' ∧ tell 10 j' = t ∧ nodes 10 j' = many ∧ depth 10 j' = deep ∧ many ≤ 200 ∧ deep ≤ 10) ∨ (read t = .error 2 ∧ 200 < many) ∨ (read t = .error 4 ∧ 10 < deep) := by
  unfold Told at h
  rw [List.append_nil] at h
  unfold read
  rw [if_neg (by omega)]
  rcases h with ⟨j', hv, h1, h2, h3, h4, h5⟩ | ⟨hv, h1⟩ | ⟨hv, h1⟩
  · refine Or.inl ⟨j', ?_, h1, h2, h3, by omega, h5⟩
    rw [hv]
    rfl
  · exact Or.inr (Or.inl ⟨by rw [hv], by omega⟩)
  · exact Or.inr (Or.inr ⟨by rw [hv], h1⟩)
theorem noDigit_nil : noDigit [] := by
  show isDigit 0 = false
  decide
theorem read_again {s : Bs} {j : J 10} (h : read s = .ok j) : ∃ j', read (tell 10 j) = .ok j' ∧ tell 10 j' = tell 10 j ∧ nodes 10 j' = nodes 10 j ∧ depth 10 j' = depth 10 j := by
  obtain ⟨h1, h2, h3⟩ := read_size h
  have hs := read_short h
  rcases read_of_told (told_any 10 j (read_good h) 10 0 [] noDigit_nil (by omega)) (by omega) with ⟨j', a, b, c, d, _⟩ | ⟨_, h4⟩ | ⟨_, h4⟩
  · exact ⟨j', a, b, c, d⟩
  · omega
  · omega
theorem read_long {s : Bs} (h : 2000 < s.length) : read s = .error 2 := by
  unfold read
  rw [if_pos h]
/-- within a list -/
def wrapB (t : Bs) : Bs := 91 :: (t ++ [93])
theorem wrap_len (t : Bs) : (wrapB t).length = t.length + 2 := by simp [wrapB]
theorem read_wrap {s : Bs} {j : J 10} (h : read s = .ok j) :
    (1998 < (tell 10 j).length ∧ read (wrapB (tell 10 j)) = .error 2) ∨
    ((tell 10 j).length ≤ 1998 ∧ ((∃ j', read (wrapB (tell 10 j)) = .ok j' ∧ tell 10 j' = wrapB (tell 10 j) ∧ nodes 10 j' = nodes 10 j + 1 ∧ depth 10 j' = depth 10 j + 1 ∧ nodes 10 j < 200 ∧ depth 10 j < 10) ∨ (read (wrapB (tell 10 j)) = .error 2 ∧ nodes 10 j = 200) ∨ (read (wrapB (tell 10 j)) = .error 4 ∧ depth 10 j = 10))) := by
  obtain ⟨h1, h2, h3⟩ := read_size h
  have hw := wrap_len (tell 10 j)
  by_cases hl : 1998 < (tell 10 j).length
  · exact Or.inl ⟨hl, read_long (by omega)⟩
  · refine Or.inr ⟨by omega, ?_⟩
    have ht := told_any 11 (Sum.inr (Sum.inl [j])) (fun x hx => by
      simp only [List.mem_singleton] at hx
      rw [hx]
      exact read_good h) 10 0 [] noDigit_nil (by omega)
    have e1 : tell 11 (Sum.inr (Sum.inl [j])) = wrapB (tell 10 j) := rfl
    have e2 : nodes 11 (Sum.inr (Sum.inl [j])) = nodes 10 j + 1 := by
      show 1 + (nodes 10 j + 0) = _
      omega
    have e3 : depth 11 (Sum.inr (Sum.inl [j])) = depth 10 j + 1 := by
      show 1 + max (depth 10 j) 0 = _
      omega
    rw [e1, e2, e3] at ht
    rcases read_of_told ht (by omega) with ⟨j', a, b, c, d, e, f⟩ | ⟨a, h4⟩ | ⟨a, h4⟩
    · exact Or.inl ⟨j', a, b, c, d, by omega, by omega⟩
    · exact Or.inr (Or.inl ⟨a, by omega⟩)
    · exact Or.inr (Or.inr ⟨a, by omega⟩)
end Go.Proofs.YthdgfehfoidnbabGreatDoor
/- Contracts over this translation of json.Size, at every text. -/
namespace Go.Proofs.YthdgfehfoidnbabGreatDoor
open Go.RowKit
set_option linter.unusedVariables false
set_option linter.unusedSimpArgs false
/-- what Size answers -/
def sizeE (s : Bs) : Array Value :=
  match read s with
  | .error e => #[.int .i64 0, .int .i64 0, .int .i64 e]
  | .ok j => #[.int .i64 (nodes 10 j), .int .i64 (depth 10 j), .int .i64 0]
set_option maxRecDepth 100000 in
set_option maxHeartbeats 2000000 in
theorem size_any (t : ByteArray) (w : World) (hs : t.size ≤ maxLen) :
    Calls Tryz.prog 13 #[.string t] w fun e w' => e = .returned (.tuple (sizeE t.data.toList)) ∧ Below w.heap.size w w' := by
  go_enter Tryz.func13, Tryz.ntmps13
  go_wp2_with fail
  refine (read_any t _ hs).mono ?_
  rintro e w1 ⟨b1, h1⟩
  have HB1 : Hid (Below w.heap.size w w1) := b1
  clear b1
  rcases h1 with ⟨er, hr, her, her2, rfl⟩ | ⟨j, v, hr, rfl, hone, hst⟩
  · have HE : Hid (sizeE t.data.toList = #[.int .i64 0, .int .i64 0, .int .i64 er]) := by
      show sizeE t.data.toList = _
      rw [sizeE, hr]
    have hbe : ((er : Int) != 0) = true := by rw [bne_iff_ne]; omega
    clear hr
    go_wp2_with fail
    exact bodyPost_ret (v := .tuple #[.int .i64 0, .int .i64 0, .int .i64 er]) (by simp [results, Tryz.results13, go_sem]) rfl ⟨by rw [HE.out], HB1.out⟩
  · have HE : Hid (sizeE t.data.toList = #[.int .i64 (nodes 10 j), .int .i64 (depth 10 j), .int .i64 0]) := by
      show sizeE t.data.toList = _
      rw [sizeE, hr]
    have hz := read_size hr
    have hx := measure_ok 10 _ j v w1 hst (by omega) (by omega)
    have HX : Hid (Calls Tryz.prog 29 #[v] w1 fun e w' => e = .returned (.agg #[.int .i64 (nodes 10 j), .int .i64 (depth 10 j)]) ∧ Below w1.heap.size w1 w') := hx
    clear hr hst hx
    go_wp2_with fail
    refine Calls.mono HX.out ?_
    rintro e w2 ⟨rfl, b2⟩
    have HB2 : Hid (Below w.heap.size w w2) := HB1.out.trans (b2.mono HB1.out.size)
    clear b2
    have hxa : (w2.alloc (.cells #[.int .i64 (nodes 10 j), .int .i64 (depth 10 j)] 54)).heap[w2.heap.size]? = some (.cells #[.int .i64 (nodes 10 j), .int .i64 (depth 10 j)] 54 (0, 0)) := heap_alloc_new w2 _
    have x0 : (w2.alloc (.cells #[.int .i64 (nodes 10 j), .int .i64 (depth 10 j)] 54)).cell? ⟨w2.heap.size, 0, none⟩ = some (.int .i64 (nodes 10 j)) := by rw [cell_of_row _ _ _ _ _ _ hxa]; rfl
    have x1 : (w2.alloc (.cells #[.int .i64 (nodes 10 j), .int .i64 (depth 10 j)] 54)).cell? ⟨w2.heap.size, 1, none⟩ = some (.int .i64 (depth 10 j)) := by rw [cell_of_row _ _ _ _ _ _ hxa]; rfl
    have HBa : Hid (Below w.heap.size w (w2.alloc (.cells #[.int .i64 (nodes 10 j), .int .i64 (depth 10 j)] 54))) := HB2.out.alloc HB2.out.size _
    clear hxa
    go_wp2_with fail
    generalize w2.alloc (.cells #[.int .i64 (nodes 10 j), .int .i64 (depth 10 j)] 54) = wa at *
    go_region
    go_wp2_with fail
    exact bodyPost_ret (v := .tuple #[.int .i64 (nodes 10 j), .int .i64 (depth 10 j), .int .i64 0]) (by simp [results, Tryz.results13, go_sem]) rfl ⟨by rw [HE.out], HBa.out.drew⟩
end Go.Proofs.YthdgfehfoidnbabGreatDoor
