/- Contract of writeQuoted over this translation: a text is laid behind what was gathered, as its document says it. -/
import Derived.Test.YtaogilpkeeigoaaGreatDoorOwnPlain
import Derived.Test.YtaogilpkeeigoaaGreatDoorDocQuote
import Derived.WalkKit
import Derived.WalkSpells
namespace Go.Proofs.YtaogilpkeeigoaaGreatDoor
open Go.RowKit
set_option linter.unusedVariables false
set_option linter.unusedSimpArgs false
theorem news_at1 (w : World) (x : Value) (e : TypeId) : ∀ (j : Nat) (u : Value), [x][j]? = some u → (w.alloc (.cells #[x] e)).cell? ((⟨w.heap.size, 0, none⟩ : Addr).add j) = some u := by
  intro j u hj
  match j, hj with
  | 0, hj => simp at hj; subst hj; simp [Addr.add]
theorem news_at2 (w : World) (x y : Value) (e : TypeId) : ∀ (j : Nat) (u : Value), [x, y][j]? = some u → (w.alloc (.cells #[x, y] e)).cell? ((⟨w.heap.size, 0, none⟩ : Addr).add j) = some u := by
  intro j u hj
  match j, hj with
  | 0, hj => simp at hj; subst hj; simp [Addr.add]
  | 1, hj => simp at hj; subst hj; simp [Addr.add]
theorem news_one1 (n : Int) : ∀ u ∈ [Value.int .u8 n], u.oneCell' = true := by
  intro u hu
  simp at hu
  subst hu
  rfl
theorem news_one2 (n m : Int) : ∀ u ∈ [Value.int .u8 n, Value.int .u8 m], u.oneCell' = true := by
  intro u hu
  simp at hu
  rcases hu with rfl | rfl <;> rfl
theorem own_snoc1 {B : Nat} {w : World} {v : Value} {l : Bs} {c : UInt8} (h : w.ownsRow B 5 1 v (l.length + 1) (Lib.byteCells l ++ [.int .u8 c.toNat])) : Own B w v (l ++ [c]) := by
  unfold Own
  have e : (l ++ [c]).length = l.length + 1 := by simp
  rw [e, ← cells_snoc]
  exact h
theorem own_snoc2 {B : Nat} {w : World} {v : Value} {l : Bs} {c d : UInt8} (h : w.ownsRow B 5 1 v (l.length + 2) (Lib.byteCells l ++ [.int .u8 c.toNat, .int .u8 d.toNat])) : Own B w v (l ++ [c, d]) := by
  unfold Own
  have e : (l ++ [c, d]).length = l.length + 2 := by simp
  have e2 : Lib.byteCells (l ++ [c, d]) = Lib.byteCells l ++ [.int .u8 c.toNat, .int .u8 d.toNat] := by simp [Lib.byteCells]
  rw [e, e2]
  exact h
/-- what is laid when k bytes have been looked at -/
def laid (l s : Bs) (k : Nat) : Bs := l ++ 34 :: (s.take k).flatMap quoteB
theorem laid_zero (l s : Bs) : laid l s 0 = l ++ [34] := by simp [laid]
theorem laid_step (l : Bs) (s : ByteArray) (k : Nat) (h : k < s.size) : laid l s.data.toList (k + 1) = laid l s.data.toList k ++ quoteB s[k] := by
  unfold laid
  have h' : k < s.data.toList.length := by simpa using h
  rw [List.take_succ_eq_append_getElem h']
  have e : s.data.toList[k] = s[k] := rfl
  rw [e]
  simp
theorem laid_len (l s : Bs) (k : Nat) : (laid l s k).length ≤ l.length + (quote s).length - 1 := by
  have h1 : (s.take k).flatMap quoteB ++ (s.drop k).flatMap quoteB = s.flatMap quoteB := by rw [← List.flatMap_append, List.take_append_drop]
  have h2 := congrArg List.length h1
  simp only [laid, quote, List.length_append, List.length_cons, List.length_nil] at h2 ⊢
  omega
theorem laid_all (l s : Bs) (k : Nat) (h : s.length ≤ k) : laid l s k ++ [34] = l ++ quote s := by
  unfold laid quote
  rw [List.take_of_length_le h]
  simp
theorem quoteB_10 : quoteB 10 = [92, 110] := by decide
theorem quoteB_9 : quoteB 9 = [92, 116] := by decide
theorem quoteB_esc {c : UInt8} (h : c = 34 ∨ c = 92) : quoteB c = [92, c] := by rcases h with rfl | rfl <;> decide
theorem quoteB_one {c : UInt8} (h1 : c ≠ 10) (h2 : c ≠ 9) (h3 : c ≠ 34) (h4 : c ≠ 92) : quoteB c = [c] := by simp [quoteB, h1, h2, h3, h4]
theorem ne_b {c : UInt8} (n : Nat) (hn : n < 256) (h : c ≠ UInt8.ofNat n) : ((c.toNat : Int) == (n : Int)) = false := by
  rw [beq_eq_false_iff_ne]
  intro e
  apply h
  have : c.toNat = n := by omega
  rw [← this]
  simp
set_option maxRecDepth 100000 in
set_option maxHeartbeats 4000000 in
theorem writeQuoted_any (B : Nat) (s : ByteArray) (v : Value) (l : Bs) (w : World) (hO : Own B w v l) (hB : B ≤ w.heap.size) (hlim : l.length + (quote s.data.toList).length ≤ 1000000000) (hs : s.size ≤ 100000000) :
    Calls Tryz.prog 88 #[v, .string s] w fun e w' => ∃ v', e = .returned v' ∧ Own B w' v' (l ++ quote s.data.toList) ∧ Fr B w w' := by
  obtain ⟨i0, hi, hz0, hz1, hz2⟩ := info_parts info_u8
  have hq1 : 2 ≤ (quote s.data.toList).length := by simp [quote]
  have HO : Hid (Own B w v l) := hO
  have HB : Hid (Fr B w w) := Fr.refl _ _
  clear hO
  go_enter Tryz.func88, Tryz.ntmps88
  go_wp2_with (at_builtin; refine wpList_append_own _ rfl _ _ 99 rfl B 5 i0 (.int .u8 0) 1 1 Tryz.underlying99 hi hz0 hz1 hz2 rfl (by decide) _ _ _ rfl (World.ownsRow.alloc (HO.out) _) ⟨w.heap.size, 0, none⟩ 1 1 [.int .u8 34] rfl rfl ?c1 ?c2 ?c3 ?c4 ?c5 ?_)
  case c1 => exact news_at1 _ _ _
  case c2 => exact news_one1 _
  case c3 => unfold maxLen; omega
  case c4 => omega
  case c5 => have := HB.out.below.size; simp; omega
  intro v' w1 hown' hgrow _
  have HO1 : Hid (Own B w1 v' (l ++ [34])) := own_snoc1 hown'
  have HB1 : Hid (Fr B w w1) := (HB.out.alloc (by have := HB.out.below.size; omega) _).own (World.ownsRow.alloc (HO.out) _) (by have := HB.out.below.size; simp; omega) hgrow
  clear hown' hgrow
  go_wp2_with fail
  go_loopw [0, 5] (fun x i wr => ∃ k : Nat, k ≤ s.size ∧ i = .int .i64 k ∧ Own B wr x (laid l s.data.toList k) ∧ Fr B w wr) (fun _ i _ => s.size - (intOf i).toNat)
  case atStart => exact ⟨0, Nat.zero_le _, rfl, by rw [laid_zero]; exact HO1.out, HB1.out⟩
  case round =>
    obtain ⟨k, hk, rfl, hown, hbel⟩ := hrel
    have HR : Hid (Own B wr u0 (laid l s.data.toList k)) := hown
    have HRB : Hid (Fr B w wr) := hbel
    have hll := laid_len l s.data.toList k
    clear hown hbel
    by_cases hlt : k < s.size
    · have HL : Hid (laid l s.data.toList (k + 1) = laid l s.data.toList k ++ quoteB s[k]) := laid_step l s k hlt
      have hll2 := laid_len l s.data.toList (k + 1)
      have HLn : Hid ((laid l s.data.toList (k + 1)).length = (laid l s.data.toList k).length + (quoteB s[k]).length) := by rw [HL.out, List.length_append]; exact rfl
      by_cases h10 : s[k] = 10
      · have H10 : Hid (s[k] = 10) := h10
        have hb : ((s[k].toNat : Int) == 10) = true := by rw [h10]; rfl
        clear h10
        go_wp2_with (at_builtin; refine wpList_append_own _ rfl _ _ 99 rfl B 5 i0 (.int .u8 0) 1 1 Tryz.underlying99 hi hz0 hz1 hz2 rfl (by decide) _ _ _ rfl (World.ownsRow.alloc (HR.out) _) ⟨wr.heap.size, 0, none⟩ 2 2 [.int .u8 92, .int .u8 110] rfl rfl ?d1 ?d2 ?d3 ?d4 ?d5 ?_)
        case d1 => exact news_at2 _ _ _ _
        case d2 => exact news_one2 _ _
        case d3 => unfold maxLen; omega
        case d4 => omega
        case d5 => have := HRB.out.below.size; simp; omega
        intro v' w2 hown' hgrow _
        have HO2 : Hid (Own B w2 v' (laid l s.data.toList k ++ [92, 110])) := own_snoc2 hown'
        have HB2 : Hid (Fr B w w2) := (HRB.out.alloc (by have := HRB.out.below.size; omega) _).own (World.ownsRow.alloc (HR.out) _) (by have := HRB.out.below.size; simp; omega) hgrow
        clear hown' hgrow
        go_wp2_with fail
        go_roundw
        case rel => exact ⟨k + 1, by omega, by go_num, by rw [HL.out, H10.out, quoteB_10]; exact HO2.out, HB2.out⟩
        case measure => simp [intOf]; omega
      have H10 : Hid (s[k] ≠ 10) := h10
      have hb10 : ((s[k].toNat : Int) == 10) = false := ne_b 10 (by decide) h10
      clear h10
      by_cases h9 : s[k] = 9
      · have H9 : Hid (s[k] = 9) := h9
        have hb : ((s[k].toNat : Int) == 9) = true := by rw [h9]; rfl
        clear h9
        go_wp2_with (at_builtin; refine wpList_append_own _ rfl _ _ 99 rfl B 5 i0 (.int .u8 0) 1 1 Tryz.underlying99 hi hz0 hz1 hz2 rfl (by decide) _ _ _ rfl (World.ownsRow.alloc (HR.out) _) ⟨wr.heap.size, 0, none⟩ 2 2 [.int .u8 92, .int .u8 116] rfl rfl ?e1 ?e2 ?e3 ?e4 ?e5 ?_)
        case e1 => exact news_at2 _ _ _ _
        case e2 => exact news_one2 _ _
        case e3 => unfold maxLen; omega
        case e4 => omega
        case e5 => have := HRB.out.below.size; simp; omega
        intro v' w2 hown' hgrow _
        have HO2 : Hid (Own B w2 v' (laid l s.data.toList k ++ [92, 116])) := own_snoc2 hown'
        have HB2 : Hid (Fr B w w2) := (HRB.out.alloc (by have := HRB.out.below.size; omega) _).own (World.ownsRow.alloc (HR.out) _) (by have := HRB.out.below.size; simp; omega) hgrow
        clear hown' hgrow
        go_wp2_with fail
        go_roundw
        case rel => exact ⟨k + 1, by omega, by go_num, by rw [HL.out, H9.out, quoteB_9]; exact HO2.out, HB2.out⟩
        case measure => simp [intOf]; omega
      have H9 : Hid (s[k] ≠ 9) := h9
      have hb9 : ((s[k].toNat : Int) == 9) = false := ne_b 9 (by decide) h9
      clear h9
      by_cases h34 : s[k] = 34
      · have H34 : Hid (s[k] = 34) := h34
        have hb : ((s[k].toNat : Int) == 34) = true := by rw [h34]; rfl
        clear h34
        go_wp2_with (at_builtin; refine wpList_append_own _ rfl _ _ 99 rfl B 5 i0 (.int .u8 0) 1 1 Tryz.underlying99 hi hz0 hz1 hz2 rfl (by decide) _ _ _ rfl (World.ownsRow.alloc (HR.out) _) ⟨wr.heap.size, 0, none⟩ 2 2 [.int .u8 92, .int .u8 (s[k]).toNat] rfl rfl ?f1 ?f2 ?f3 ?f4 ?f5 ?_)
        case f1 => exact news_at2 _ _ _ _
        case f2 => exact news_one2 _ _
        case f3 => unfold maxLen; omega
        case f4 => omega
        case f5 => have := HRB.out.below.size; simp; omega
        intro v' w2 hown' hgrow _
        have HO2 : Hid (Own B w2 v' (laid l s.data.toList k ++ [92, s[k]])) := own_snoc2 hown'
        have HB2 : Hid (Fr B w w2) := (HRB.out.alloc (by have := HRB.out.below.size; omega) _).own (World.ownsRow.alloc (HR.out) _) (by have := HRB.out.below.size; simp; omega) hgrow
        clear hown' hgrow
        go_wp2_with fail
        go_roundw
        case rel => exact ⟨k + 1, by omega, by go_num, by rw [HL.out, quoteB_esc (Or.inl H34.out)]; exact HO2.out, HB2.out⟩
        case measure => simp [intOf]; omega
      have H34 : Hid (s[k] ≠ 34) := h34
      have hb34 : ((s[k].toNat : Int) == 34) = false := ne_b 34 (by decide) h34
      clear h34
      by_cases h92 : s[k] = 92
      · have H92 : Hid (s[k] = 92) := h92
        have hb : ((s[k].toNat : Int) == 92) = true := by rw [h92]; rfl
        clear h92
        go_wp2_with (at_builtin; refine wpList_append_own _ rfl _ _ 99 rfl B 5 i0 (.int .u8 0) 1 1 Tryz.underlying99 hi hz0 hz1 hz2 rfl (by decide) _ _ _ rfl (World.ownsRow.alloc (HR.out) _) ⟨wr.heap.size, 0, none⟩ 2 2 [.int .u8 92, .int .u8 (s[k]).toNat] rfl rfl ?g1 ?g2 ?g3 ?g4 ?g5 ?_)
        case g1 => exact news_at2 _ _ _ _
        case g2 => exact news_one2 _ _
        case g3 => unfold maxLen; omega
        case g4 => omega
        case g5 => have := HRB.out.below.size; simp; omega
        intro v' w2 hown' hgrow _
        have HO2 : Hid (Own B w2 v' (laid l s.data.toList k ++ [92, s[k]])) := own_snoc2 hown'
        have HB2 : Hid (Fr B w w2) := (HRB.out.alloc (by have := HRB.out.below.size; omega) _).own (World.ownsRow.alloc (HR.out) _) (by have := HRB.out.below.size; simp; omega) hgrow
        clear hown' hgrow
        go_wp2_with fail
        go_roundw
        case rel => exact ⟨k + 1, by omega, by go_num, by rw [HL.out, quoteB_esc (Or.inr H92.out)]; exact HO2.out, HB2.out⟩
        case measure => simp [intOf]; omega
      have H92 : Hid (s[k] ≠ 92) := h92
      have hb92 : ((s[k].toNat : Int) == 92) = false := ne_b 92 (by decide) h92
      clear h92
      go_wp2_with (at_builtin; refine wpList_append_own _ rfl _ _ 99 rfl B 5 i0 (.int .u8 0) 1 1 Tryz.underlying99 hi hz0 hz1 hz2 rfl (by decide) _ _ _ rfl (World.ownsRow.alloc (HR.out) _) ⟨wr.heap.size, 0, none⟩ 1 1 [.int .u8 (s[k]).toNat] rfl rfl ?h1 ?h2 ?h3 ?h4 ?h5 ?_)
      case h1 => exact news_at1 _ _ _
      case h2 => exact news_one1 _
      case h3 => unfold maxLen; omega
      case h4 => omega
      case h5 => have := HRB.out.below.size; simp; omega
      intro v' w2 hown' hgrow _
      have HO2 : Hid (Own B w2 v' (laid l s.data.toList k ++ [s[k]])) := own_snoc1 hown'
      have HB2 : Hid (Fr B w w2) := (HRB.out.alloc (by have := HRB.out.below.size; omega) _).own (World.ownsRow.alloc (HR.out) _) (by have := HRB.out.below.size; simp; omega) hgrow
      clear hown' hgrow
      go_wp2_with fail
      go_roundw
      case rel => exact ⟨k + 1, by omega, by go_num, by rw [HL.out, quoteB_one H10.out H9.out H34.out H92.out]; exact HO2.out, HB2.out⟩
      case measure => simp [intOf]; omega
    · have HL : Hid (laid l s.data.toList k ++ [34] = l ++ quote s.data.toList) := laid_all l _ k (by simp; omega)
      go_wp2_with (at_builtin; refine wpList_append_own _ rfl _ _ 99 rfl B 5 i0 (.int .u8 0) 1 1 Tryz.underlying99 hi hz0 hz1 hz2 rfl (by decide) _ _ _ rfl (World.ownsRow.alloc (HR.out) _) ⟨wr.heap.size, 0, none⟩ 1 1 [.int .u8 34] rfl rfl ?m1 ?m2 ?m3 ?m4 ?m5 ?_)
      case m1 => exact news_at1 _ _ _
      case m2 => exact news_one1 _
      case m3 => unfold maxLen; omega
      case m4 => omega
      case m5 => have := HRB.out.below.size; simp; omega
      intro v' w2 hown' hgrow _
      have HO2 : Hid (Own B w2 v' (laid l s.data.toList k ++ [34])) := own_snoc1 hown'
      have HB2 : Hid (Fr B w w2) := (HRB.out.alloc (by have := HRB.out.below.size; omega) _).own (World.ownsRow.alloc (HR.out) _) (by have := HRB.out.below.size; simp; omega) hgrow
      clear hown' hgrow
      go_wp2_with fail
      go_ret
      exact ⟨v', rfl, by rw [← HL.out]; exact HO2.out, HB2.out⟩
end Go.Proofs.YtaogilpkeeigoaaGreatDoor
