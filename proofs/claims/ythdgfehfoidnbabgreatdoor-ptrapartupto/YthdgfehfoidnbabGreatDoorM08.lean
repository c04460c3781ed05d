/- Several texts in one: WriteQuoted, Ta, TellLeaf, TellAny, DocShort. -/
import Derived.Test.YthdgfehfoidnbabGreatDoorM04
import Derived.Test.YthdgfehfoidnbabGreatDoorM02
import Derived.WalkKit
import Derived.WalkSpells
import Derived.Test.YthdgfehfoidnbabGreatDoorRows
import Derived.Test.YthdgfehfoidnbabGreatDoorShelf
import Derived.Test.YthdgfehfoidnbabGreatDoorM03
import Derived.Lib.AppendStr
/- Contract of writeQuoted over this translation: a text is laid behind what was gathered, as its document says it. -/
namespace Go.Proofs.YthdgfehfoidnbabGreatDoor
open Go.RowKit
set_option linter.unusedVariables false
set_option linter.unusedSimpArgs false
theorem news_at1 (w : World) (x : Value) (e : TypeId) : ∀ (j : Nat) (u : Value), [x][j]? = some u → (w.alloc (.cells #[x] e)).cell? ((⟨w.heap.size, 0, none⟩ : Addr).add j) = some u := by
  intro j u hj
  match j, hj with
  | 0, hj => simp at hj; subst hj; simp [Addr.add]
theorem news_at2 (w : World) (x y : Value) (e : TypeId) : ∀ (j : Nat) (u : Value), [x, y][j]? = some u → (w.alloc (.cells #[x, y] e)).cell? ((⟨w.heap.size, 0, none⟩ : Addr).add j) = some u := by
  intro j u hj
  match j, hj with
  | 0, hj => simp at hj; subst hj; simp [Addr.add]
  | 1, hj => simp at hj; subst hj; simp [Addr.add]
theorem news_one1 (n : Int) : ∀ u ∈ [Value.int .u8 n], u.oneCell' = true := by
  intro u hu
  simp at hu
  subst hu
  rfl
theorem news_one2 (n m : Int) : ∀ u ∈ [Value.int .u8 n, Value.int .u8 m], u.oneCell' = true := by
  intro u hu
  simp at hu
  rcases hu with rfl | rfl <;> rfl
theorem own_snoc1 {B : Nat} {w : World} {v : Value} {l : Bs} {c : UInt8} (h : w.ownsRow B 5 1 v (l.length + 1) (Lib.byteCells l ++ [.int .u8 c.toNat])) : Own B w v (l ++ [c]) := by
  unfold Own
  have e : (l ++ [c]).length = l.length + 1 := by simp
  rw [e, ← cells_snoc]
  exact h
theorem own_snoc2 {B : Nat} {w : World} {v : Value} {l : Bs} {c d : UInt8} (h : w.ownsRow B 5 1 v (l.length + 2) (Lib.byteCells l ++ [.int .u8 c.toNat, .int .u8 d.toNat])) : Own B w v (l ++ [c, d]) := by
  unfold Own
  have e : (l ++ [c, d]).length = l.length + 2 := by simp
  have e2 : Lib.byteCells (l ++ [c, d]) = Lib.byteCells l ++ [.int .u8 c.toNat, .int .u8 d.toNat] := by simp [Lib.byteCells]
  rw [e, e2]
  exact h
/-- what is laid when k bytes have been looked at -/
def laid (l s : Bs) (k : Nat) : Bs := l ++ 34 :: (s.take k).flatMap quoteB
theorem laid_zero (l s : Bs) : laid l s 0 = l ++ [34] := by simp [laid]
theorem laid_step (l : Bs) (s : ByteArray) (k : Nat) (h : k < s.size) : laid l s.data.toList (k + 1) = laid l s.data.toList k ++ quoteB s[k] := by
  unfold laid
  have h' : k < s.data.toList.length := by simpa using h
  rw [List.take_succ_eq_append_getElem h']
  have e : s.data.toList[k] = s[k] := rfl
  rw [e]
  simp
theorem laid_len (l s : Bs) (k : Nat) : (laid l s k).length ≤ l.length + (quote s).length - 1 := by
  have h1 : (s.take k).flatMap quoteB ++ (s.drop k).flatMap quoteB = s.flatMap quoteB := by rw [← List.flatMap_append, List.take_append_drop]
  have h2 := congrArg List.length h1
  simp only [laid, quote, List.length_append, List.length_cons, List.length_nil] at h2 ⊢
  omega
theorem laid_all (l s : Bs) (k : Nat) (h : s.length ≤ k) : laid l s k ++ [34] = l ++ quote s := by
  unfold laid quote
  rw [List.take_of_length_le h]
  simp
theorem quoteB_10 : quoteB 10 = [92, 110] := by decide
theorem quoteB_9 : quoteB 9 = [92, 116] := by decide
theorem quoteB_esc {c : UInt8} (h : c = 34 ∨ c = 92) : quoteB c = [92, c] := by rcases h with rfl | rfl <;> decide
theorem quoteB_one {c : UInt8} (h1 : c ≠ 10) (h2 : c ≠ 9) (h3 : c ≠ 34) (h4 : c ≠ 92) : quoteB c = [c] := by simp [quoteB, h1, h2, h3, h4]
theorem ne_b {c : UInt8} (n : Nat) (hn : n < 256) (h : c ≠ UInt8.ofNat n) : ((c.toNat : Int) == (n : Int)) = false := by
  rw [beq_eq_false_iff_ne]
  intro e
  apply h
  have : c.toNat = n := by omega
  rw [← this]
  simp
set_option maxRecDepth 100000 in
set_option maxHeartbeats 4000000 in
theorem writeQuoted_any (B : Nat) (s : ByteArray) (v : Value) (l : Bs) (w : World) (hO : Own B w v l) (hB : B ≤ w.heap.size) (hlim : l.length + (quote s.data.toList).length ≤ 1000000000) (hs : s.size ≤ 100000000) :
    Calls Tryz.prog 72 #[v, .string s] w fun e w' => ∃ v', e = .returned v' ∧ Own B w' v' (l ++ quote s.data.toList) ∧ Fr B w w' := by
  obtain ⟨i0, hi, hz0, hz1, hz2⟩ := info_parts info_u8
  have hq1 : 2 ≤ (quote s.data.toList).length := by simp [quote]
  have HO : Hid (Own B w v l) := hO
  have HB : Hid (Fr B w w) := Fr.refl _ _
  clear hO
  go_enter Tryz.func72, Tryz.ntmps72
  go_wp2_with (at_builtin; refine wpList_append_own _ rfl _ _ 89 rfl B 5 i0 (.int .u8 0) 1 1 Tryz.underlying89 hi hz0 hz1 hz2 rfl (by decide) _ _ _ rfl (World.ownsRow.alloc (HO.out) _) ⟨w.heap.size, 0, none⟩ 1 1 [.int .u8 34] rfl rfl ?c1 ?c2 ?c3 ?c4 ?c5 ?_)
  case c1 => exact news_at1 _ _ _
  case c2 => exact news_one1 _
  case c3 => unfold maxLen; omega
  case c4 => omega
  case c5 => have := HB.out.below.size; simp; omega
  intro v' w1 hown' hgrow _
  have HO1 : Hid (Own B w1 v' (l ++ [34])) := own_snoc1 hown'
  have HB1 : Hid (Fr B w w1) := (HB.out.alloc (by have := HB.out.below.size; omega) _).own (World.ownsRow.alloc (HO.out) _) (by have := HB.out.below.size; simp; omega) hgrow
  clear hown' hgrow
  go_wp2_with fail
  go_loopw [0, 5] (fun x i wr => ∃ k : Nat, k ≤ s.size ∧ i = .int .i64 k ∧ Own B wr x (laid l s.data.toList k) ∧ Fr B w wr) (fun _ i _ => s.size - (intOf i).toNat)
  case atStart => exact ⟨0, Nat.zero_le _, rfl, by rw [laid_zero]; exact HO1.out, HB1.out⟩
  case round =>
    obtain ⟨k, hk, rfl, hown, hbel⟩ := hrel
    have HR : Hid (Own B wr u0 (laid l s.data.toList k)) := hown
    have HRB : Hid (Fr B w wr) := hbel
    have hll := laid_len l s.data.toList k
    clear hown hbel
    by_cases hlt : k < s.size
    · have HL : Hid (laid l s.data.toList (k + 1) = laid l s.data.toList k ++ quoteB s[k]) := laid_step l s k hlt
      have hll2 := laid_len l s.data.toList (k + 1)
      have HLn : Hid ((laid l s.data.toList (k + 1)).length = (laid l s.data.toList k).length + (quoteB s[k]).length) := by rw [HL.out, List.length_append]; exact rfl
      by_cases h10 : s[k] = 10
      · have H10 : Hid (s[k] = 10) := h10
        have hb : ((s[k].toNat : Int) == 10) = true := by rw [h10]; rfl
        clear h10
        go_wp2_with (at_builtin; refine wpList_append_own _ rfl _ _ 89 rfl B 5 i0 (.int .u8 0) 1 1 Tryz.underlying89 hi hz0 hz1 hz2 rfl (by decide) _ _ _ rfl (World.ownsRow.alloc (HR.out) _) ⟨wr.heap.size, 0, none⟩ 2 2 [.int .u8 92, .int .u8 110] rfl rfl ?d1 ?d2 ?d3 ?d4 ?d5 ?_)
        case d1 => exact news_at2 _ _ _ _
        case d2 => exact news_one2 _ _
        case d3 => unfold maxLen; omega
        case d4 => omega
        case d5 => have := HRB.out.below.size; simp; omega
        intro v' w2 hown' hgrow _
        have HO2 : Hid (Own B w2 v' (laid l s.data.toList k ++ [92, 110])) := own_snoc2 hown'
        have HB2 : Hid (Fr B w w2) := (HRB.out.alloc (by have := HRB.out.below.size; omega) _).own (World.ownsRow.alloc (HR.out) _) (by have := HRB.out.below.size; simp; omega) hgrow
        clear hown' hgrow
        go_wp2_with fail
        go_roundw
        case rel => exact ⟨k + 1, by omega, by go_num, by rw [HL.out, H10.out, quoteB_10]; exact HO2.out, HB2.out⟩
        case measure => simp [intOf]; omega
      have H10 : Hid (s[k] ≠ 10) := h10
      have hb10 : ((s[k].toNat : Int) == 10) = false := ne_b 10 (by decide) h10
      clear h10
      by_cases h9 : s[k] = 9
      · have H9 : Hid (s[k] = 9) := h9
        have hb : ((s[k].toNat : Int) == 9) = true := by rw [h9]; rfl
        clear h9
        go_wp2_with (at_builtin; refine wpList_append_own _ rfl _ _ 89 rfl B 5 i0 (.int .u8 0) 1 1 Tryz.underlying89 hi hz0 hz1 hz2 rfl (by decide) _ _ _ rfl (World.ownsRow.alloc (HR.out) _) ⟨wr.heap.size, 0, none⟩ 2 2 [.int .u8 92, .int .u8 116] rfl rfl ?e1 ?e2 ?e3 ?e4 ?e5 ?_)
        case e1 => exact news_at2 _ _ _ _
        case e2 => exact news_one2 _ _
        case e3 => unfold maxLen; omega
        case e4 => omega
        case e5 => have := HRB.out.below.size; simp; omega
        intro v' w2 hown' hgrow _
        have HO2 : Hid (Own B w2 v' (laid l s.data.toList k ++ [92, 116])) := own_snoc2 hown'
        have HB2 : Hid (Fr B w w2) := (HRB.out.alloc (by have := HRB.out.below.size; omega) _).own (World.ownsRow.alloc (HR.out) _) (by have := HRB.out.below.size; simp; omega) hgrow
        clear hown' hgrow
        go_wp2_with fail
        go_roundw
        case rel => exact ⟨k + 1, by omega, by go_num, by rw [HL.out, H9.out, quoteB_9]; exact HO2.out, HB2.out⟩
        case measure => simp [intOf]; omega
      have H9 : Hid (s[k] ≠ 9) := h9
      have hb9 : ((s[k].toNat : Int) == 9) = false := ne_b 9 (by decide) h9
      clear h9
      by_cases h34 : s[k] = 34
      · have H34 : Hid (s[k] = 34) := h34
        have hb : ((s[k].toNat : Int) == 34) = true := by rw [h34]; rfl
        clear h34
        go_wp2_with (at_builtin; refine wpList_append_own _ rfl _ _ 89 rfl B 5 i0 (.int .u8 0) 1 1 Tryz.underlying89 hi hz0 hz1 hz2 rfl (by decide) _ _ _ rfl (World.ownsRow.alloc (HR.out) _) ⟨wr.heap.size, 0, none⟩ 2 2 [.int .u8 92, .int .u8 (s[k]).toNat] rfl rfl ?f1 ?f2 ?f3 ?f4 ?f5 ?_)
        case f1 => exact news_at2 _ _ _ _
        case f2 => exact news_one2 _ _
        case f3 => unfold maxLen; omega
        case f4 => omega
        case f5 => have := HRB.out.below.size; simp; omega
        intro v' w2 hown' hgrow _
        have HO2 : Hid (Own B w2 v' (laid l s.data.toList k ++ [92, s[k]])) := own_snoc2 hown'
        have HB2 : Hid (Fr B w w2) := (HRB.out.alloc (by have := HRB.out.below.size; omega) _).own (World.ownsRow.alloc (HR.out) _) (by have := HRB.out.below.size; simp; omega) hgrow
        clear hown' hgrow
        go_wp2_with fail
        go_roundw
        case rel => exact ⟨k + 1, by omega, by go_num, by rw [HL.out, quoteB_esc (Or.inl H34.out)]; exact HO2.out, HB2.out⟩
        case measure => simp [intOf]; omega
      have H34 : Hid (s[k] ≠ 34) := h34
      have hb34 : ((s[k].toNat : Int) == 34) = false := ne_b 34 (by decide) h34
      clear h34
      by_cases h92 : s[k] = 92
      · have H92 : Hid (s[k] = 92) := h92
        have hb : ((s[k].toNat : Int) == 92) = true := by rw [h92]; rfl
        clear h92
        go_wp2_with (at_builtin; refine wpList_append_own _ rfl _ _ 89 rfl B 5 i0 (.int .u8 0) 1 1 Tryz.underlying89 hi hz0 hz1 hz2 rfl (by decide) _ _ _ rfl (World.ownsRow.alloc (HR.out) _) ⟨wr.heap.size, 0, none⟩ 2 2 [.int .u8 92, .int .u8 (s[k]).toNat] rfl rfl ?g1 ?g2 ?g3 ?g4 ?g5 ?_)
        case g1 => exact news_at2 _ _ _ _
        case g2 => exact news_one2 _ _
        case g3 => unfold maxLen; omega
        case g4 => omega
        case g5 => have := HRB.out.below.size; simp; omega
        intro v' w2 hown' hgrow _
        have HO2 : Hid (Own B w2 v' (laid l s.data.toList k ++ [92, s[k]])) := own_snoc2 hown'
        have HB2 : Hid (Fr B w w2) := (HRB.out.alloc (by have := HRB.out.below.size; omega) _).own (World.ownsRow.alloc (HR.out) _) (by have := HRB.out.below.size; simp; omega) hgrow
        clear hown' hgrow
        go_wp2_with fail
        go_roundw
        case rel => exact ⟨k + 1, by omega, by go_num, by rw [HL.out, quoteB_esc (Or.inr H92.out)]; exact HO2.out, HB2.out⟩
        case measure => simp [intOf]; omega
      have H92 : Hid (s[k] ≠ 92) := h92
      have hb92 : ((s[k].toNat : Int) == 92) = false := ne_b 92 (by decide) h92
      clear h92
      go_wp2_with (at_builtin; refine wpList_append_own _ rfl _ _ 89 rfl B 5 i0 (.int .u8 0) 1 1 Tryz.underlying89 hi hz0 hz1 hz2 rfl (by decide) _ _ _ rfl (World.ownsRow.alloc (HR.out) _) ⟨wr.heap.size, 0, none⟩ 1 1 [.int .u8 (s[k]).toNat] rfl rfl ?h1 ?h2 ?h3 ?h4 ?h5 ?_)
      case h1 => exact news_at1 _ _ _
      case h2 => exact news_one1 _
      case h3 => unfold maxLen; omega
      case h4 => omega
      case h5 => have := HRB.out.below.size; simp; omega
      intro v' w2 hown' hgrow _
      have HO2 : Hid (Own B w2 v' (laid l s.data.toList k ++ [s[k]])) := own_snoc1 hown'
      have HB2 : Hid (Fr B w w2) := (HRB.out.alloc (by have := HRB.out.below.size; omega) _).own (World.ownsRow.alloc (HR.out) _) (by have := HRB.out.below.size; simp; omega) hgrow
      clear hown' hgrow
      go_wp2_with fail
      go_roundw
      case rel => exact ⟨k + 1, by omega, by go_num, by rw [HL.out, quoteB_one H10.out H9.out H34.out H92.out]; exact HO2.out, HB2.out⟩
      case measure => simp [intOf]; omega
    · have HL : Hid (laid l s.data.toList k ++ [34] = l ++ quote s.data.toList) := laid_all l _ k (by simp; omega)
      go_wp2_with (at_builtin; refine wpList_append_own _ rfl _ _ 89 rfl B 5 i0 (.int .u8 0) 1 1 Tryz.underlying89 hi hz0 hz1 hz2 rfl (by decide) _ _ _ rfl (World.ownsRow.alloc (HR.out) _) ⟨wr.heap.size, 0, none⟩ 1 1 [.int .u8 34] rfl rfl ?m1 ?m2 ?m3 ?m4 ?m5 ?_)
      case m1 => exact news_at1 _ _ _
      case m2 => exact news_one1 _
      case m3 => unfold maxLen; omega
      case m4 => omega
      case m5 => have := HRB.out.below.size; simp; omega
      intro v' w2 hown' hgrow _
      have HO2 : Hid (Own B w2 v' (laid l s.data.toList k ++ [34])) := own_snoc1 hown'
      have HB2 : Hid (Fr B w w2) := (HRB.out.alloc (by have := HRB.out.below.size; omega) _).own (World.ownsRow.alloc (HR.out) _) (by have := HRB.out.below.size; simp; omega) hgrow
      clear hown' hgrow
      go_wp2_with fail
      go_ret
      exact ⟨v', rfl, by rw [← HL.out]; exact HO2.out, HB2.out⟩
end Go.Proofs.YthdgfehfoidnbabGreatDoor
/- Of which kind a value is: the type tests over this translation. -/
namespace Go.Proofs.YthdgfehfoidnbabGreatDoor
open Go.RowKit
set_option linter.unusedVariables false
set_option linter.unusedSimpArgs false
theorem ta_hit {P : Program} {T xT : TypeId} {d : TypeDesc} (w : World) (hu : P.underlying T = some d) (hd : (match d with | .interface _ => false | _ => true) = true) (v : Value) :
    (Instr.typeAssert (.iface T v) xT T true).run P w = .ok (.tuple #[v, .bool true]) w := by
  unfold Instr.typeAssert
  simp only [Sem.run_bind, run_underlying hu, Result.andThen]
  cases d <;> simp_all [Sem.run_pure]
theorem ta_miss {P : Program} {T xT t : TypeId} {d : TypeDesc} {z : Value} (w : World) (hu : P.underlying T = some d) (hd : (match d with | .interface _ => false | _ => true) = true) (hz : ∀ w, (zeroValue T).run P w = .ok z w) (h : t ≠ T) (v : Value) :
    (Instr.typeAssert (.iface t v) xT T true).run P w = .ok (.tuple #[z, .bool false]) w := by
  unfold Instr.typeAssert
  simp only [Sem.run_bind, run_underlying hu, Result.andThen]
  cases d <;> simp_all [Sem.run_pure, Sem.run_bind, Result.andThen]
theorem tas_Null :
    (∀ (x : Value) (w : World), (Instr.typeAssert (.iface 81 x) 36 81 true).run Tryz.prog w = .ok (.tuple #[x, .bool true]) w) ∧
    (∀ (x : Value) (w : World), (Instr.typeAssert (.iface 81 x) 36 82 true).run Tryz.prog w = .ok (.tuple #[.bool false, .bool false]) w) ∧
    (∀ (x : Value) (w : World), (Instr.typeAssert (.iface 81 x) 36 83 true).run Tryz.prog w = .ok (.tuple #[.int .i64 0, .bool false]) w) ∧
    (∀ (x : Value) (w : World), (Instr.typeAssert (.iface 81 x) 36 84 true).run Tryz.prog w = .ok (.tuple #[.string { data := #[] }, .bool false]) w) ∧
    (∀ (x : Value) (w : World), (Instr.typeAssert (.iface 81 x) 36 69 true).run Tryz.prog w = .ok (.tuple #[.slice none 0 0, .bool false]) w) ∧
    (∀ (x : Value) (w : World), (Instr.typeAssert (.iface 81 x) 36 66 true).run Tryz.prog w = .ok (.tuple #[.slice none 0 0, .bool false]) w) :=
  ⟨fun x w => ta_hit w Tryz.underlying81 rfl x,
   fun x w => ta_miss w Tryz.underlying82 rfl Tryz.zeroValue82 (by decide) x,
   fun x w => ta_miss w Tryz.underlying83 rfl Tryz.zeroValue83 (by decide) x,
   fun x w => ta_miss w Tryz.underlying84 rfl Tryz.zeroValue84 (by decide) x,
   fun x w => ta_miss w Tryz.underlying69 rfl Tryz.zeroValue69 (by decide) x,
   fun x w => ta_miss w Tryz.underlying66 rfl Tryz.zeroValue66 (by decide) x⟩
theorem tas_Bool :
    (∀ (x : Value) (w : World), (Instr.typeAssert (.iface 82 x) 36 81 true).run Tryz.prog w = .ok (.tuple #[.agg #[], .bool false]) w) ∧
    (∀ (x : Value) (w : World), (Instr.typeAssert (.iface 82 x) 36 82 true).run Tryz.prog w = .ok (.tuple #[x, .bool true]) w) ∧
    (∀ (x : Value) (w : World), (Instr.typeAssert (.iface 82 x) 36 83 true).run Tryz.prog w = .ok (.tuple #[.int .i64 0, .bool false]) w) ∧
    (∀ (x : Value) (w : World), (Instr.typeAssert (.iface 82 x) 36 84 true).run Tryz.prog w = .ok (.tuple #[.string { data := #[] }, .bool false]) w) ∧
    (∀ (x : Value) (w : World), (Instr.typeAssert (.iface 82 x) 36 69 true).run Tryz.prog w = .ok (.tuple #[.slice none 0 0, .bool false]) w) ∧
    (∀ (x : Value) (w : World), (Instr.typeAssert (.iface 82 x) 36 66 true).run Tryz.prog w = .ok (.tuple #[.slice none 0 0, .bool false]) w) :=
  ⟨fun x w => ta_miss w Tryz.underlying81 rfl Tryz.zeroValue81 (by decide) x,
   fun x w => ta_hit w Tryz.underlying82 rfl x,
   fun x w => ta_miss w Tryz.underlying83 rfl Tryz.zeroValue83 (by decide) x,
   fun x w => ta_miss w Tryz.underlying84 rfl Tryz.zeroValue84 (by decide) x,
   fun x w => ta_miss w Tryz.underlying69 rfl Tryz.zeroValue69 (by decide) x,
   fun x w => ta_miss w Tryz.underlying66 rfl Tryz.zeroValue66 (by decide) x⟩
theorem tas_Number :
    (∀ (x : Value) (w : World), (Instr.typeAssert (.iface 83 x) 36 81 true).run Tryz.prog w = .ok (.tuple #[.agg #[], .bool false]) w) ∧
    (∀ (x : Value) (w : World), (Instr.typeAssert (.iface 83 x) 36 82 true).run Tryz.prog w = .ok (.tuple #[.bool false, .bool false]) w) ∧
    (∀ (x : Value) (w : World), (Instr.typeAssert (.iface 83 x) 36 83 true).run Tryz.prog w = .ok (.tuple #[x, .bool true]) w) ∧
    (∀ (x : Value) (w : World), (Instr.typeAssert (.iface 83 x) 36 84 true).run Tryz.prog w = .ok (.tuple #[.string { data := #[] }, .bool false]) w) ∧
    (∀ (x : Value) (w : World), (Instr.typeAssert (.iface 83 x) 36 69 true).run Tryz.prog w = .ok (.tuple #[.slice none 0 0, .bool false]) w) ∧
    (∀ (x : Value) (w : World), (Instr.typeAssert (.iface 83 x) 36 66 true).run Tryz.prog w = .ok (.tuple #[.slice none 0 0, .bool false]) w) :=
  ⟨fun x w => ta_miss w Tryz.underlying81 rfl Tryz.zeroValue81 (by decide) x,
   fun x w => ta_miss w Tryz.underlying82 rfl Tryz.zeroValue82 (by decide) x,
   fun x w => ta_hit w Tryz.underlying83 rfl x,
   fun x w => ta_miss w Tryz.underlying84 rfl Tryz.zeroValue84 (by decide) x,
   fun x w => ta_miss w Tryz.underlying69 rfl Tryz.zeroValue69 (by decide) x,
   fun x w => ta_miss w Tryz.underlying66 rfl Tryz.zeroValue66 (by decide) x⟩
theorem tas_Text :
    (∀ (x : Value) (w : World), (Instr.typeAssert (.iface 84 x) 36 81 true).run Tryz.prog w = .ok (.tuple #[.agg #[], .bool false]) w) ∧
    (∀ (x : Value) (w : World), (Instr.typeAssert (.iface 84 x) 36 82 true).run Tryz.prog w = .ok (.tuple #[.bool false, .bool false]) w) ∧
    (∀ (x : Value) (w : World), (Instr.typeAssert (.iface 84 x) 36 83 true).run Tryz.prog w = .ok (.tuple #[.int .i64 0, .bool false]) w) ∧
    (∀ (x : Value) (w : World), (Instr.typeAssert (.iface 84 x) 36 84 true).run Tryz.prog w = .ok (.tuple #[x, .bool true]) w) ∧
    (∀ (x : Value) (w : World), (Instr.typeAssert (.iface 84 x) 36 69 true).run Tryz.prog w = .ok (.tuple #[.slice none 0 0, .bool false]) w) ∧
    (∀ (x : Value) (w : World), (Instr.typeAssert (.iface 84 x) 36 66 true).run Tryz.prog w = .ok (.tuple #[.slice none 0 0, .bool false]) w) :=
  ⟨fun x w => ta_miss w Tryz.underlying81 rfl Tryz.zeroValue81 (by decide) x,
   fun x w => ta_miss w Tryz.underlying82 rfl Tryz.zeroValue82 (by decide) x,
   fun x w => ta_miss w Tryz.underlying83 rfl Tryz.zeroValue83 (by decide) x,
   fun x w => ta_hit w Tryz.underlying84 rfl x,
   fun x w => ta_miss w Tryz.underlying69 rfl Tryz.zeroValue69 (by decide) x,
   fun x w => ta_miss w Tryz.underlying66 rfl Tryz.zeroValue66 (by decide) x⟩
theorem tas_List :
    (∀ (x : Value) (w : World), (Instr.typeAssert (.iface 69 x) 36 81 true).run Tryz.prog w = .ok (.tuple #[.agg #[], .bool false]) w) ∧
    (∀ (x : Value) (w : World), (Instr.typeAssert (.iface 69 x) 36 82 true).run Tryz.prog w = .ok (.tuple #[.bool false, .bool false]) w) ∧
    (∀ (x : Value) (w : World), (Instr.typeAssert (.iface 69 x) 36 83 true).run Tryz.prog w = .ok (.tuple #[.int .i64 0, .bool false]) w) ∧
    (∀ (x : Value) (w : World), (Instr.typeAssert (.iface 69 x) 36 84 true).run Tryz.prog w = .ok (.tuple #[.string { data := #[] }, .bool false]) w) ∧
    (∀ (x : Value) (w : World), (Instr.typeAssert (.iface 69 x) 36 69 true).run Tryz.prog w = .ok (.tuple #[x, .bool true]) w) ∧
    (∀ (x : Value) (w : World), (Instr.typeAssert (.iface 69 x) 36 66 true).run Tryz.prog w = .ok (.tuple #[.slice none 0 0, .bool false]) w) :=
  ⟨fun x w => ta_miss w Tryz.underlying81 rfl Tryz.zeroValue81 (by decide) x,
   fun x w => ta_miss w Tryz.underlying82 rfl Tryz.zeroValue82 (by decide) x,
   fun x w => ta_miss w Tryz.underlying83 rfl Tryz.zeroValue83 (by decide) x,
   fun x w => ta_miss w Tryz.underlying84 rfl Tryz.zeroValue84 (by decide) x,
   fun x w => ta_hit w Tryz.underlying69 rfl x,
   fun x w => ta_miss w Tryz.underlying66 rfl Tryz.zeroValue66 (by decide) x⟩
theorem tas_Object :
    (∀ (x : Value) (w : World), (Instr.typeAssert (.iface 66 x) 36 81 true).run Tryz.prog w = .ok (.tuple #[.agg #[], .bool false]) w) ∧
    (∀ (x : Value) (w : World), (Instr.typeAssert (.iface 66 x) 36 82 true).run Tryz.prog w = .ok (.tuple #[.bool false, .bool false]) w) ∧
    (∀ (x : Value) (w : World), (Instr.typeAssert (.iface 66 x) 36 83 true).run Tryz.prog w = .ok (.tuple #[.int .i64 0, .bool false]) w) ∧
    (∀ (x : Value) (w : World), (Instr.typeAssert (.iface 66 x) 36 84 true).run Tryz.prog w = .ok (.tuple #[.string { data := #[] }, .bool false]) w) ∧
    (∀ (x : Value) (w : World), (Instr.typeAssert (.iface 66 x) 36 69 true).run Tryz.prog w = .ok (.tuple #[.slice none 0 0, .bool false]) w) ∧
    (∀ (x : Value) (w : World), (Instr.typeAssert (.iface 66 x) 36 66 true).run Tryz.prog w = .ok (.tuple #[x, .bool true]) w) :=
  ⟨fun x w => ta_miss w Tryz.underlying81 rfl Tryz.zeroValue81 (by decide) x,
   fun x w => ta_miss w Tryz.underlying82 rfl Tryz.zeroValue82 (by decide) x,
   fun x w => ta_miss w Tryz.underlying83 rfl Tryz.zeroValue83 (by decide) x,
   fun x w => ta_miss w Tryz.underlying84 rfl Tryz.zeroValue84 (by decide) x,
   fun x w => ta_miss w Tryz.underlying69 rfl Tryz.zeroValue69 (by decide) x,
   fun x w => ta_hit w Tryz.underlying66 rfl x⟩
end Go.Proofs.YthdgfehfoidnbabGreatDoor
/- Contracts over this translation of what tells a value, however deep. -/
namespace Go.Proofs.YthdgfehfoidnbabGreatDoor
open Go.RowKit
set_option linter.unusedVariables false
set_option linter.unusedSimpArgs false
/-- the powers of ten lie as the library's text lays them, in blocks below B -/
def Tab (B : Nat) (w : World) : Prop := Lib.TabBelow Tryz.prog B w "internal/strconv.uint64pow10" .u64 Lib.pow10Tab
theorem Tab.below {B : Nat} {w w' : World} (h : Tab B w) (g : Below B w w') : Tab B w' := fun w2 h2 => h w2 (g.trans h2)
theorem Tab.mono {B B' : Nat} {w : World} (h : Tab B w) (hb : B ≤ B') : Tab B' w := fun w2 h2 => h w2 (h2.mono hb)
theorem St.belowB {B : Nat} {w w' : World} {n : Nat} {j : J n} {x : Value} (h : St (fun c => B ≤ c) w n j x) (g : Below B w w') : St (fun c => B ≤ c) w' n j x :=
  h.step g.size (fun c _ hc => g.block c (by omega))
def WriteOK (n : Nat) : Prop := ∀ (B : Nat) (j : J n) (x v : Value) (l : Bs) (w : World), St (fun c => B ≤ c) w n j x → Fit n j → Own B w v l → B ≤ w.heap.size → Tab B w → l.length + (tell n j).length ≤ 100000000 →
  Calls Tryz.prog 48 #[v, x] w fun e w' => ∃ v', e = .returned v' ∧ Own B w' v' (l ++ tell n j) ∧ Fr B w w'
theorem own_str {B : Nat} {w : World} {v : Value} {l s : Bs} (h : w.ownsRow B 5 1 v (l.length + (⟨s.toArray⟩ : ByteArray).size) (Lib.byteCells l ++ Lib.strCells ⟨s.toArray⟩)) : Own B w v (l ++ s) := by
  unfold Own
  have e : (l ++ s).length = l.length + (⟨s.toArray⟩ : ByteArray).size := by simp [ByteArray.size]
  have e2 : Lib.byteCells (l ++ s) = Lib.byteCells l ++ Lib.strCells ⟨s.toArray⟩ := by simp [Lib.byteCells, Lib.strCells]
  rw [e, e2]
  exact h
theorem quote_ge (s : Bs) : s.length ≤ (quote s).length := by
  have h : ∀ s : Bs, s.length ≤ (s.flatMap quoteB).length := by
    intro s
    induction s with
    | nil => simp
    | cons c s ih =>
      have : 1 ≤ (quoteB c).length := by
        unfold quoteB
        split
        · simp
        · split
          · simp
          · split <;> simp
      simp only [List.flatMap_cons, List.length_append, List.length_cons]
      omega
  have := h s
  simp only [quote, List.length_cons, List.length_append]
  omega
theorem below_own {B : Nat} {w0 w w' : World} {v : Value} {l : Bs} (h : Below B w0 w) (ho : Own B w v l) (hB : B ≤ w.heap.size) (hg : w.grownBy w' v.ownBlock) : Below B w0 w' := h.grown hg hB ho.row
set_option maxRecDepth 100000 in
set_option maxHeartbeats 2000000 in
theorem write_null (B : Nat) (v : Value) (l : Bs) (w : World) (hO : Own B w v l) (hB : B ≤ w.heap.size) (hlim : l.length + 4 ≤ 100000000) :
    Calls Tryz.prog 48 #[v, leafV none] w fun e w' => ∃ v', e = .returned v' ∧ Own B w' v' (l ++ nullB) ∧ Fr B w w' := by
  obtain ⟨i0, hi, hz0, hz1, hz2⟩ := info_parts info_u8
  obtain ⟨a1, a2, a3, a4, a5, a6⟩ := tas_Null
  have HO : Hid (Own B w v l) := hO
  have HN : Hid ((w.alloc (.cells #[] 81)).ownsRow B 5 1 v l.length (Lib.byteCells l)) := World.ownsRow.alloc hO _
  have HNB : Hid (B ≤ (w.alloc (.cells #[] 81)).heap.size) := by show B ≤ (w.alloc _).heap.size; simp; omega
  have HNW : Hid (Fr B w (w.alloc (.cells #[] 81))) := (Fr.refl B w).alloc hB _
  clear hO
  unfold leafV
  go_enter Tryz.func48, Tryz.ntmps48
  go_wp2_with (at_builtin; refine Lib.wpList_append_own_string _ rfl _ _ 89 9 rfl B 5 i0 Tryz.underlying89 Tryz.underlying9 hi hz0 hz1 hz2 _ _ _ rfl HN.out { data := #[110, 117, 108, 108] } rfl (by show l.length + 4 ≤ _; unfold maxLen; omega) (by show l.length + 4 ≤ _; omega) HNB.out ?_)
  intro v' w1 hown' hgrow _
  have HO1 : Hid (Own B w1 v' (l ++ nullB)) := own_str (s := nullB) hown'
  have HB1 : Hid (Fr B w w1) := HNW.out.own HN.out HNB.out hgrow
  clear hown' hgrow
  go_wp2_with fail
  go_ret
  exact ⟨v', rfl, HO1.out, HB1.out⟩
set_option maxRecDepth 100000 in
set_option maxHeartbeats 2000000 in
theorem append_true (B : Nat) (v : Value) (l : Bs) (w : World) (hO : Own B w v l) (hB : B ≤ w.heap.size) (hlim : l.length + 4 ≤ 100000000) :
    Calls Tryz.prog 70 #[v, .bool true] w fun e w' => ∃ v', e = .returned v' ∧ Own B w' v' (l ++ trueB) ∧ Fr B w w' := by
  obtain ⟨i0, hi, hz0, hz1, hz2⟩ := info_parts info_u8
  have HO : Hid (Own B w v l) := hO
  have HN : Hid (w.ownsRow B 5 1 v l.length (Lib.byteCells l)) := hO
  have HNB : Hid (B ≤ w.heap.size) := hB
  have HNW : Hid (Fr B w w) := Fr.refl B w
  clear hO
  go_enter Tryz.func70, Tryz.ntmps70
  go_wp2_with (first | (at_builtin; refine Lib.wpList_append_own_string _ rfl _ _ 89 9 rfl B 5 i0 Tryz.underlying89 Tryz.underlying9 hi hz0 hz1 hz2 _ _ _ rfl HN.out { data := #[116, 114, 117, 101] } rfl (by show l.length + 4 ≤ _; unfold maxLen; omega) (by show l.length + 4 ≤ _; omega) HNB.out ?_) | go_in)
  intro v' w1 hown' hgrow _
  have HO1 : Hid (Own B w1 v' (l ++ trueB)) := own_str (s := trueB) hown'
  have HB1 : Hid (Fr B w w1) := HNW.out.own HN.out HNB.out hgrow
  clear hown' hgrow
  go_wp2_with fail
  go_ret
  exact ⟨v', rfl, HO1.out, HB1.out⟩
set_option maxRecDepth 100000 in
set_option maxHeartbeats 2000000 in
theorem write_true (B : Nat) (v : Value) (l : Bs) (w : World) (hO : Own B w v l) (hB : B ≤ w.heap.size) (hlim : l.length + 4 ≤ 100000000) :
    Calls Tryz.prog 48 #[v, leafV (some (Sum.inl true))] w fun e w' => ∃ v', e = .returned v' ∧ Own B w' v' (l ++ trueB) ∧ Fr B w w' := by
  obtain ⟨a1, a2, a3, a4, a5, a6⟩ := tas_Bool
  have HO : Hid (Own B w v l) := hO
  clear hO
  unfold leafV
  go_enter Tryz.func48, Tryz.ntmps48
  go_wp2_with fail
  refine (append_true B v l _ HO.out hB hlim).mono ?_
  rintro e w1 ⟨v', rfl, hO, hb⟩
  have HO1 : Hid (Own B w1 v' (l ++ trueB)) := hO
  have HB1 : Hid (Fr B w w1) := hb
  clear hO hb
  go_wp2_with fail
  go_ret
  exact ⟨v', rfl, HO1.out, HB1.out⟩
set_option maxRecDepth 100000 in
set_option maxHeartbeats 2000000 in
theorem append_false (B : Nat) (v : Value) (l : Bs) (w : World) (hO : Own B w v l) (hB : B ≤ w.heap.size) (hlim : l.length + 5 ≤ 100000000) :
    Calls Tryz.prog 70 #[v, .bool false] w fun e w' => ∃ v', e = .returned v' ∧ Own B w' v' (l ++ falseB) ∧ Fr B w w' := by
  obtain ⟨i0, hi, hz0, hz1, hz2⟩ := info_parts info_u8
  have HO : Hid (Own B w v l) := hO
  have HN : Hid (w.ownsRow B 5 1 v l.length (Lib.byteCells l)) := hO
  have HNB : Hid (B ≤ w.heap.size) := hB
  have HNW : Hid (Fr B w w) := Fr.refl B w
  clear hO
  go_enter Tryz.func70, Tryz.ntmps70
  go_wp2_with (first | (at_builtin; refine Lib.wpList_append_own_string _ rfl _ _ 89 9 rfl B 5 i0 Tryz.underlying89 Tryz.underlying9 hi hz0 hz1 hz2 _ _ _ rfl HN.out { data := #[102, 97, 108, 115, 101] } rfl (by show l.length + 5 ≤ _; unfold maxLen; omega) (by show l.length + 5 ≤ _; omega) HNB.out ?_) | go_in)
  intro v' w1 hown' hgrow _
  have HO1 : Hid (Own B w1 v' (l ++ falseB)) := own_str (s := falseB) hown'
  have HB1 : Hid (Fr B w w1) := HNW.out.own HN.out HNB.out hgrow
  clear hown' hgrow
  go_wp2_with fail
  go_ret
  exact ⟨v', rfl, HO1.out, HB1.out⟩
set_option maxRecDepth 100000 in
set_option maxHeartbeats 2000000 in
theorem write_false (B : Nat) (v : Value) (l : Bs) (w : World) (hO : Own B w v l) (hB : B ≤ w.heap.size) (hlim : l.length + 5 ≤ 100000000) :
    Calls Tryz.prog 48 #[v, leafV (some (Sum.inl false))] w fun e w' => ∃ v', e = .returned v' ∧ Own B w' v' (l ++ falseB) ∧ Fr B w w' := by
  obtain ⟨a1, a2, a3, a4, a5, a6⟩ := tas_Bool
  have HO : Hid (Own B w v l) := hO
  clear hO
  unfold leafV
  go_enter Tryz.func48, Tryz.ntmps48
  go_wp2_with fail
  refine (append_false B v l _ HO.out hB hlim).mono ?_
  rintro e w1 ⟨v', rfl, hO, hb⟩
  have HO1 : Hid (Own B w1 v' (l ++ falseB)) := hO
  have HB1 : Hid (Fr B w w1) := hb
  clear hO hb
  go_wp2_with fail
  go_ret
  exact ⟨v', rfl, HO1.out, HB1.out⟩
set_option maxRecDepth 100000 in
set_option maxHeartbeats 2000000 in
theorem write_number (B : Nat) (i : Int) (v : Value) (l : Bs) (w : World) (hO : Own B w v l) (hB : B ≤ w.heap.size) (hT : Tab B w) (h1 : -1000000000000000000 < i) (h2 : i < 1000000000000000000) (hlim : l.length ≤ 100000000) :
    Calls Tryz.prog 48 #[v, leafV (some (Sum.inr (Sum.inl i)))] w fun e w' => ∃ v', e = .returned v' ∧ Own B w' v' (l ++ Lib.itoa i) ∧ Fr B w w' := by
  obtain ⟨a1, a2, a3, a4, a5, a6⟩ := tas_Number
  have HO : Hid (Own B w v l) := hO
  have HT : Hid (Tab B w) := hT
  clear hO hT
  unfold leafV
  go_enter Tryz.func48, Tryz.ntmps48
  go_wp2_with fail
  refine (Tryz.strconv_AppendInt_10 B l.length i (by omega) (by omega) v (Lib.byteCells l) _ HO.out hB (by omega) HT.out).mono ?_
  rintro e w1 ⟨v', rfl, hO, hb0, hb1⟩
  have hb : Fr B w w1 := ⟨hb0, hb1⟩
  have HO1 : Hid (Own B w1 v' (l ++ Lib.itoa i)) := by
    have e1 : (l ++ Lib.itoa i).length = l.length + (Lib.itoa i).length := by simp
    have e2 : Lib.byteCells (l ++ Lib.itoa i) = Lib.byteCells l ++ Lib.byteCells (Lib.itoa i) := by simp [Lib.byteCells]
    show Own B w1 v' (l ++ Lib.itoa i)
    unfold Own
    rw [e1, e2]
    exact hO
  have HB1 : Hid (Fr B w w1) := hb
  clear hO hb
  go_wp2_with fail
  go_ret
  exact ⟨v', rfl, HO1.out, HB1.out⟩
set_option maxRecDepth 100000 in
set_option maxHeartbeats 2000000 in
theorem write_str (B : Nat) (s : Bs) (v : Value) (l : Bs) (w : World) (hO : Own B w v l) (hB : B ≤ w.heap.size) (hlim : l.length + (quote s).length ≤ 100000000) :
    Calls Tryz.prog 48 #[v, leafV (some (Sum.inr (Sum.inr s)))] w fun e w' => ∃ v', e = .returned v' ∧ Own B w' v' (l ++ quote s) ∧ Fr B w w' := by
  obtain ⟨a1, a2, a3, a4, a5, a6⟩ := tas_Text
  have HO : Hid (Own B w v l) := hO
  have hq := writeQuoted_any B ⟨s.toArray⟩ v l w hO hB (by show l.length + (quote s).length ≤ 1000000000; omega) (by have := quote_ge s; simp [ByteArray.size]; omega)
  have HQ : Hid (Calls Tryz.prog 72 #[v, .string ⟨s.toArray⟩] w fun e w' => ∃ v', e = .returned v' ∧ Own B w' v' (l ++ quote s) ∧ Fr B w w') := hq
  clear hO hq
  unfold leafV
  go_enter Tryz.func48, Tryz.ntmps48
  go_wp2_with fail
  refine Calls.mono HQ.out ?_
  rintro e w1 ⟨v', rfl, hO, hb⟩
  have HO1 : Hid (Own B w1 v' (l ++ quote s)) := hO
  have HB1 : Hid (Fr B w w1) := hb
  clear hO hb
  go_wp2_with fail
  go_ret
  exact ⟨v', rfl, HO1.out, HB1.out⟩
theorem write_leaf (B : Nat) (a : Leaf) (v : Value) (l : Bs) (w : World) (hG : FitLeaf a) (hO : Own B w v l) (hB : B ≤ w.heap.size) (hT : Tab B w) (hlim : l.length + (tellLeaf a).length ≤ 100000000) :
    Calls Tryz.prog 48 #[v, leafV a] w fun e w' => ∃ v', e = .returned v' ∧ Own B w' v' (l ++ tellLeaf a) ∧ Fr B w w' := by
  match a, hG, hlim with
  | none, _, hlim => exact write_null B v l w hO hB hlim
  | some (Sum.inl true), _, hlim => exact write_true B v l w hO hB hlim
  | some (Sum.inl false), _, hlim => exact write_false B v l w hO hB hlim
  | some (Sum.inr (Sum.inl i)), hG, hlim => exact write_number B i v l w hO hB hT hG.1 hG.2 (by omega)
  | some (Sum.inr (Sum.inr s)), _, hlim => exact write_str B s v l w hO hB hlim
end Go.Proofs.YthdgfehfoidnbabGreatDoor
/- Contracts over this translation of what tells lists and objects, and so every value. -/
namespace Go.Proofs.YthdgfehfoidnbabGreatDoor
open Go.RowKit
set_option linter.unusedVariables false
set_option linter.unusedSimpArgs false
/-- what stands behind k parts -/
def upTo (ts : List Bs) (k : Nat) : Bs := commas (ts.take k)
theorem commas_snoc : ∀ (ts : List Bs) (t : Bs), commas (ts ++ [t]) = if ts = [] then t else commas ts ++ 44 :: t
  | [], t => rfl
  | [x], t => rfl
  | x :: y :: r, t => by
    have := commas_snoc (y :: r) t
    simp only [List.cons_append, commas] at this ⊢
    rw [this]
    simp
theorem upTo_zero (ts : List Bs) : upTo ts 0 = [] := by simp [upTo, commas]
theorem upTo_one (ts : List Bs) (h : 0 < ts.length) : upTo ts 1 = ts[0] := by
  cases ts with
  | nil => simp at h
  | cons x r => rfl
theorem upTo_step (ts : List Bs) (k : Nat) (h : k < ts.length) (h0 : 0 < k) : upTo ts (k + 1) = upTo ts k ++ 44 :: ts[k] := by
  unfold upTo
  rw [List.take_succ_eq_append_getElem h, commas_snoc, if_neg]
  intro e
  have h2 := congrArg List.length e
  rw [List.length_take] at h2
  simp only [List.length_nil] at h2
  omega
theorem upTo_all (ts : List Bs) (k : Nat) (h : ts.length ≤ k) : upTo ts k = commas ts := by
  unfold upTo
  rw [List.take_of_length_le h]
theorem commas_mono : ∀ (ts us : List Bs), (commas ts).length ≤ (commas (ts ++ us)).length
  | [], us => by simp [commas]
  | [x], [] => by simp
  | [x], u :: us => by simp [commas]
  | x :: y :: r, us => by
    have := commas_mono (y :: r) us
    simp only [List.cons_append, commas, List.length_append, List.length_cons] at this ⊢
    omega
theorem upTo_len (ts : List Bs) (k : Nat) : (upTo ts k).length ≤ (commas ts).length := by
  have := commas_mono (ts.take k) (ts.drop k)
  rw [List.take_append_drop] at this
  exact this
theorem hSt_back {B : Nat} {w w1 w2 : World} {n : Nat} {j : J n} {u : Value} (h : St (fun c => B ≤ c) w1 n j u) (h1 : Below B w w1) (h2 : Below B w w2) (hs : w1.heap.size ≤ w2.heap.size) : St (fun c => B ≤ c) w2 n j u :=
  h.step hs (fun c _ hc => (h2.block c (by omega)).trans (h1.block c (by omega)).symm)
theorem st_iface {av : Nat → Prop} {w : World} : ∀ {n : Nat} {j : J n} {u : Value}, St av w n j u → ∃ T x, u = .iface T x
  | 0, l, u, h => by
    have h : u = leafV l := h
    subst h
    rcases l with _ | b | i | s <;> exact ⟨_, _, rfl⟩
  | _ + 1, Sum.inl l, u, h => by
    have h : u = leafV l := h
    subst h
    rcases l with _ | b | i | s <;> exact ⟨_, _, rfl⟩
  | _ + 1, Sum.inr (Sum.inl xs), u, h => by
    obtain ⟨p, g, cap, vs, rfl, _⟩ := h.list
    exact ⟨_, _, rfl⟩
  | _ + 1, Sum.inr (Sum.inr fs), u, h => by
    obtain ⟨p, g, cap, vs, rfl, _⟩ := h.obj
    exact ⟨_, _, rfl⟩
set_option maxRecDepth 100000 in
set_option maxHeartbeats 4000000 in
theorem writeList_any (n : Nat) (hW : WriteOK n) (B : Nat) (xs : List (J n)) (p : Option Addr) (g cap : Nat) (vs : List Value) (v : Value) (l : Bs) (w : World) (hvl : vs.length = xs.length) (hlc : xs.length ≤ cap) (hcm : cap ≤ maxLen) (hp : ∀ k, k < xs.length → p = some ⟨g, 0, none⟩ ∧ g < B)
    (hcell : ∀ (i : Nat) (u : Value), vs[i]? = some u → w.cell? ⟨g, i, none⟩ = some u) (hel : ∀ (i : Nat) (x : J n) (u : Value), xs[i]? = some x → vs[i]? = some u → St (fun c => B ≤ c) w n x u)
    (hGo : ∀ x ∈ xs, Fit n x) (hO : Own B w v l) (hB : B ≤ w.heap.size) (hT : Tab B w) (hlim : l.length + (tell (n + 1) (Sum.inr (Sum.inl xs))).length ≤ 100000000) (hx6 : xs.length ≤ 100000000) :
    Calls Tryz.prog 73 #[v, .slice p xs.length cap] w fun e w' => ∃ v', e = .returned v' ∧ Own B w' v' (l ++ tell (n + 1) (Sum.inr (Sum.inl xs))) ∧ Fr B w w' := by
  obtain ⟨i0, hi, hz0, hz1, hz2⟩ := info_parts info_u8
  unfold maxLen at hcm
  have hte : tell (n + 1) (Sum.inr (Sum.inl xs)) = 91 :: (commas (xs.map (tell n)) ++ [93]) := rfl
  rw [hte] at hlim ⊢
  have hln : (91 :: (commas (xs.map (tell n)) ++ [93])).length = (commas (xs.map (tell n))).length + 2 := by simp
  rw [hln] at hlim
  have HTs : Hid (∀ k (hk : k < xs.length), (xs.map (tell n))[k]? = some (tell n xs[k])) := fun k hk => by simp [hk]
  have hts : (xs.map (tell n)).length = xs.length := by simp
  generalize hT2 : xs.map (tell n) = ts at *
  have HO : Hid (Own B w v l) := hO
  have HB : Hid (Fr B w w) := Fr.refl _ _
  have HT : Hid (Tab B w) := hT
  have HW : Hid (WriteOK n) := hW
  have HEl : Hid (∀ w1, Below B w w1 → ∀ k (hk : k < xs.length), ∃ u, w1.cell? ⟨g, k, none⟩ = some u ∧ St (fun c => B ≤ c) w1 n xs[k] u) := by
    intro w1 hb k hk
    have hu : vs[k]? = some (vs[k]'(by omega)) := List.getElem?_eq_getElem (by omega)
    exact ⟨_, by rw [hb.cell (p := ⟨g, k, none⟩) (hp k hk).2]; exact hcell k _ hu, (hel k xs[k] _ (List.getElem?_eq_getElem hk) hu).belowB hb⟩
  have HGo : Hid (∀ x ∈ xs, Fit n x) := hGo
  have HPp : Hid (∀ k, k < xs.length → p = some ⟨g, 0, none⟩) := fun k hk => (hp k hk).1
  clear hp
  clear hO hT hW hcell hel hGo hT2 hte hln
  go_enter Tryz.func73, Tryz.ntmps73
  go_wp2_with (at_builtin; refine wpList_append_own _ rfl _ _ 89 rfl B 5 i0 (.int .u8 0) 1 1 Tryz.underlying89 hi hz0 hz1 hz2 rfl (by decide) _ _ _ rfl (World.ownsRow.alloc (HO.out) _) ⟨w.heap.size, 0, none⟩ 1 1 [.int .u8 91] rfl rfl (by exact news_at1 _ _ _) (by exact news_one1 _) (by unfold maxLen; omega) (by omega) (by have := HB.out.below.size; simp; omega) ?_)
  intro v' w1 hown' hgrow _
  have HO1 : Hid (Own B w1 v' (l ++ [91])) := own_snoc1 hown'
  have HB1 : Hid (Fr B w w1) := (HB.out.alloc (by have := HB.out.below.size; omega) _).own (World.ownsRow.alloc (HO.out) _) (by have := HB.out.below.size; simp; omega) hgrow
  clear hown' hgrow
  go_wp2_with fail
  go_loopw [0, 12] (fun x i wr => ∃ k : Nat, k ≤ xs.length ∧ i = .int .i64 k ∧ Own B wr x (l ++ 91 :: upTo ts k) ∧ Fr B w wr) (fun _ i _ => xs.length - (intOf i).toNat)
  case atStart => exact ⟨0, Nat.zero_le _, rfl, by rw [upTo_zero]; exact HO1.out, HB1.out⟩
  case round =>
    obtain ⟨k, hk, rfl, hown, hbel⟩ := hrel
    have hul := upTo_len ts k
    have hlen : (l ++ 91 :: upTo ts k).length = l.length + 1 + (upTo ts k).length := by simp; omega
    obtain ⟨L, hL⟩ : ∃ L, L = l ++ 91 :: upTo ts k := ⟨_, rfl⟩
    rw [← hL] at hlen hown
    have HL : Hid (L = l ++ 91 :: upTo ts k) := hL
    have HR : Hid (Own B wr u0 L) := hown
    have HRB : Hid (Fr B w wr) := hbel
    have HLen : Hid (L.length = l.length + 1 + (upTo ts k).length) := hlen
    have hBr : B ≤ wr.heap.size := by have := HRB.out.below.size; omega
    have hL6 : L.length + 1 ≤ 100000000 := by omega
    clear hown hbel hlen hL
    by_cases hlt : k < xs.length
    · have hpe := HPp.out k hlt
      subst hpe
      obtain ⟨u, hcu, hst⟩ := HEl.out wr HRB.out.below k hlt
      have HSt : Hid (St (fun c => B ≤ c) wr n xs[k] u) := hst
      have hul2 := upTo_len ts (k + 1)
      have HTk : Hid (ts[k]? = some (tell n xs[k])) := HTs.out k hlt
      have hkt : k < ts.length := by omega
      have HTk2 : Hid (ts[k] = tell n xs[k]) := by
        have := HTk.out
        rw [List.getElem?_eq_getElem hkt] at this
        exact Option.some.inj this
      clear hst
      by_cases h0 : k = 0
      · have HU : Hid (upTo ts (k + 1) = tell n xs[k]) := by
          show upTo ts (k + 1) = tell n xs[k]
          subst h0
          rw [upTo_one ts hkt]
          exact HTk2.out
        have HUl : Hid ((upTo ts (k + 1)).length = (tell n xs[k]).length) := congrArg List.length HU.out
        have HU0 : Hid (upTo ts k = []) := by show upTo ts k = []; rw [h0, upTo_zero]
        have hnk : ¬ (0 : Int) < (k : Int) := by omega
        clear h0
        go_wp2_with fail
        refine (HW.out B xs[k] u u0 L wr HSt.out (HGo.out _ (List.getElem_mem _)) HR.out hBr (HT.out.below HRB.out.below) (by have h1 := HUl.out; have h2 := HLen.out; rw [HU0.out] at h2; simp only [List.length_nil] at h2; omega)).mono ?_
        rintro e w2 ⟨v', rfl, hO2, hb2⟩
        have HO2 : Hid (Own B w2 v' (l ++ 91 :: upTo ts (k + 1))) := by
          rw [HL.out, HU0.out] at hO2
          show Own B w2 v' (l ++ 91 :: upTo ts (k + 1))
          rw [HU.out]
          simpa using hO2
        have HB2 : Hid (Fr B w w2) := HRB.out.trans hb2
        clear hO2 hb2
        go_wp2_with fail
        go_roundw
        case rel => exact ⟨k + 1, by omega, by go_num, HO2.out, HB2.out⟩
        case measure => simp [intOf]; omega
      · have HU : Hid (upTo ts (k + 1) = upTo ts k ++ 44 :: tell n xs[k]) := by
          show upTo ts (k + 1) = upTo ts k ++ 44 :: tell n xs[k]
          rw [upTo_step ts k hkt (by omega), HTk2.out]
        have hUl : (upTo ts (k + 1)).length = (upTo ts k).length + 1 + (tell n xs[k]).length := by
          have := congrArg List.length HU.out
          simp at this
          omega
        have HUl : Hid ((upTo ts (k + 1)).length = (upTo ts k).length + 1 + (tell n xs[k]).length) := hUl
        have hnk : (0 : Int) < (k : Int) := by omega
        clear hUl h0
        go_wp2_with (at_builtin; refine wpList_append_own _ rfl _ _ 89 rfl B 5 i0 (.int .u8 0) 1 1 Tryz.underlying89 hi hz0 hz1 hz2 rfl (by decide) _ _ _ rfl (World.ownsRow.alloc (HR.out) _) ⟨wr.heap.size, 0, none⟩ 1 1 [.int .u8 44] rfl rfl (by exact news_at1 _ _ _) (by exact news_one1 _) (by unfold maxLen; omega) (by omega) (by have := HRB.out.below.size; simp; omega) ?_)
        intro v' w2 hown' hgrow _
        have HO2 : Hid (Own B w2 v' (L ++ [44])) := own_snoc1 hown'
        have HB2 : Hid (Fr B w w2) := (HRB.out.alloc (by have := HRB.out.below.size; omega) _).own (World.ownsRow.alloc (HR.out) _) (by have := HRB.out.below.size; simp; omega) hgrow
        have HZ2 : Hid (wr.heap.size ≤ w2.heap.size) := by have := hgrow.size; show wr.heap.size ≤ w2.heap.size; simp at this; omega
        clear hown' hgrow
        have HSt2 : Hid (St (fun c => B ≤ c) w2 n xs[k] u) := hSt_back HSt.out HRB.out.below HB2.out.below HZ2.out
        go_wp2_with fail
        refine (HW.out B xs[k] u v' (L ++ [44]) w2 HSt2.out (HGo.out _ (List.getElem_mem _)) HO2.out (by have := HB2.out.below.size; omega) (HT.out.below HB2.out.below) (by have h1 := HUl.out; have h2 := HLen.out; rw [List.length_append]; simp only [List.length_cons, List.length_nil]; omega)).mono ?_
        rintro e w3 ⟨v3, rfl, hO3, hb3⟩
        have HO3 : Hid (Own B w3 v3 (l ++ 91 :: upTo ts (k + 1))) := by
          show Own B w3 v3 (l ++ 91 :: upTo ts (k + 1))
          rw [HU.out]
          rw [HL.out] at hO3
          simpa using hO3
        have HB3 : Hid (Fr B w w3) := HB2.out.trans hb3
        clear hO3 hb3
        go_wp2_with fail
        go_roundw
        case rel => exact ⟨k + 1, by omega, by go_num, HO3.out, HB3.out⟩
        case measure => simp [intOf]; omega
    · have HU : Hid (L ++ [93] = l ++ 91 :: (commas ts ++ [93])) := by
        show L ++ [93] = l ++ 91 :: (commas ts ++ [93])
        rw [HL.out, upTo_all ts k (by omega)]
        simp
      go_wp2_with (at_builtin; refine wpList_append_own _ rfl _ _ 89 rfl B 5 i0 (.int .u8 0) 1 1 Tryz.underlying89 hi hz0 hz1 hz2 rfl (by decide) _ _ _ rfl (World.ownsRow.alloc (HR.out) _) ⟨wr.heap.size, 0, none⟩ 1 1 [.int .u8 93] rfl rfl (by exact news_at1 _ _ _) (by exact news_one1 _) (by unfold maxLen; omega) (by omega) (by have := HRB.out.below.size; simp; omega) ?_)
      intro v' w2 hown' hgrow _
      have HO2 : Hid (Own B w2 v' (L ++ [93])) := own_snoc1 hown'
      have HB2 : Hid (Fr B w w2) := (HRB.out.alloc (by have := HRB.out.below.size; omega) _).own (World.ownsRow.alloc (HR.out) _) (by have := HRB.out.below.size; simp; omega) hgrow
      clear hown' hgrow
      go_wp2_with fail
      go_ret
      exact ⟨v', rfl, by rw [← HU.out]; exact HO2.out, HB2.out⟩
set_option maxRecDepth 100000 in
set_option maxHeartbeats 8000000 in
theorem writeObject_any (n : Nat) (hW : WriteOK n) (B : Nat) (fs : List (Bs × J n)) (p : Option Addr) (g cap : Nat) (vs : List Value) (v : Value) (l : Bs) (w : World) (hvl : vs.length = fs.length) (hlc : fs.length ≤ cap) (hcm : cap ≤ maxLen) (hp : ∀ k, k < fs.length → p = some ⟨g, 0, none⟩ ∧ g < B)
    (hcell : ∀ (i : Nat) (f : Bs × J n) (u : Value), fs[i]? = some f → vs[i]? = some u → w.cell? ⟨g, i * 2, none⟩ = some (.string ⟨f.1.toArray⟩) ∧ w.cell? ⟨g, i * 2 + 1, none⟩ = some u) (hel : ∀ (i : Nat) (f : Bs × J n) (u : Value), fs[i]? = some f → vs[i]? = some u → St (fun c => B ≤ c) w n f.2 u)
    (hGo : ∀ f ∈ fs, Fit n f.2) (hO : Own B w v l) (hB : B ≤ w.heap.size) (hT : Tab B w) (hlim : l.length + (tell (n + 1) (Sum.inr (Sum.inr fs))).length ≤ 100000000) (hx6 : fs.length ≤ 100000000) :
    Calls Tryz.prog 74 #[v, .slice p fs.length cap] w fun e w' => ∃ v', e = .returned v' ∧ Own B w' v' (l ++ tell (n + 1) (Sum.inr (Sum.inr fs))) ∧ Fr B w w' := by
  obtain ⟨i0, hi, hz0, hz1, hz2⟩ := info_parts info_u8
  unfold maxLen at hcm
  have hte : tell (n + 1) (Sum.inr (Sum.inr fs)) = 123 :: (commas (fs.map fun f => quote f.1 ++ 58 :: tell n f.2) ++ [125]) := rfl
  rw [hte] at hlim ⊢
  have hln : (123 :: (commas (fs.map fun f => quote f.1 ++ 58 :: tell n f.2) ++ [125])).length = (commas (fs.map fun f => quote f.1 ++ 58 :: tell n f.2)).length + 2 := by simp
  rw [hln] at hlim
  have HTs : Hid (∀ k (hk : k < fs.length), (fs.map fun f => quote f.1 ++ 58 :: tell n f.2)[k]? = some (quote fs[k].1 ++ 58 :: tell n fs[k].2)) := fun k hk => by simp [hk]
  have hts : (fs.map fun f => quote f.1 ++ 58 :: tell n f.2).length = fs.length := by simp
  generalize hT2 : (fs.map fun f => quote f.1 ++ 58 :: tell n f.2) = ts at *
  have HO : Hid (Own B w v l) := hO
  have HB : Hid (Fr B w w) := Fr.refl _ _
  have HT : Hid (Tab B w) := hT
  have HW : Hid (WriteOK n) := hW
  have HEl : Hid (∀ w1, Below B w w1 → ∀ k (hk : k < fs.length), ∃ u, w1.cell? ⟨g, k * 2, none⟩ = some (.string ⟨fs[k].1.toArray⟩) ∧ w1.cell? ⟨g, k * 2 + 1, none⟩ = some u ∧ St (fun c => B ≤ c) w1 n fs[k].2 u) := by
    intro w1 hb k hk
    have hu : vs[k]? = some (vs[k]'(by omega)) := List.getElem?_eq_getElem (by omega)
    have hf : fs[k]? = some fs[k] := List.getElem?_eq_getElem hk
    have hc := hcell k _ _ hf hu
    exact ⟨_, by rw [hb.cell (p := ⟨g, k * 2, none⟩) (hp k hk).2]; exact hc.1, by rw [hb.cell (p := ⟨g, k * 2 + 1, none⟩) (hp k hk).2]; exact hc.2, (hel k fs[k] _ hf hu).belowB hb⟩
  have HGo : Hid (∀ k (hk : k < fs.length), Fit n fs[k].2) := fun k hk => hGo _ (List.getElem_mem hk)
  have HPp : Hid (∀ k, k < fs.length → p = some ⟨g, 0, none⟩) := fun k hk => (hp k hk).1
  clear hp
  clear hO hT hW hcell hel hGo hT2 hte hln
  go_enter Tryz.func74, Tryz.ntmps74
  go_wp2_with (at_builtin; refine wpList_append_own _ rfl _ _ 89 rfl B 5 i0 (.int .u8 0) 1 1 Tryz.underlying89 hi hz0 hz1 hz2 rfl (by decide) _ _ _ rfl (World.ownsRow.alloc (HO.out) _) ⟨w.heap.size, 0, none⟩ 1 1 [.int .u8 123] rfl rfl (by exact news_at1 _ _ _) (by exact news_one1 _) (by unfold maxLen; omega) (by omega) (by have := HB.out.below.size; simp; omega) ?_)
  intro v' w1 hown' hgrow _
  have HO1 : Hid (Own B w1 v' (l ++ [123])) := own_snoc1 hown'
  have HB1 : Hid (Fr B w w1) := (HB.out.alloc (by have := HB.out.below.size; omega) _).own (World.ownsRow.alloc (HO.out) _) (by have := HB.out.below.size; simp; omega) hgrow
  clear hown' hgrow
  go_wp2_with fail
  go_loopw [0, 12] (fun x i wr => ∃ k : Nat, k ≤ fs.length ∧ i = .int .i64 k ∧ Own B wr x (l ++ 123 :: upTo ts k) ∧ Fr B w wr) (fun _ i _ => fs.length - (intOf i).toNat)
  case atStart => exact ⟨0, Nat.zero_le _, rfl, by rw [upTo_zero]; exact HO1.out, HB1.out⟩
  case round =>
    obtain ⟨k, hk, rfl, hown, hbel⟩ := hrel
    have hul := upTo_len ts k
    have hlen : (l ++ 123 :: upTo ts k).length = l.length + 1 + (upTo ts k).length := by simp; omega
    obtain ⟨L, hL⟩ : ∃ L, L = l ++ 123 :: upTo ts k := ⟨_, rfl⟩
    rw [← hL] at hlen hown
    have HL : Hid (L = l ++ 123 :: upTo ts k) := hL
    have HR : Hid (Own B wr u0 L) := hown
    have HRB : Hid (Fr B w wr) := hbel
    have HLen : Hid (L.length = l.length + 1 + (upTo ts k).length) := hlen
    have hBr : B ≤ wr.heap.size := by have := HRB.out.below.size; omega
    have hL6 : L.length + 1 ≤ 100000000 := by omega
    clear hown hbel hlen hL
    by_cases hlt : k < fs.length
    · have hpe := HPp.out k hlt
      subst hpe
      obtain ⟨u, hcn, hcu, hst⟩ := HEl.out wr HRB.out.below k hlt
      have hul2 := upTo_len ts (k + 1)
      have hkt : k < ts.length := by omega
      have HTk2 : Hid (ts[k] = quote fs[k].1 ++ 58 :: tell n fs[k].2) := by
        have := HTs.out k hlt
        rw [List.getElem?_eq_getElem hkt] at this
        exact Option.some.inj this
      have HGk : Hid (Fit n fs[k].2) := HGo.out k hlt
      obtain ⟨T, x, rfl⟩ := st_iface hst
      have HSt : Hid (St (fun c => B ≤ c) wr n fs[k].2 (.iface T x)) := hst
      clear hst
      generalize hfk : fs[k] = f at *
      obtain ⟨nm, j⟩ := f
      simp only [] at *
      have HNw : Hid ((wr.alloc (.cells #[.string ⟨nm.toArray⟩, .iface T x] 75)).heap[wr.heap.size]? = some (.cells #[.string ⟨nm.toArray⟩, .iface T x] 75 (0, 0))) := heap_alloc_new wr _
      have HRa : Hid (Own B (wr.alloc (.cells #[.string ⟨nm.toArray⟩, .iface T x] 75)) u0 L) := World.ownsRow.alloc HR.out _
      have HFa : Hid (Fr B w (wr.alloc (.cells #[.string ⟨nm.toArray⟩, .iface T x] 75))) := HRB.out.alloc hBr _
      have HSa : Hid (St (fun c => B ≤ c) (wr.alloc (.cells #[.string ⟨nm.toArray⟩, .iface T x] 75)) n j (.iface T x)) := HSt.out.grown (World.grownBy_alloc wr _ none) (fun k e => by cases e)
      have hBa : B ≤ (wr.alloc (.cells #[.string ⟨nm.toArray⟩, .iface T x] 75)).heap.size := by simp; omega
      have hba : wr.heap.size < (wr.alloc (.cells #[.string ⟨nm.toArray⟩, .iface T x] 75)).heap.size := by simp
      by_cases h0 : k = 0
      · have HU : Hid (upTo ts (k + 1) = quote nm ++ 58 :: tell n j) := by
          show upTo ts (k + 1) = quote nm ++ 58 :: tell n j
          subst h0
          rw [upTo_one ts hkt]
          exact HTk2.out
        have HU0 : Hid (upTo ts k = []) := by show upTo ts k = []; rw [h0, upTo_zero]
        have HLL : Hid (l ++ 123 :: upTo ts (k + 1) = L ++ (quote nm ++ 58 :: tell n j)) := by
          show l ++ 123 :: upTo ts (k + 1) = L ++ (quote nm ++ 58 :: tell n j)
          rw [HL.out, HU0.out, HU.out]
          simp
        have HBd : Hid (L.length + (quote nm).length + 1 + (tell n j).length ≤ 100000000) := by
          show L.length + (quote nm).length + 1 + (tell n j).length ≤ 100000000
          have h1 := congrArg List.length HU.out
          have h2 := HLen.out
          rw [HU0.out] at h2
          simp only [List.length_append, List.length_cons, List.length_nil] at h1 h2
          omega
        have hnk : ¬ (0 : Int) < (k : Int) := by omega
        clear h0
        have HLk : Hid (fs[k] = (nm, j)) := hfk
        clear hfk
        go_wp2_with fail
        generalize wr.alloc (.cells #[.string ⟨nm.toArray⟩, .iface T x] 75) = wa at *
        refine (writeQuoted_any B ⟨nm.toArray⟩ u0 (L) wa HRa.out (by have := HFa.out.below.size; omega) (by have h5 := HBd.out; (try simp only [List.length_append, List.length_cons, List.length_nil] at h5 ⊢); omega) (by have h5 := HBd.out; have h6 := quote_ge nm; (try simp only [List.length_append, List.length_cons, List.length_nil] at h5); simp [ByteArray.size]; omega)).mono ?_
        rintro e wq ⟨vq, rfl, hOq, hFq⟩
        obtain ⟨Lq, hLq⟩ : ∃ Lq, Lq = L ++ quote nm := ⟨_, rfl⟩
        have HLq : Hid (Lq = L ++ quote nm) := hLq
        have HOq : Hid (Own B wq vq Lq) := by rw [hLq]; exact hOq
        have HFq : Hid (Fr B w wq) := HFa.out.trans hFq
        have HBq : Hid (wq.heap[wr.heap.size]? = some (.cells #[.string ⟨nm.toArray⟩, .iface T x] 75 (0, 0))) := hFq.others _ _ HNw.out (fun e => by cases e) (fun c fz e => by cases e)
        have HSq : Hid (St (fun c => B ≤ c) wq n j (.iface T x)) := HSa.out.belowB hFq.below
        have hq6 : Lq.length + 1 + (tell n j).length ≤ 100000000 := by
          have h5 := HBd.out
          rw [hLq]
          simp only [List.length_append, List.length_cons, List.length_nil] at h5 ⊢
          omega
        have hqw : wr.heap.size < wq.heap.size := lt_of_block HBq.out
        clear hOq hFq hLq
        go_wp2_with (at_builtin; refine wpList_append_own _ rfl _ _ 89 rfl B 5 i0 (.int .u8 0) 1 1 Tryz.underlying89 hi hz0 hz1 hz2 rfl (by decide) _ _ _ rfl (World.ownsRow.alloc (HOq.out) _) ⟨wq.heap.size, 0, none⟩ 1 1 [.int .u8 58] rfl rfl ?p01 ?p02 ?p03 ?p04 ?p05 ?_)
        case p01 => exact news_at1 _ _ _
        case p02 => exact news_one1 _
        case p03 => unfold maxLen; omega
        case p04 => omega
        case p05 => have := HFq.out.below.size; simp; omega
        intro v' wc hown' hgrow _
        have HOc : Hid (Own B wc v' (Lq ++ [58])) := own_snoc1 hown'
        have HFc : Hid (Fr B w wc) := (HFq.out.alloc (by have := HFq.out.below.size; omega) _).own (World.ownsRow.alloc (HOq.out) _) (by have := HFq.out.below.size; simp; omega) hgrow
        have HBc : Hid (wc.heap[wr.heap.size]? = some (.cells #[.string ⟨nm.toArray⟩, .iface T x] 75 (0, 0))) := (((Fr.refl B wq).alloc (by have := HFq.out.below.size; omega) _).own (World.ownsRow.alloc HOq.out _) (by have := HFq.out.below.size; simp; omega) hgrow).others _ _ HBq.out (fun e => by cases e) (fun c fz e => by cases e)
        have HSc : Hid (St (fun c => B ≤ c) wc n j (.iface T x)) := hSt_back HSq.out HFq.out.below HFc.out.below (by have := hgrow.size; simp at this; omega)
        clear hown' hgrow
        have cb := cell_of_row _ _ 1 _ _ _ HBc.out
        have cb1 : wc.cell? ⟨wr.heap.size, 1, none⟩ = some (.iface T x) := cb
        clear cb
        go_wp2_with fail
        refine (HW.out B j (.iface T x) v' (Lq ++ [58]) wc HSc.out HGk.out HOc.out (by have := HFc.out.below.size; omega) (HT.out.below HFc.out.below) (by rw [List.length_append]; simp only [List.length_cons, List.length_nil]; omega)).mono ?_
        rintro e wz ⟨vz, rfl, hOz, hFz⟩
        have HOz : Hid (Own B wz vz (l ++ 123 :: upTo ts (k + 1))) := by
          show Own B wz vz (l ++ 123 :: upTo ts (k + 1))
          rw [HLq.out] at hOz
          rw [HLL.out]
          simpa using hOz
        have HFz : Hid (Fr B w wz) := HFc.out.trans hFz
        clear hOz hFz cb1
        go_wp2_with fail
        go_roundw
        case rel => exact ⟨k + 1, by omega, by go_num, HOz.out, HFz.out⟩
        case measure => simp [intOf]; omega
      · have HU : Hid (upTo ts (k + 1) = upTo ts k ++ 44 :: (quote nm ++ 58 :: tell n j)) := by
          show upTo ts (k + 1) = upTo ts k ++ 44 :: (quote nm ++ 58 :: tell n j)
          rw [upTo_step ts k hkt (by omega), HTk2.out]
        have HLL : Hid (l ++ 123 :: upTo ts (k + 1) = L ++ [44] ++ (quote nm ++ 58 :: tell n j)) := by
          show l ++ 123 :: upTo ts (k + 1) = L ++ [44] ++ (quote nm ++ 58 :: tell n j)
          rw [HL.out, HU.out]
          simp
        have HBd : Hid ((L ++ [44]).length + (quote nm).length + 1 + (tell n j).length ≤ 100000000) := by
          show (L ++ [44]).length + (quote nm).length + 1 + (tell n j).length ≤ 100000000
          have h1 := congrArg List.length HU.out
          have h2 := HLen.out
          simp only [List.length_append, List.length_cons, List.length_nil] at h1 h2 ⊢
          omega
        have hnk : (0 : Int) < (k : Int) := by omega
        clear h0
        have HLk : Hid (fs[k] = (nm, j)) := hfk
        clear hfk
        go_wp2_with (at_builtin; refine wpList_append_own _ rfl _ _ 89 rfl B 5 i0 (.int .u8 0) 1 1 Tryz.underlying89 hi hz0 hz1 hz2 rfl (by decide) _ _ _ rfl (World.ownsRow.alloc (HRa.out) _) ⟨wr.heap.size + 1, 0, none⟩ 1 1 [.int .u8 44] rfl rfl ?f1 ?f2 ?f3 ?f4 ?f5 ?_)
        case f1 =>
          have := news_at1 (wr.alloc (.cells #[.string ⟨nm.toArray⟩, .iface T x] 75)) (.int .u8 44) 5
          simpa using this
        case f2 => exact news_one1 _
        case f3 => unfold maxLen; omega
        case f4 => omega
        case f5 => have := HFa.out.below.size; simp; omega
        intro v' w2 hown' hgrow _
        have HO2 : Hid (Own B w2 v' (L ++ [44])) := own_snoc1 hown'
        have HF2 : Hid (Fr B w w2) := (HFa.out.alloc (by have := HFa.out.below.size; omega) _).own (World.ownsRow.alloc (HRa.out) _) (by have := HFa.out.below.size; simp; omega) hgrow
        have HB2 : Hid (w2.heap[wr.heap.size]? = some (.cells #[.string ⟨nm.toArray⟩, .iface T x] 75 (0, 0))) := (((Fr.refl B _).alloc hBa _).own (World.ownsRow.alloc HRa.out _) (by simp; omega) hgrow).others _ _ HNw.out (fun e => by cases e) (fun c fz e => by cases e)
        have HS2 : Hid (St (fun c => B ≤ c) w2 n j (.iface T x)) := hSt_back HSa.out HFa.out.below HF2.out.below (by have := hgrow.size; simp at this ⊢; omega)
        clear hown' hgrow
        have cb := cell_of_row _ _ 0 _ _ _ HB2.out
        have cb0 : w2.cell? ⟨wr.heap.size, 0, none⟩ = some (.string ⟨nm.toArray⟩) := cb
        clear cb
        go_wp2_with fail
        refine (writeQuoted_any B ⟨nm.toArray⟩ v' (L ++ [44]) w2 HO2.out (by have := HF2.out.below.size; omega) (by have h5 := HBd.out; (try simp only [List.length_append, List.length_cons, List.length_nil] at h5 ⊢); omega) (by have h5 := HBd.out; have h6 := quote_ge nm; (try simp only [List.length_append, List.length_cons, List.length_nil] at h5); simp [ByteArray.size]; omega)).mono ?_
        rintro e wq ⟨vq, rfl, hOq, hFq⟩
        obtain ⟨Lq, hLq⟩ : ∃ Lq, Lq = L ++ [44] ++ quote nm := ⟨_, rfl⟩
        have HLq : Hid (Lq = L ++ [44] ++ quote nm) := hLq
        have HOq : Hid (Own B wq vq Lq) := by rw [hLq]; exact hOq
        have HFq : Hid (Fr B w wq) := HF2.out.trans hFq
        have HBq : Hid (wq.heap[wr.heap.size]? = some (.cells #[.string ⟨nm.toArray⟩, .iface T x] 75 (0, 0))) := hFq.others _ _ HB2.out (fun e => by cases e) (fun c fz e => by cases e)
        have HSq : Hid (St (fun c => B ≤ c) wq n j (.iface T x)) := HS2.out.belowB hFq.below
        have hq6 : Lq.length + 1 + (tell n j).length ≤ 100000000 := by
          have h5 := HBd.out
          rw [hLq]
          simp only [List.length_append, List.length_cons, List.length_nil] at h5 ⊢
          omega
        have hqw : wr.heap.size < wq.heap.size := lt_of_block HBq.out
        clear hOq hFq hLq
        go_wp2_with (at_builtin; refine wpList_append_own _ rfl _ _ 89 rfl B 5 i0 (.int .u8 0) 1 1 Tryz.underlying89 hi hz0 hz1 hz2 rfl (by decide) _ _ _ rfl (World.ownsRow.alloc (HOq.out) _) ⟨wq.heap.size, 0, none⟩ 1 1 [.int .u8 58] rfl rfl ?p11 ?p12 ?p13 ?p14 ?p15 ?_)
        case p11 => exact news_at1 _ _ _
        case p12 => exact news_one1 _
        case p13 => unfold maxLen; omega
        case p14 => omega
        case p15 => have := HFq.out.below.size; simp; omega
        intro v' wc hown' hgrow _
        have HOc : Hid (Own B wc v' (Lq ++ [58])) := own_snoc1 hown'
        have HFc : Hid (Fr B w wc) := (HFq.out.alloc (by have := HFq.out.below.size; omega) _).own (World.ownsRow.alloc (HOq.out) _) (by have := HFq.out.below.size; simp; omega) hgrow
        have HBc : Hid (wc.heap[wr.heap.size]? = some (.cells #[.string ⟨nm.toArray⟩, .iface T x] 75 (0, 0))) := (((Fr.refl B wq).alloc (by have := HFq.out.below.size; omega) _).own (World.ownsRow.alloc HOq.out _) (by have := HFq.out.below.size; simp; omega) hgrow).others _ _ HBq.out (fun e => by cases e) (fun c fz e => by cases e)
        have HSc : Hid (St (fun c => B ≤ c) wc n j (.iface T x)) := hSt_back HSq.out HFq.out.below HFc.out.below (by have := hgrow.size; simp at this; omega)
        clear hown' hgrow
        have cb := cell_of_row _ _ 1 _ _ _ HBc.out
        have cb1 : wc.cell? ⟨wr.heap.size, 1, none⟩ = some (.iface T x) := cb
        clear cb
        go_wp2_with fail
        refine (HW.out B j (.iface T x) v' (Lq ++ [58]) wc HSc.out HGk.out HOc.out (by have := HFc.out.below.size; omega) (HT.out.below HFc.out.below) (by rw [List.length_append]; simp only [List.length_cons, List.length_nil]; omega)).mono ?_
        rintro e wz ⟨vz, rfl, hOz, hFz⟩
        have HOz : Hid (Own B wz vz (l ++ 123 :: upTo ts (k + 1))) := by
          show Own B wz vz (l ++ 123 :: upTo ts (k + 1))
          rw [HLq.out] at hOz
          rw [HLL.out]
          simpa using hOz
        have HFz : Hid (Fr B w wz) := HFc.out.trans hFz
        clear hOz hFz cb1
        go_wp2_with fail
        go_roundw
        case rel => exact ⟨k + 1, by omega, by go_num, HOz.out, HFz.out⟩
        case measure => simp [intOf]; omega
    · have HU : Hid (L ++ [125] = l ++ 123 :: (commas ts ++ [125])) := by
        show L ++ [125] = l ++ 123 :: (commas ts ++ [125])
        rw [HL.out, upTo_all ts k (by omega)]
        simp
      go_wp2_with (at_builtin; refine wpList_append_own _ rfl _ _ 89 rfl B 5 i0 (.int .u8 0) 1 1 Tryz.underlying89 hi hz0 hz1 hz2 rfl (by decide) _ _ _ rfl (World.ownsRow.alloc (HR.out) _) ⟨wr.heap.size, 0, none⟩ 1 1 [.int .u8 125] rfl rfl (by exact news_at1 _ _ _) (by exact news_one1 _) (by unfold maxLen; omega) (by omega) (by have := HRB.out.below.size; simp; omega) ?_)
      intro v' w2 hown' hgrow _
      have HO2 : Hid (Own B w2 v' (L ++ [125])) := own_snoc1 hown'
      have HB2 : Hid (Fr B w w2) := (HRB.out.alloc (by have := HRB.out.below.size; omega) _).own (World.ownsRow.alloc (HR.out) _) (by have := HRB.out.below.size; simp; omega) hgrow
      clear hown' hgrow
      go_wp2_with fail
      go_ret
      exact ⟨v', rfl, by rw [← HU.out]; exact HO2.out, HB2.out⟩
theorem tell_len_list {n : Nat} (xs : List (J n)) : xs.length ≤ (tell (n + 1) (Sum.inr (Sum.inl xs))).length := by
  have h : ∀ ts : List Bs, ts.length ≤ (commas ts).length + 1 := by
    intro ts
    induction ts with
    | nil => simp
    | cons t r ih =>
      cases r with
      | nil => simp
      | cons u r =>
        simp only [commas, List.length_append, List.length_cons] at ih ⊢
        omega
  have h1 := h (xs.map (tell n))
  show xs.length ≤ (91 :: (commas (xs.map (tell n)) ++ [93])).length
  simp only [List.length_map, List.length_cons, List.length_append, List.length_nil] at h1 ⊢
  omega
theorem tell_len_obj {n : Nat} (fs : List (Bs × J n)) : fs.length ≤ (tell (n + 1) (Sum.inr (Sum.inr fs))).length := by
  have h : ∀ ts : List Bs, ts.length ≤ (commas ts).length + 1 := by
    intro ts
    induction ts with
    | nil => simp
    | cons t r ih =>
      cases r with
      | nil => simp
      | cons u r =>
        simp only [commas, List.length_append, List.length_cons] at ih ⊢
        omega
  have h1 := h (fs.map fun f => quote f.1 ++ 58 :: tell n f.2)
  show fs.length ≤ (123 :: (commas (fs.map fun f => quote f.1 ++ 58 :: tell n f.2) ++ [125])).length
  simp only [List.length_map, List.length_cons, List.length_append, List.length_nil] at h1 ⊢
  omega
set_option maxRecDepth 100000 in
set_option maxHeartbeats 2000000 in
theorem write_ok : ∀ n, WriteOK n
  | 0 => by
    intro B j x v l w hSt hG hO hB hT hlim
    have e : x = leafV j := hSt
    subst e
    exact write_leaf B j v l w hG hO hB hT hlim
  | n + 1 => by
    have hW := write_ok n
    intro B j x v l w hSt hG hO hB hT hlim
    match j, hSt, hG, hlim with
    | Sum.inl a, hSt, hG, hlim =>
      have e : x = leafV a := hSt
      subst e
      exact write_leaf B a v l w hG hO hB hT hlim
    | Sum.inr (Sum.inl xs), hSt, hG, hlim =>
      obtain ⟨p, g, cap, vs, rfl, hpp, hvl, hlc, hcm, hcell, hel⟩ := hSt.list
      have hL := writeList_any n hW B xs p g cap vs v l w hvl hlc hcm (fun k hk => ⟨(hpp k hk).1, by have := (hpp k hk).2.1; omega⟩) hcell hel hG hO hB hT hlim (by have := tell_len_list xs; omega)
      have HL : Hid (Calls Tryz.prog 73 #[v, .slice p xs.length cap] w fun e w' => ∃ v', e = .returned v' ∧ Own B w' v' (l ++ tell (n + 1) (Sum.inr (Sum.inl xs))) ∧ Fr B w w') := hL
      obtain ⟨a1, a2, a3, a4, a5, a6⟩ := tas_List
      clear hL hcell hel hG hO hT hlim hW hpp
      generalize tell (n + 1) (Sum.inr (Sum.inl xs)) = tl at *
      go_enter Tryz.func48, Tryz.ntmps48
      go_wp2_with fail
      refine Calls.mono HL.out ?_
      rintro e w1 ⟨v', rfl, hO, hb⟩
      have HO1 : Hid (Own B w1 v' (l ++ tl)) := hO
      have HB1 : Hid (Fr B w w1) := hb
      clear hO hb
      go_wp2_with fail
      go_ret
      exact ⟨v', rfl, HO1.out, HB1.out⟩
    | Sum.inr (Sum.inr fs), hSt, hG, hlim =>
      obtain ⟨p, g, cap, vs, rfl, hpp, hvl, hlc, hcm, hcell, hel⟩ := hSt.obj
      have hL := writeObject_any n hW B fs p g cap vs v l w hvl hlc hcm (fun k hk => ⟨(hpp k hk).1, by have := (hpp k hk).2.1; omega⟩) hcell hel hG hO hB hT hlim (by have := tell_len_obj fs; omega)
      have HL : Hid (Calls Tryz.prog 74 #[v, .slice p fs.length cap] w fun e w' => ∃ v', e = .returned v' ∧ Own B w' v' (l ++ tell (n + 1) (Sum.inr (Sum.inr fs))) ∧ Fr B w w') := hL
      obtain ⟨a1, a2, a3, a4, a5, a6⟩ := tas_Object
      clear hL hcell hel hG hO hT hlim hW hpp
      generalize tell (n + 1) (Sum.inr (Sum.inr fs)) = tl at *
      go_enter Tryz.func48, Tryz.ntmps48
      go_wp2_with fail
      refine Calls.mono HL.out ?_
      rintro e w1 ⟨v', rfl, hO, hb⟩
      have HO1 : Hid (Own B w1 v' (l ++ tl)) := hO
      have HB1 : Hid (Fr B w w1) := hb
      clear hO hb
      go_wp2_with fail
      go_ret
      exact ⟨v', rfl, HO1.out, HB1.out⟩
/-- the document of a value that was read -/
theorem text_any (n : Nat) (av : Nat → Prop) (j : J n) (x : Value) (w : World) (hSt : St av w n j x) (hG : Fit n j) (hT : Tab w.heap.size w) (hlim : (tell n j).length ≤ 100000000) :
    Calls Tryz.prog 32 #[x] w fun e w' => e = .returned (.string ⟨(tell n j).toArray⟩) ∧ Below w.heap.size w w' := by
  have hS2 : St (fun c => w.heap.size ≤ c) w n j x := hSt.wide (fun c hc => Or.inr hc)
  have HW := write_ok n w.heap.size j x (.slice none 0 0) [] w hS2 hG (Own.nil _ _) (Nat.le_refl _) hT (by simpa using hlim)
  have HL : Hid (Calls Tryz.prog 48 #[.slice none 0 0, x] w fun e w' => ∃ v', e = .returned v' ∧ Own w.heap.size w' v' (tell n j) ∧ Fr w.heap.size w w') := HW
  clear HW hS2 hSt hG hT hlim
  generalize tell n j = tl at *
  go_enter Tryz.func32, Tryz.ntmps32
  go_wp2_with fail
  refine Calls.mono HL.out ?_
  rintro e w1 ⟨v', rfl, hO, hb⟩
  have hcv := conv_own hO
  have HB1 : Hid (Below w.heap.size w w1) := hb.below
  clear hO hb
  go_wp2_with fail
  go_ret
  exact ⟨rfl, HB1.out⟩
end Go.Proofs.YthdgfehfoidnbabGreatDoor
/- Plain facts on lengths: a canonical document is no longer than the text it was read from. -/
namespace Go.Proofs.YthdgfehfoidnbabGreatDoor
set_option linter.unusedVariables false
set_option linter.unusedSimpArgs false
theorem skip_le : ∀ r : Bs, (skip r).length ≤ r.length
  | [] => Nat.le_refl _
  | c :: r => by
    rw [skip]
    split
    · exact Nat.le_trans (skip_le r) (by simp)
    · exact Nat.le_refl _
theorem hd_pos {r : Bs} {c : UInt8} (h : hd r = c) (h0 : c ≠ 0) : r.length = r.tail.length + 1 := by
  cases r with
  | nil => exact absurd h (by intro e; exact h0 e.symm)
  | cons x r => simp
theorem dec_len : ∀ (k u : Nat), 1 ≤ k → u < 10 ^ k → (Lib.decDigits u).length ≤ k
  | 0, u, h, _ => by omega
  | k + 1, u, _, hu => by
    rw [Lib.decDigits]
    split
    · simp
    · rename_i h10
      cases k with
      | zero => simp at hu; omega
      | succ k =>
        have := dec_len (k + 1) (u / 10) (by omega) (by rw [Nat.pow_succ] at hu; omega)
        simp only [List.length_append, List.length_cons, List.length_nil]
        omega
theorem leafE_short {r : Bs} {l : Leaf} {r' : Bs} (h : leafE r = .ok (l, r')) : (tellLeaf l).length + r'.length ≤ r.length := by
  have hw : ∀ (w : Bs) (a : Leaf), tellLeaf a = w → word w r a = .ok (l, r') → (tellLeaf l).length + r'.length ≤ r.length := by
    intro w a ha hw
    unfold word at hw
    split at hw
    · rename_i hp
      cases hw
      have := (List.isPrefixOf_iff_prefix.1 hp).length_le
      rw [ha, List.length_drop]
      omega
    · cases hw
  unfold leafE at h
  split at h
  · exact hw nullB none rfl h
  · split at h
    · exact hw trueB (some (Sum.inl true)) rfl h
    · split at h
      · exact hw falseB (some (Sum.inl false)) rfl h
      · split at h
        · unfold textE at h
          cases hq : quoted r with
          | none => rw [hq] at h; cases h
          | some p =>
            rw [hq] at h
            cases h
            exact (quoted_meant hq).2
        · unfold number at h
          simp only [] at h
          have hr1 : (if (hd r == 45) = true then r.tail else r).length + (if (hd r == 45) = true then 1 else 0) ≤ r.length := by
            split
            · rename_i h45
              have := hd_pos (r := r) (c := 45) (by simpa using h45) (by decide)
              omega
            · omega
          generalize (if (hd r == 45) = true then r.tail else r) = r1 at h hr1
          split at h
          · cases h
          · split at h
            · cases h
            · split at h
              · cases h
              · rename_i h1 h2 h3
                cases h
                show (Lib.itoa (numVal (hd r == 45) (r1.takeWhile isDigit))).length + (r1.dropWhile isDigit).length ≤ r.length
                have hdg : ∀ c ∈ r1.takeWhile isDigit, isDigit c = true := fun c hc => by
                  have := List.all_takeWhile (p := isDigit) (l := r1)
                  rw [List.all_eq_true] at this
                  exact this c hc
                have hsum : (r1.takeWhile isDigit).length + (r1.dropWhile isDigit).length = r1.length := by
                  have := congrArg List.length (List.takeWhile_append_dropWhile (p := isDigit) (l := r1))
                  rw [List.length_append] at this
                  exact this
                have hpos : 1 ≤ (r1.takeWhile isDigit).length := List.length_pos_iff.2 h1
                have hlt := decV_lt _ hdg
                have hdl := dec_len _ _ hpos hlt
                generalize r1.takeWhile isDigit = ds at *
                have hi : (Lib.itoa (numVal (hd r == 45) ds)).length ≤ ds.length + (if (hd r == 45) = true then 1 else 0) := by
                  unfold Lib.itoa numVal
                  cases hd r == 45 with
                  | true =>
                    simp only [if_true]
                    split
                    · rename_i hneg
                      have : (-(decV ds : Int)).natAbs = decV ds := by omega
                      rw [this, List.length_cons]
                      omega
                    · rename_i hneg
                      have h0 : decV ds = 0 := by omega
                      have : (-(decV ds : Int)).toNat = decV ds := by omega
                      rw [this]
                      omega
                  | false =>
                    have : ((decV ds : Nat) : Int).toNat = decV ds := by omega
                    simp only [Bool.false_eq_true, if_false]
                    rw [if_neg (by omega), this]
                    omega
                omega
theorem commas_len : ∀ ts : List Bs, ts ≠ [] → (commas ts).length + 1 = (ts.map fun t => t.length + 1).sum
  | [], h => absurd rfl h
  | [x], _ => by simp [commas]
  | x :: y :: r, _ => by
    have := commas_len (y :: r) (by simp)
    simp only [commas, List.map_cons, List.sum_cons, List.length_append, List.length_cons] at this ⊢
    omega
/-- a weight that parts bring, no more than what is read of them -/
theorem rowGo_short {σ : Type} {z : UInt8} {one : σ → Nat → Bs → Except Nat (σ × Nat × Bs)} {W : σ → Nat} (hz : z ≠ 0) (h : ∀ s k r s' k' r', one s k r = .ok (s', k', r') → W s' + r'.length ≤ W s + 1 + r.length ∧ W s < W s') : ∀ (f : Nat) (s : σ) (k : Nat) (r : Bs) (s' : σ) (k' : Nat) (r' : Bs), rowGo z one f s k r = .ok (s', k', r') → W s' + r'.length ≤ W s + r.length ∧ W s < W s'
  | 0, s, k, r, s', k', r', e => by simp [rowGo] at e
  | f + 1, s, k, r, s', k', r', e => by
    rw [rowGo] at e
    cases ho : one s k r with
    | error er => rw [ho] at e; cases e
    | ok p =>
      obtain ⟨s1, k1, r1⟩ := p
      have h1 := h s k r s1 k1 r1 ho
      have h2 := skip_le r1
      rw [ho] at e
      simp only [] at e
      split at e
      · rename_i hc
        have h3 := hd_pos hc hz
        cases e
        omega
      · split at e
        · rename_i hc
          have h3 := hd_pos hc (by decide)
          have h4 := rowGo_short hz h f s1 k1 _ s' k' r' e
          omega
        · cases e
theorem row_short {σ : Type} {z : UInt8} {one : σ → Nat → Bs → Except Nat (σ × Nat × Bs)} {W : σ → Nat} (hz : z ≠ 0) (h : ∀ s k r s' k' r', one s k r = .ok (s', k', r') → W s' + r'.length ≤ W s + 1 + r.length ∧ W s < W s') (s : σ) (k : Nat) (r : Bs) (s' : σ) (k' : Nat) (r' : Bs) (hr : 0 < r.length) (e : row z one s k r = .ok (s', k', r')) : (s' = s ∧ r'.length + 2 ≤ r.length) ∨ (W s' + r'.length + 1 ≤ W s + r.length ∧ W s < W s') := by
  have ht : r.tail.length + 1 = r.length := by simp; omega
  have hsk := skip_le r.tail
  unfold row at e
  split at e
  · rename_i hc
    have h3 := hd_pos hc hz
    cases e
    exact Or.inl ⟨rfl, by omega⟩
  · have := rowGo_short hz h _ _ _ _ _ _ _ e
    exact Or.inr ⟨by omega, this.2⟩
theorem sum_insert {α : Type} (W : Bs × α → Nat) (fs : List (Bs × α)) (nm : Bs) (v : α) : ((insertAt fs nm v).map W).sum = (fs.map W).sum + W (nm, v) := by
  rw [insert_eq]
  have h : (fs.map W).sum = ((fs.take (placeOfName fs nm)).map W).sum + ((fs.drop (placeOfName fs nm)).map W).sum := by
    rw [← List.sum_append, ← List.map_append, List.take_append_drop]
  rw [List.map_append, List.sum_append, List.map_cons, List.sum_cons, h]
  omega
theorem value_short : ∀ (n : Nat) (k : Nat) (r : Bs) (j : J n) (k' : Nat) (r' : Bs), value n k r = .ok (j, k', r') → (tell n j).length + r'.length ≤ r.length
  | 0, k, r, j, k', r', e => by
    have hsk := skip_le r
    rcases (value_cases e).2 with ⟨l, _, _, hl, hj, _⟩ | ⟨m, hm, _⟩ | ⟨m, hm, _⟩
    · have := leafE_short hl
      have e1 : tell 0 j = tellLeaf l := by rw [hj]; rfl
      rw [e1]
      omega
    · cases hm
    · cases hm
  | n + 1, k, r, j, k', r', e => by
    have hsk := skip_le r
    rcases (value_cases e).2 with ⟨l, _, _, hl, rfl, _⟩ | ⟨m, hm, xs, hc, hr, hj⟩ | ⟨m, hm, fs, hc, hr, hj⟩
    · have := leafE_short hl
      show (tellLeaf l).length + r'.length ≤ r.length
      omega
    · cases hm
      subst hj
      have hp := hd_pos hc (by decide)
      show (91 :: (commas (xs.map (tell n)) ++ [93])).length + r'.length ≤ r.length
      simp only [List.length_cons, List.length_append, List.length_nil]
      rcases row_short (one := oneItem (value n)) (W := fun s => (s.map fun x => (tell n x).length + 1).sum) (by decide) (fun s k r s' k' r' ho => by
          obtain ⟨v, hv, rfl⟩ := oneItem_ok ho
          have := value_short n k r v k' r' hv
          simp only [List.map_append, List.sum_append, List.map_cons, List.map_nil, List.sum_cons, List.sum_nil]
          omega) _ _ _ _ _ _ (by omega) hr with ⟨h1, h2⟩ | ⟨h1, h2⟩
      · subst h1
        simp [commas]
        omega
      · by_cases h0 : xs = []
        · rw [h0] at h2
          simp at h2
        · have := commas_len (xs.map (tell n)) (by simpa using h0)
          simp only [List.map_map] at this
          have e1 : (xs.map ((fun t : Bs => t.length + 1) ∘ tell n)).sum = (xs.map fun x => (tell n x).length + 1).sum := rfl
          rw [e1] at this
          simp only [List.map_nil, List.sum_nil] at h1
          omega
    · cases hm
      subst hj
      have hp := hd_pos hc (by decide)
      show (123 :: (commas (fs.map fun f => quote f.1 ++ 58 :: tell n f.2) ++ [125])).length + r'.length ≤ r.length
      simp only [List.length_cons, List.length_append, List.length_nil]
      rcases row_short (one := oneField (value n)) (W := fun s => (s.map fun f => (quote f.1 ++ 58 :: tell n f.2).length + 1).sum) (by decide) (fun s k r s' k' r' ho => by
          obtain ⟨nm, v, r1, hn, hv, rfl⟩ := oneField_ok ho
          obtain ⟨q, hq, _, h58, rfl⟩ := nameE_ok hn
          have h1 := value_short n k _ v k' r' hv
          have h2 := (quoted_meant hq).2
          have h3 := skip_le r
          have h4 := skip_le q
          have h5 := hd_pos h58 (by decide)
          rw [sum_insert]
          simp only [List.length_append, List.length_cons] at h2 ⊢
          omega) _ _ _ _ _ _ (by omega) hr with ⟨h1, h2⟩ | ⟨h1, h2⟩
      · subst h1
        simp [commas]
        omega
      · by_cases h0 : fs = []
        · rw [h0] at h2
          simp at h2
        · have := commas_len (fs.map fun f => quote f.1 ++ 58 :: tell n f.2) (by simpa using h0)
          rw [List.map_map] at this
          have e1 : (fs.map ((fun t : Bs => t.length + 1) ∘ fun f => quote f.1 ++ 58 :: tell n f.2)).sum = (fs.map fun f => (quote f.1 ++ 58 :: tell n f.2).length + 1).sum := rfl
          rw [e1] at this
          simp only [List.map_nil, List.sum_nil] at h1
          omega
theorem read_short {s : Bs} {j : J 10} (h : read s = .ok j) : (tell 10 j).length ≤ s.length ∧ s.length ≤ 2000 := by
  unfold read at h
  split at h
  · cases h
  · rename_i h2
    cases hv : value 10 0 s with
    | error er => rw [hv] at h; cases h
    | ok p =>
      obtain ⟨j1, k1, r1⟩ := p
      rw [hv] at h
      simp only [] at h
      split at h
      · cases h
        have := value_short 10 0 s j k1 r1 hv
        exact ⟨by omega, by omega⟩
      · cases h
end Go.Proofs.YthdgfehfoidnbabGreatDoor
