/- The law JsonQuotes over this translation: it answers true at every two texts, and leaves old memory alone. -/
import Derived.Test.YtaogilpkeeigoaaDoorQuoteAny
import Derived.Test.YtaogilpkeeigoaaDoorReadText
namespace Go.Proofs.YtaogilpkeeigoaaDoor
open Go.RowKit
set_option linter.unusedVariables false
set_option linter.unusedSimpArgs false
theorem quoteE_cases (s : Bs) : quoteE s = #[.string ByteArray.empty, .int .i64 16] ∨ quoteE s = #[.string ByteArray.empty, .int .i64 2] ∨
    ((∀ c ∈ s, meant c = true) ∧ (quote s).length ≤ 2000 ∧ quoteE s = #[.string ⟨(quote s).toArray⟩, .int .i64 0]) := by
  unfold quoteE
  split
  · rename_i h
    split
    · exact Or.inr (Or.inl rfl)
    · split
      · exact Or.inr (Or.inl rfl)
      · exact Or.inr (Or.inr ⟨List.all_eq_true.1 h, by omega, rfl⟩)
  · exact Or.inl rfl
theorem quoted_self {s : Bs} (h : ∀ c ∈ s, meant c = true) : quoted (rest ⟨(quote s).toArray⟩ 0) = some (s, []) := by
  have e : rest ⟨(quote s).toArray⟩ 0 = quote s ++ [] := by simp [rest]
  rw [e]
  exact quoted_quote s h []
theorem bytes_eq_iff (x y : ByteArray) : x.toList = y.toList ↔ x.data.toList = y.data.toList := by
  rw [ByteArray.toList_eq, ByteArray.toList_eq]
theorem quotes_same {a b qa qb : ByteArray} (hi : quote a.data.toList = quote b.data.toList → a.data.toList = b.data.toList) (ha : (⟨(quote a.data.toList).toArray⟩ : ByteArray) = qa) (hb : (⟨(quote b.data.toList).toArray⟩ : ByteArray) = qb) :
    (qa.toList == qb.toList) = (a.toList == b.toList) := by
  rw [Bool.eq_iff_iff]
  simp only [beq_iff_eq, bytes_eq_iff]
  subst ha
  subst hb
  constructor
  · intro h
    exact hi (by simpa using h)
  · intro h
    rw [h]
set_option maxRecDepth 100000 in
set_option maxHeartbeats 2000000 in
theorem quotes_walk (a b : ByteArray) (w : World) (ha : a.size ≤ maxLen) (hb : b.size ≤ maxLen) :
    Calls Tryd.prog 5 #[.string a, .string b] w fun e w' => e = .returned (.bool true) ∧ Below w.heap.size w w' := by
  rcases quoteE_cases a.data.toList with hA | hA | ⟨hma, hla, hA⟩
  · have HA : Hid (quoteE a.data.toList = #[.string ByteArray.empty, .int .i64 16]) := hA
    clear hA
    rcases quoteE_cases b.data.toList with hB | hB | ⟨hmb, hlb, hB⟩
    all_goals
      have HB := hB
      clear hB
      go_enter Tryd.func5, Tryd.ntmps5
      go_wp2_with fail
      refine (quote_any a _ ha).mono ?_
      rintro e w1 ⟨rfl, b1⟩
      have HB1 : Hid (Below w.heap.size w w1) := b1
      clear b1
      rw [HA.out]
      go_wp2_with fail
      refine (quote_any b _ hb).mono ?_
      rintro e w2 ⟨rfl, b1⟩
      have HB2 : Hid (Below w.heap.size w w2) := HB1.out.trans (b1.mono HB1.out.size)
      clear b1
      rw [HB]
      go_wp2_with fail
      go_ret
      exact ⟨rfl, HB2.out⟩
  · have HA : Hid (quoteE a.data.toList = #[.string ByteArray.empty, .int .i64 2]) := hA
    clear hA
    rcases quoteE_cases b.data.toList with hB | hB | ⟨hmb, hlb, hB⟩
    all_goals
      have HB := hB
      clear hB
      go_enter Tryd.func5, Tryd.ntmps5
      go_wp2_with fail
      refine (quote_any a _ ha).mono ?_
      rintro e w1 ⟨rfl, b1⟩
      have HB1 : Hid (Below w.heap.size w w1) := b1
      clear b1
      rw [HA.out]
      go_wp2_with fail
      refine (quote_any b _ hb).mono ?_
      rintro e w2 ⟨rfl, b1⟩
      have HB2 : Hid (Below w.heap.size w w2) := HB1.out.trans (b1.mono HB1.out.size)
      clear b1
      rw [HB]
      go_wp2_with fail
      go_ret
      exact ⟨rfl, HB2.out⟩
  · have HQA := quoted_self hma
    have hsa := size_toArray (quote a.data.toList)
    rcases quoteE_cases b.data.toList with hB | hB | ⟨hmb, hlb, hB⟩
    · have HA : Hid (quoteE a.data.toList = #[.string ⟨(quote a.data.toList).toArray⟩, .int .i64 0]) := hA
      have HB : Hid (quoteE b.data.toList = #[.string ByteArray.empty, .int .i64 16]) := hB
      clear hA hB HQA hsa
      generalize (⟨(quote a.data.toList).toArray⟩ : ByteArray) = qa at *
      go_enter Tryd.func5, Tryd.ntmps5
      go_wp2_with fail
      refine (quote_any a _ ha).mono ?_
      rintro e w1 ⟨rfl, b1⟩
      have HB1 : Hid (Below w.heap.size w w1) := b1
      clear b1
      rw [HA.out]
      go_wp2_with fail
      refine (quote_any b _ hb).mono ?_
      rintro e w2 ⟨rfl, b1⟩
      have HB2 : Hid (Below w.heap.size w w2) := HB1.out.trans (b1.mono HB1.out.size)
      clear b1
      rw [HB.out]
      go_wp2_with fail
      go_ret
      exact ⟨rfl, HB2.out⟩
    · have HA : Hid (quoteE a.data.toList = #[.string ⟨(quote a.data.toList).toArray⟩, .int .i64 0]) := hA
      have HB : Hid (quoteE b.data.toList = #[.string ByteArray.empty, .int .i64 2]) := hB
      clear hA hB HQA hsa
      generalize (⟨(quote a.data.toList).toArray⟩ : ByteArray) = qa at *
      go_enter Tryd.func5, Tryd.ntmps5
      go_wp2_with fail
      refine (quote_any a _ ha).mono ?_
      rintro e w1 ⟨rfl, b1⟩
      have HB1 : Hid (Below w.heap.size w w1) := b1
      clear b1
      rw [HA.out]
      go_wp2_with fail
      refine (quote_any b _ hb).mono ?_
      rintro e w2 ⟨rfl, b1⟩
      have HB2 : Hid (Below w.heap.size w w2) := HB1.out.trans (b1.mono HB1.out.size)
      clear b1
      rw [HB.out]
      go_wp2_with fail
      go_ret
      exact ⟨rfl, HB2.out⟩
    · have HI : Hid (quote a.data.toList = quote b.data.toList → a.data.toList = b.data.toList) := quote_inj hma hmb
      generalize hqa : (⟨(quote a.data.toList).toArray⟩ : ByteArray) = qa at *
      generalize hqb : (⟨(quote b.data.toList).toArray⟩ : ByteArray) = qb at *
      have HA : Hid (quoteE a.data.toList = #[.string qa, .int .i64 0]) := hA
      have HB : Hid (quoteE b.data.toList = #[.string qb, .int .i64 0]) := hB
      have HqA : Hid ((⟨(quote a.data.toList).toArray⟩ : ByteArray) = qa) := hqa
      have HqB : Hid ((⟨(quote b.data.toList).toArray⟩ : ByteArray) = qb) := hqb
      have HQ : Hid (quoted (rest qa 0) = some (a.data.toList, [])) := HQA
      have hqs : qa.size ≤ 2000 := by omega
      have heq := quotes_same HI.out hqa hqb
      clear hA hB hqa hqb HQA hsa hma hmb hla hlb
      go_enter Tryd.func5, Tryd.ntmps5
      go_wp2_with fail
      refine (quote_any a _ ha).mono ?_
      rintro e w1 ⟨rfl, b1⟩
      have HB1 : Hid (Below w.heap.size w w1) := b1
      clear b1
      rw [HA.out]
      go_wp2_with fail
      refine (quote_any b _ hb).mono ?_
      rintro e w2 ⟨rfl, b1⟩
      have HB2 : Hid (Below w.heap.size w w2) := HB1.out.trans (b1.mono HB1.out.size)
      clear b1
      rw [HB.out]
      go_wp2_with fail
      refine (kind_text qa _ _ hqs HQ.out).mono ?_
      rintro e w3 ⟨rfl, b1⟩
      have HB3 : Hid (Below w.heap.size w w3) := HB2.out.trans (b1.mono HB2.out.size)
      clear b1
      go_wp2_with fail
      refine (canon_text qa _ _ hqs HQ.out).mono ?_
      rintro e w4 ⟨rfl, b1⟩
      have HB4 : Hid (Below w.heap.size w w4) := HB3.out.trans (b1.mono HB3.out.size)
      clear b1
      rw [HqA.out]
      go_wp2_with fail
      go_ret
      exact ⟨rfl, HB4.out⟩
end Go.Proofs.YtaogilpkeeigoaaDoor
