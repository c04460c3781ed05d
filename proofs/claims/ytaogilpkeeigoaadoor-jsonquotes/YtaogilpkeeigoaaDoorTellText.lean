/- Contracts over this translation of what tells a value, at texts. -/
import Derived.Test.YtaogilpkeeigoaaDoorWriteQuoted
import Derived.Test.YtaogilpkeeigoaaDoorTa
namespace Go.Proofs.YtaogilpkeeigoaaDoor
open Go.RowKit
set_option linter.unusedVariables false
set_option linter.unusedSimpArgs false
theorem quote_geL (s : Bs) : s.length ≤ (quote s).length := by
  have h : ∀ l : Bs, l.length ≤ (l.flatMap quoteB).length := by
    intro l
    induction l with
    | nil => simp
    | cons c l ih =>
      have h1 : 1 ≤ (quoteB c).length := by
        unfold quoteB
        split
        · simp
        · split
          · simp
          · split <;> simp
      simp only [List.flatMap_cons, List.length_append, List.length_cons]
      omega
  have := h s
  simp only [quote, List.length_cons, List.length_append]
  omega
abbrev textV (s : ByteArray) : Value := .iface 46 (.string s)
set_option maxRecDepth 100000 in
set_option maxHeartbeats 1000000 in
theorem write_text (B : Nat) (s : ByteArray) (v : Value) (l : Bs) (w : World) (hO : Own B w v l) (hB : B ≤ w.heap.size) (hlim : l.length + (quote s.data.toList).length ≤ 1000000000) (hs : s.size ≤ 100000000) :
    Calls Tryd.prog 21 #[v, textV s] w fun e w' => ∃ v', e = .returned v' ∧ Own B w' v' (l ++ quote s.data.toList) ∧ Below B w w' := by
  have HO : Hid (Own B w v l) := hO
  clear hO
  obtain ⟨a1, a2, a3, a4, a5, a6⟩ := tas_Text
  go_enter Tryd.func21, Tryd.ntmps21
  go_wp2_with fail
  refine (writeQuoted_any B s v l _ HO.out hB hlim hs).mono ?_
  rintro e w1 ⟨v', rfl, hO, hb⟩
  have HO1 : Hid (Own B w1 v' (l ++ quote s.data.toList)) := hO
  have HB1 : Hid (Below B w w1) := hb.below
  clear hO hb
  go_wp2_with fail
  go_ret
  exact ⟨v', rfl, HO1.out, HB1.out⟩
set_option maxRecDepth 100000 in
set_option maxHeartbeats 1000000 in
theorem text_text (s : ByteArray) (w : World) (hs : s.size ≤ 100000000) (hlim : (quote s.data.toList).length ≤ 1000000000) :
    Calls Tryd.prog 13 #[textV s] w fun e w' => e = .returned (.string ⟨(quote s.data.toList).toArray⟩) ∧ Below w.heap.size w w' := by
  go_enter Tryd.func13, Tryd.ntmps13
  go_wp2_with fail
  refine (write_text w.heap.size s _ [] _ (Own.nil _ _) (Nat.le_refl _) (by simpa using hlim) hs).mono ?_
  rintro e w1 ⟨v', rfl, hO, hb⟩
  have hcv := conv_own hO
  have HB1 : Hid (Below w.heap.size w w1) := hb
  clear hO hb
  go_wp2_with fail
  go_ret
  exact ⟨rfl, HB1.out⟩
set_option maxRecDepth 100000 in
set_option maxHeartbeats 1000000 in
theorem measure_text (s : ByteArray) (w : World) :
    Calls Tryd.prog 15 #[textV s] w fun e w' => e = .returned (.agg #[.int .i64 1, .int .i64 0, .int .i64 s.size]) ∧ Below w.heap.size w w' := by
  obtain ⟨a1, a2, a3, a4, a5, a6⟩ := tas_Text
  go_enter Tryd.func15, Tryd.ntmps15
  go_wp2_with fail
  exact bodyPost_ret (v := .agg #[.int .i64 1, .int .i64 0, .int .i64 s.size]) (by simp [results, Tryd.results15, go_sem]) rfl ⟨rfl, (Below.refl _ _).alloc (Nat.le_refl _) _⟩
set_option maxRecDepth 100000 in
set_option maxHeartbeats 1000000 in
theorem kindOf_text (s : ByteArray) (w : World) :
    Calls Tryd.prog 18 #[textV s] w fun e w' => e = .returned (.int .i64 4) ∧ w' = w := by
  obtain ⟨a1, a2, a3, a4, a5, a6⟩ := tas_Text
  go_enter Tryd.func18, Tryd.ntmps18
  go_wp2_with fail
  go_ret
  exact ⟨rfl, rfl⟩
/-- a document, if it is not too long -/
def toldE (q : Bs) : Array Value := if 2000 < q.length then #[.string ByteArray.empty, .int .i64 2] else #[.string ⟨q.toArray⟩, .int .i64 0]
theorem size_toArray (l : Bs) : (⟨l.toArray⟩ : ByteArray).size = l.length := by simp [ByteArray.size]
set_option maxRecDepth 100000 in
set_option maxHeartbeats 1000000 in
theorem tell_text (s : ByteArray) (w : World) (hs : s.size ≤ 100000000) (hlim : (quote s.data.toList).length ≤ 1000000000) :
    Calls Tryd.prog 17 #[textV s] w fun e w' => e = .returned (.tuple (toldE (quote s.data.toList))) ∧ Below w.heap.size w w' := by
  go_enter Tryd.func17, Tryd.ntmps17
  go_wp2_with fail
  refine (measure_text s _).mono ?_
  rintro e w1 ⟨rfl, hb⟩
  have HB1 : Hid (Below w.heap.size w w1) := hb
  clear hb
  have HSl : Hid (s.data.toList.length = s.size) := by show _ = _; cases s; simp [ByteArray.size]
  have HQl : Hid (s.data.toList.length ≤ (quote s.data.toList).length) := quote_geL _
  by_cases hbb : (2000 : Int) < (s.size : Int)
  · go_wp2_with fail
    go_ret2
    refine ⟨?_, HB1.out.alloc HB1.out.size _⟩
    rw [toldE, if_pos (by have := HSl.out; have := HQl.out; omega)]
    rfl
  go_wp2_with fail
  refine (text_text s _ hs hlim).mono ?_
  rintro e w2 ⟨rfl, hb⟩
  have HB2 : Hid (Below w.heap.size w w2) := (HB1.out.alloc HB1.out.size _).trans (hb.mono (by have := HB1.out.size; simp; omega))
  clear hb
  have HZ : Hid ((⟨(quote s.data.toList).toArray⟩ : ByteArray).size = (quote s.data.toList).length) := size_toArray _
  generalize hq : (⟨(quote s.data.toList).toArray⟩ : ByteArray) = q at *
  have HQ : Hid ((⟨(quote s.data.toList).toArray⟩ : ByteArray) = q) := hq
  clear hq
  by_cases hgt : (2000 : Int) < (q.size : Int)
  · go_wp2_with fail
    go_ret2
    refine ⟨?_, HB2.out⟩
    rw [toldE, if_pos (by have := HZ.out; omega)]
    rfl
  · go_wp2_with fail
    go_ret2
    refine ⟨?_, HB2.out⟩
    rw [toldE, if_neg (by have := HZ.out; omega), HQ.out]
    rfl
end Go.Proofs.YtaogilpkeeigoaaDoor
