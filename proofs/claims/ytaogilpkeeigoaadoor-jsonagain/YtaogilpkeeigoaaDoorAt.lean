/- Contracts over this translation of the calls of package json, at texts of which it is known what they are read as. -/
import Derived.Test.YtaogilpkeeigoaaDoorLaid
import Derived.Test.YtaogilpkeeigoaaDoorSizeAny
namespace Go.Proofs.YtaogilpkeeigoaaDoor
open Go.RowKit
set_option linter.unusedVariables false
set_option linter.unusedSimpArgs false
theorem ba_of {a : ByteArray} {x : Bs} (h : a.data.toList = x) : (⟨x.toArray⟩ : ByteArray) = a := by
  subst h
  cases a
  simp
/-- one call, from whatever was made since, answers this -/
def Says (w : World) (f : Nat) (args : Array Value) (v : Value) : Prop := ∀ w1, Below w.heap.size w w1 → Calls Tryd.prog f args w1 fun e w' => e = .returned v ∧ Below w1.heap.size w1 w'
theorem Says.mono {w : World} {f : Nat} {args : Array Value} {v u : Value} (h : Says w f args v) (e : v = u) : Says w f args u := e ▸ h
theorem canon_ok {t u : ByteArray} {x : Bs} {j : J 10} {w : World} (hT : Tab w.heap.size w) (hs : t.size ≤ maxLen) (hx : t.data.toList = x) (hr : read x = .ok j) (hu : u.data.toList = tell 10 j) :
    Says w 6 #[.string t] (.tuple #[.string u, .int .i64 0]) := by
  intro w1 hb
  have h := canon_any t w1 hs ((hT.below hb).mono hb.size)
  rw [hx] at h
  refine h.mono ?_
  rintro e w2 ⟨rfl, b2⟩
  refine ⟨?_, b2⟩
  rw [canonE, hr]
  simp only []
  rw [ba_of hu]
theorem canon_err {t : ByteArray} {x : Bs} {er : Nat} {w : World} (hT : Tab w.heap.size w) (hs : t.size ≤ maxLen) (hx : t.data.toList = x) (hr : read x = .error er) :
    Says w 6 #[.string t] (.tuple #[.string ByteArray.empty, .int .i64 er]) := by
  intro w1 hb
  have h := canon_any t w1 hs ((hT.below hb).mono hb.size)
  rw [hx] at h
  refine h.mono ?_
  rintro e w2 ⟨rfl, b2⟩
  refine ⟨?_, b2⟩
  rw [canonE, hr]
theorem size_ok {t : ByteArray} {x : Bs} {j : J 10} {w : World} (hs : t.size ≤ maxLen) (hx : t.data.toList = x) (hr : read x = .ok j) :
    Says w 8 #[.string t] (.tuple #[.int .i64 (nodes 10 j), .int .i64 (depth 10 j), .int .i64 0]) := by
  intro w1 hb
  have h := size_any t w1 hs
  rw [hx] at h
  refine h.mono ?_
  rintro e w2 ⟨rfl, b2⟩
  refine ⟨?_, b2⟩
  rw [sizeE, hr]
theorem keep_ok {t u : ByteArray} {x : Bs} {j : J 10} {w : World} (hT : Tab w.heap.size w) (hs : t.size ≤ maxLen) (hx : t.data.toList = x) (hr : read x = .ok j) (hu : u.data.toList = tell 10 j) :
    Says w 9 #[.string t] (.tuple #[.string u, .bool true]) := by
  intro w1 hb
  have h := keepCanon_any t w1 hs ((hT.below hb).mono hb.size)
  rw [hx, hr] at h
  simp only [] at h
  rw [ba_of hu] at h
  exact h
theorem keep_err {t : ByteArray} {x : Bs} {er : Nat} {w : World} (hT : Tab w.heap.size w) (hs : t.size ≤ maxLen) (hx : t.data.toList = x) (hr : read x = .error er) :
    Says w 9 #[.string t] (.tuple #[.string ByteArray.empty, .bool false]) := by
  intro w1 hb
  have h := keepCanon_any t w1 hs ((hT.below hb).mono hb.size)
  rw [hx, hr] at h
  exact h
end Go.Proofs.YtaogilpkeeigoaaDoor
