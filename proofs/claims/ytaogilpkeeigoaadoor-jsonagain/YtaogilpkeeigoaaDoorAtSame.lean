/- Contract over this translation of json.Same at texts of which it is known what they are read as. -/
import Derived.Test.YtaogilpkeeigoaaDoorTopSame
import Derived.Test.YtaogilpkeeigoaaDoorAt
namespace Go.Proofs.YtaogilpkeeigoaaDoor
open Go.RowKit
set_option linter.unusedVariables false
set_option linter.unusedSimpArgs false
theorem same_ok {s t : ByteArray} {x y : Bs} {j i : J 10} {w : World} (hT : Tab w.heap.size w) (hs : s.size ≤ maxLen) (ht : t.size ≤ maxLen) (hx : s.data.toList = x) (hy : t.data.toList = y) (hr : read x = .ok j) (hi : read y = .ok i) :
    Says w 7 #[.string s, .string t] (.tuple #[.bool (tell 10 j == tell 10 i), .int .i64 0]) := by
  intro w1 hb
  have h := same_any s t w1 hs ht ((hT.below hb).mono hb.size)
  rw [hx, hy] at h
  refine h.mono ?_
  rintro e w2 ⟨rfl, b2⟩
  refine ⟨?_, b2⟩
  rw [sameE, hr]
  simp only [hi]
end Go.Proofs.YtaogilpkeeigoaaDoor
