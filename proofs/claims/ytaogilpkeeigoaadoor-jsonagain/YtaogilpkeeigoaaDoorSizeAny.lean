/- Contracts over this translation of json.Size, at every text. -/
import Derived.Test.YtaogilpkeeigoaaDoorTop
import Derived.Test.YtaogilpkeeigoaaDoorMeasure
import Derived.Test.YtaogilpkeeigoaaDoorDocSize
import Derived.Test.YtaogilpkeeigoaaDoorDocErr
namespace Go.Proofs.YtaogilpkeeigoaaDoor
open Go.RowKit
set_option linter.unusedVariables false
set_option linter.unusedSimpArgs false
/-- what Size answers -/
def sizeE (s : Bs) : Array Value :=
  match read s with
  | .error e => #[.int .i64 0, .int .i64 0, .int .i64 e]
  | .ok j => #[.int .i64 (nodes 10 j), .int .i64 (depth 10 j), .int .i64 0]
set_option maxRecDepth 100000 in
set_option maxHeartbeats 2000000 in
theorem size_any (t : ByteArray) (w : World) (hs : t.size ≤ maxLen) :
    Calls Tryd.prog 8 #[.string t] w fun e w' => e = .returned (.tuple (sizeE t.data.toList)) ∧ Below w.heap.size w w' := by
  go_enter Tryd.func8, Tryd.ntmps8
  go_wp2_with fail
  refine (read_any t _ hs).mono ?_
  rintro e w1 ⟨b1, h1⟩
  have HB1 : Hid (Below w.heap.size w w1) := b1
  clear b1
  rcases h1 with ⟨er, hr, her, her2, rfl⟩ | ⟨j, v, hr, rfl, hone, hst⟩
  · have HE : Hid (sizeE t.data.toList = #[.int .i64 0, .int .i64 0, .int .i64 er]) := by
      show sizeE t.data.toList = _
      rw [sizeE, hr]
    have hbe : ((er : Int) != 0) = true := by rw [bne_iff_ne]; omega
    clear hr
    go_wp2_with fail
    exact bodyPost_ret (v := .tuple #[.int .i64 0, .int .i64 0, .int .i64 er]) (by simp [results, Tryd.results8, go_sem]) rfl ⟨by rw [HE.out], HB1.out⟩
  · have HE : Hid (sizeE t.data.toList = #[.int .i64 (nodes 10 j), .int .i64 (depth 10 j), .int .i64 0]) := by
      show sizeE t.data.toList = _
      rw [sizeE, hr]
    have hz := read_size hr
    have hx := measure_ok 10 _ j v w1 hst (by omega) (by omega) (Nat.le_trans (lens_le 10 j) (by have := read_short hr; omega))
    have HX : Hid (Calls Tryd.prog 15 #[v] w1 fun e w' => e = .returned (.agg #[.int .i64 (nodes 10 j), .int .i64 (depth 10 j), .int .i64 (lens 10 j)]) ∧ Below w1.heap.size w1 w') := hx
    clear hr hst hx
    go_wp2_with fail
    refine Calls.mono HX.out ?_
    rintro e w2 ⟨rfl, b2⟩
    have HB2 : Hid (Below w.heap.size w w2) := HB1.out.trans (b2.mono HB1.out.size)
    clear b2
    have hxa : (w2.alloc (.cells #[.int .i64 (nodes 10 j), .int .i64 (depth 10 j), .int .i64 (lens 10 j)] 42)).heap[w2.heap.size]? = some (.cells #[.int .i64 (nodes 10 j), .int .i64 (depth 10 j), .int .i64 (lens 10 j)] 42 (0, 0)) := heap_alloc_new w2 _
    have x0 : (w2.alloc (.cells #[.int .i64 (nodes 10 j), .int .i64 (depth 10 j), .int .i64 (lens 10 j)] 42)).cell? ⟨w2.heap.size, 0, none⟩ = some (.int .i64 (nodes 10 j)) := by rw [cell_of_row _ _ _ _ _ _ hxa]; rfl
    have x1 : (w2.alloc (.cells #[.int .i64 (nodes 10 j), .int .i64 (depth 10 j), .int .i64 (lens 10 j)] 42)).cell? ⟨w2.heap.size, 1, none⟩ = some (.int .i64 (depth 10 j)) := by rw [cell_of_row _ _ _ _ _ _ hxa]; rfl
    have HBa : Hid (Below w.heap.size w (w2.alloc (.cells #[.int .i64 (nodes 10 j), .int .i64 (depth 10 j), .int .i64 (lens 10 j)] 42))) := HB2.out.alloc HB2.out.size _
    clear hxa
    go_wp2_with fail
    generalize w2.alloc (.cells #[.int .i64 (nodes 10 j), .int .i64 (depth 10 j), .int .i64 (lens 10 j)] 42) = wa at *
    go_region
    go_wp2_with fail
    exact bodyPost_ret (v := .tuple #[.int .i64 (nodes 10 j), .int .i64 (depth 10 j), .int .i64 0]) (by simp [results, Tryd.results8, go_sem]) rfl ⟨by rw [HE.out], HBa.out.drew⟩
end Go.Proofs.YtaogilpkeeigoaaDoor
