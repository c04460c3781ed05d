/- Several texts in one: SizeAny, Laid, At. -/
import Derived.Test.YtmleekpghdfdgaaGreatDoorTop
import Derived.Test.YtmleekpghdfdgaaGreatDoorMeasure
import Derived.Test.YtmleekpghdfdgaaGreatDoorDocSize
import Derived.Test.YtmleekpghdfdgaaGreatDoorDocErr
import Derived.Lib.LaidTab
import Derived.MakeChecks
/- Contracts over this translation of json.Size, at every text. -/
namespace Go.Proofs.YtmleekpghdfdgaaGreatDoor
open Go.RowKit
set_option linter.unusedVariables false
set_option linter.unusedSimpArgs false
/-- what Size answers -/
def sizeE (s : Bs) : Array Value :=
  match read s with
  | .error e => #[.int .i64 0, .int .i64 0, .int .i64 e]
  | .ok j => #[.int .i64 (nodes 10 j), .int .i64 (depth 10 j), .int .i64 0]
set_option maxRecDepth 100000 in
set_option maxHeartbeats 2000000 in
theorem size_any (t : ByteArray) (w : World) (hs : t.size ≤ maxLen) :
    Calls Tryz.prog 13 #[.string t] w fun e w' => e = .returned (.tuple (sizeE t.data.toList)) ∧ Below w.heap.size w w' := by
  go_enter Tryz.func13, Tryz.ntmps13
  go_wp2_with fail
  refine (read_any t _ hs).mono ?_
  rintro e w1 ⟨b1, h1⟩
  have HB1 : Hid (Below w.heap.size w w1) := b1
  clear b1
  rcases h1 with ⟨er, hr, her, her2, rfl⟩ | ⟨j, v, hr, rfl, hone, hst⟩
  · have HE : Hid (sizeE t.data.toList = #[.int .i64 0, .int .i64 0, .int .i64 er]) := by
      show sizeE t.data.toList = _
      rw [sizeE, hr]
    have hbe : ((er : Int) != 0) = true := by rw [bne_iff_ne]; omega
    clear hr
    go_wp2_with fail
    exact bodyPost_ret (v := .tuple #[.int .i64 0, .int .i64 0, .int .i64 er]) (by simp [results, Tryz.results13, go_sem]) rfl ⟨by rw [HE.out], HB1.out⟩
  · have HE : Hid (sizeE t.data.toList = #[.int .i64 (nodes 10 j), .int .i64 (depth 10 j), .int .i64 0]) := by
      show sizeE t.data.toList = _
      rw [sizeE, hr]
    have hz := read_size hr
    have hx := measure_ok 10 _ j v w1 hst (by omega) (by omega)
    have HX : Hid (Calls Tryz.prog 38 #[v] w1 fun e w' => e = .returned (.agg #[.int .i64 (nodes 10 j), .int .i64 (depth 10 j)]) ∧ Below w1.heap.size w1 w') := hx
    clear hr hst hx
    go_wp2_with fail
    refine Calls.mono HX.out ?_
    rintro e w2 ⟨rfl, b2⟩
    have HB2 : Hid (Below w.heap.size w w2) := HB1.out.trans (b2.mono HB1.out.size)
    clear b2
    have hxa : (w2.alloc (.cells #[.int .i64 (nodes 10 j), .int .i64 (depth 10 j)] 60)).heap[w2.heap.size]? = some (.cells #[.int .i64 (nodes 10 j), .int .i64 (depth 10 j)] 60 (0, 0)) := heap_alloc_new w2 _
    have x0 : (w2.alloc (.cells #[.int .i64 (nodes 10 j), .int .i64 (depth 10 j)] 60)).cell? ⟨w2.heap.size, 0, none⟩ = some (.int .i64 (nodes 10 j)) := by rw [cell_of_row _ _ _ _ _ _ hxa]; rfl
    have x1 : (w2.alloc (.cells #[.int .i64 (nodes 10 j), .int .i64 (depth 10 j)] 60)).cell? ⟨w2.heap.size, 1, none⟩ = some (.int .i64 (depth 10 j)) := by rw [cell_of_row _ _ _ _ _ _ hxa]; rfl
    have HBa : Hid (Below w.heap.size w (w2.alloc (.cells #[.int .i64 (nodes 10 j), .int .i64 (depth 10 j)] 60))) := HB2.out.alloc HB2.out.size _
    clear hxa
    go_wp2_with fail
    generalize w2.alloc (.cells #[.int .i64 (nodes 10 j), .int .i64 (depth 10 j)] 60) = wa at *
    go_region
    go_wp2_with fail
    exact bodyPost_ret (v := .tuple #[.int .i64 (nodes 10 j), .int .i64 (depth 10 j), .int .i64 0]) (by simp [results, Tryz.results13, go_sem]) rfl ⟨by rw [HE.out], HBa.out.drew⟩
end Go.Proofs.YtmleekpghdfdgaaGreatDoor
/- The table of powers of ten out of what is laid; the laws' own canon at every text. -/
namespace Go.Proofs.YtmleekpghdfdgaaGreatDoor
open Go.RowKit
set_option linter.unusedVariables false
set_option linter.unusedSimpArgs false
/-- the table stands third on the list -/
theorem tabIs_of_third {P : Program} {W : World} {name : String} {k : IntKind} {zs : List Int} {x y : String × DataW Unit} {rest : List (String × DataW Unit)} {g : Nat} {t e : TypeId} {n : Nat}
    (hg : P.globalNamed name = some g) (hty : (P.globals[g]?).map (·.type) = some t) (ht : P.underlying t = some (.array n e)) (he : P.underlying e = some (.int k)) (hce : P.cellsOf e = 1) (hct : P.cellsOf t = n)
    (h : laidMet P (x :: y :: (name, Lib.tabData k zs) :: rest) W) : Lib.TabIs P W name k zs := by
  obtain ⟨ps, ⟨_, _, _, _, _, _, _, _, _, _, ⟨_, _, _, _, _, _, _, _, _, _, ⟨g', t', cs, fuel, p, q, hg', ht', hvar, hd, _, _⟩, _⟩, _⟩, _⟩ := h
  obtain rfl := Option.some.inj (hg.symm.trans hg')
  obtain rfl := Option.some.inj (hty.symm.trans ht')
  unfold Lib.TabIs
  rw [hvar, ← Lib.cells_of_tab ht he hce hct hd]
theorem tab_of_laid {x y : String × DataW Unit} {rest : List (String × DataW Unit)} {W : World} (hn : ((x :: y :: ("internal/strconv.uint64pow10", Lib.tabData .u64 Lib.pow10Tab) :: rest).all fun x => x.2.handleName?.isNone) = true)
    (h : laidMetH Tryz.prog (x :: y :: ("internal/strconv.uint64pow10", Lib.tabData .u64 Lib.pow10Tab) :: rest) W) : Tab W.heap.size W := by
  rw [Go.MakeChecks.laidMetH_plain _ _ _ hn] at h
  exact Lib.tabBelow_of_tabIs (tabIs_of_third (P := Tryz.prog) (g := 5) (t := 213) (e := 142) (n := 20) (by kernel_rfl) (by kernel_rfl) Tryz.underlying213 Tryz.underlying142 (by kernel_rfl) (by kernel_rfl) h)
theorem keepCanon_any (t : ByteArray) (w : World) (hs : t.size ≤ maxLen) (hT : Tab w.heap.size w) :
    Calls Tryz.prog 31 #[.string t] w fun e w' => (match read t.data.toList with
      | .error _ => e = .returned (.tuple #[.string ByteArray.empty, .bool false])
      | .ok j => e = .returned (.tuple #[.string ⟨(tell 10 j).toArray⟩, .bool true])) ∧ Below w.heap.size w w' := by
  have hC := canon_any t w hs hT
  cases hr : read t.data.toList with
  | error er =>
    have HC : Hid (Calls Tryz.prog 9 #[.string t] w fun e w' => e = .returned (.tuple #[.string ByteArray.empty, .int .i64 er]) ∧ Below w.heap.size w w') := by
      refine hC.mono ?_
      rintro e w1 ⟨rfl, b1⟩
      exact ⟨by rw [canonE, hr], b1⟩
    have her : er ≠ 0 := read_err hr
    have hbe : ((er : Int) == 0) = false := by rw [beq_eq_false_iff_ne]; omega
    clear hC hr hT
    go_enter Tryz.func31, Tryz.ntmps31
    go_wp2_with fail
    refine Calls.mono HC.out ?_
    rintro e w1 ⟨rfl, b1⟩
    have HB1 : Hid (Below w.heap.size w w1) := b1
    clear b1
    go_wp2_with fail
    go_ret2
    exact ⟨rfl, HB1.out⟩
  | ok j =>
    have HC : Hid (Calls Tryz.prog 9 #[.string t] w fun e w' => e = .returned (.tuple #[.string ⟨(tell 10 j).toArray⟩, .int .i64 0]) ∧ Below w.heap.size w w') := by
      refine hC.mono ?_
      rintro e w1 ⟨rfl, b1⟩
      exact ⟨by rw [canonE, hr], b1⟩
    clear hC hr hT
    simp only []
    generalize (⟨(tell 10 j).toArray⟩ : ByteArray) = tx at *
    go_enter Tryz.func31, Tryz.ntmps31
    go_wp2_with fail
    refine Calls.mono HC.out ?_
    rintro e w1 ⟨rfl, b1⟩
    have HB1 : Hid (Below w.heap.size w w1) := b1
    clear b1
    go_wp2_with fail
    go_ret2
    exact ⟨rfl, HB1.out⟩
end Go.Proofs.YtmleekpghdfdgaaGreatDoor
/- Contracts over this translation of the calls of package json, at texts of which it is known what they are read as. -/
namespace Go.Proofs.YtmleekpghdfdgaaGreatDoor
open Go.RowKit
set_option linter.unusedVariables false
set_option linter.unusedSimpArgs false
theorem ba_of {a : ByteArray} {x : Bs} (h : a.data.toList = x) : (⟨x.toArray⟩ : ByteArray) = a := by
  subst h
  cases a
  simp
/-- one call, from whatever was made since, answers this -/
def Says (w : World) (f : Nat) (args : Array Value) (v : Value) : Prop := ∀ w1, Below w.heap.size w w1 → Calls Tryz.prog f args w1 fun e w' => e = .returned v ∧ Below w1.heap.size w1 w'
theorem Says.mono {w : World} {f : Nat} {args : Array Value} {v u : Value} (h : Says w f args v) (e : v = u) : Says w f args u := e ▸ h
theorem canon_ok {t u : ByteArray} {x : Bs} {j : J 10} {w : World} (hT : Tab w.heap.size w) (hs : t.size ≤ maxLen) (hx : t.data.toList = x) (hr : read x = .ok j) (hu : u.data.toList = tell 10 j) :
    Says w 9 #[.string t] (.tuple #[.string u, .int .i64 0]) := by
  intro w1 hb
  have h := canon_any t w1 hs ((hT.below hb).mono hb.size)
  rw [hx] at h
  refine h.mono ?_
  rintro e w2 ⟨rfl, b2⟩
  refine ⟨?_, b2⟩
  rw [canonE, hr]
  simp only []
  rw [ba_of hu]
theorem canon_err {t : ByteArray} {x : Bs} {er : Nat} {w : World} (hT : Tab w.heap.size w) (hs : t.size ≤ maxLen) (hx : t.data.toList = x) (hr : read x = .error er) :
    Says w 9 #[.string t] (.tuple #[.string ByteArray.empty, .int .i64 er]) := by
  intro w1 hb
  have h := canon_any t w1 hs ((hT.below hb).mono hb.size)
  rw [hx] at h
  refine h.mono ?_
  rintro e w2 ⟨rfl, b2⟩
  refine ⟨?_, b2⟩
  rw [canonE, hr]
theorem size_ok {t : ByteArray} {x : Bs} {j : J 10} {w : World} (hs : t.size ≤ maxLen) (hx : t.data.toList = x) (hr : read x = .ok j) :
    Says w 13 #[.string t] (.tuple #[.int .i64 (nodes 10 j), .int .i64 (depth 10 j), .int .i64 0]) := by
  intro w1 hb
  have h := size_any t w1 hs
  rw [hx] at h
  refine h.mono ?_
  rintro e w2 ⟨rfl, b2⟩
  refine ⟨?_, b2⟩
  rw [sizeE, hr]
theorem keep_ok {t u : ByteArray} {x : Bs} {j : J 10} {w : World} (hT : Tab w.heap.size w) (hs : t.size ≤ maxLen) (hx : t.data.toList = x) (hr : read x = .ok j) (hu : u.data.toList = tell 10 j) :
    Says w 31 #[.string t] (.tuple #[.string u, .bool true]) := by
  intro w1 hb
  have h := keepCanon_any t w1 hs ((hT.below hb).mono hb.size)
  rw [hx, hr] at h
  simp only [] at h
  rw [ba_of hu] at h
  exact h
theorem keep_err {t : ByteArray} {x : Bs} {er : Nat} {w : World} (hT : Tab w.heap.size w) (hs : t.size ≤ maxLen) (hx : t.data.toList = x) (hr : read x = .error er) :
    Says w 31 #[.string t] (.tuple #[.string ByteArray.empty, .bool false]) := by
  intro w1 hb
  have h := keepCanon_any t w1 hs ((hT.below hb).mono hb.size)
  rw [hx, hr] at h
  exact h
end Go.Proofs.YtmleekpghdfdgaaGreatDoor
