/- How many parts a selector that comes in may have: within the form's own reach. -/
import Derived.Test.YtglmffplnglkdabDoorQGood
import Derived.SizedLaws
namespace Go.Proofs.YtglmffplnglkdabDoor
open Go.ChangeShapes Go.WideShapes Go.ChangeAt Go.RowKit Go.Deep
set_option linter.unusedVariables false
set_option maxRecDepth 100000
theorem bytesReq : Tryd.prog.bytesOf 24 = 48 := by kernel_rfl
theorem reqs_room {H : Type} {enc : TypeId × Value → H} {W : World} {base : Nat} {v : Value} {d : DataW H} {p : List MemPlace} {ts : List TypeId} {ds : List (DataW H)} {j : Nat} {l : List Rq} (hsz : (DataW.weightsEach Tryd.prog ts ds).all (· ≤ reachBytes) = true) (ht : ts[j]? = some 30) (hd : ds[j]? = some d)
    (hval : Value.okWide Tryd.prog W .any base 30 v) (h : DataW.Trod enc Tryd.prog W 0 (fun _ => true) true 30 v d p) (hr : Reqs W v l) : l.length * 48 ≤ 140737488351232 := by
  obtain ⟨a0, len, cap, rfl⟩ := okWide_slice Tryd.underlying30 hval
  obtain ⟨p1, c1, e1, _, _⟩ := hr.open
  have e1' : len = l.length := by injection e1
  obtain ⟨fuel, hf⟩ := h
  rcases open_slice Tryd.underlying30 hf with ⟨hcs, hx⟩ | ⟨a, len', cap', m, n, D, Pl, hcs, _, hl, hm, hmm, hx, _⟩
  · simp [Value.cells] at hcs
    obtain ⟨_, rfl, _⟩ := hcs
    omega
  · simp [Value.cells] at hcs
    obtain ⟨_, rfl, _⟩ := hcs
    simp only [Prod.mk.injEq] at hx
    obtain ⟨rfl, _⟩ := hx
    have h1 := sized_slice hsz ht hd Tryd.underlying30
    rw [bytesReq] at h1
    simp only [List.length_map, List.length_range] at h1
    have h2 : reachBytes = 140737488351232 := by decide
    have h3 : len * 48 ≤ (len + (m - len)) * 48 := Nat.mul_le_mul_right _ (by omega)
    omega
end Go.Proofs.YtglmffplnglkdabDoor
