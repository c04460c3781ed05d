/- Grants that come in: how many bytes their rows take. -/
import Derived.Test.YtnjjlnhchfoigaaGrArgs
import Derived.SizedLaws
namespace Go.Proofs.Ytnjjlnhchfoigaa
open Go.ChangeShapes Go.WideShapes Go.ChangeAt Go.RowKit Go.Deep
set_option linter.unusedVariables false
set_option linter.unusedSimpArgs false
section
variable {H : Type} {enc : TypeId × Value → H} {W : World} {base : Nat}
theorem slice_weight {ts te : TypeId} (hu : Try.prog.underlying ts = some (.slice te)) {fuel : Nat} {x : DataW H × List MemPlace} {p : Option Addr} {k c : Nat} (h : DataW.trod enc Try.prog W base (fun _ => true) true fuel ts [.slice p k c] = some x)
    {M : Nat} (hM : ∀ n ∈ x.1.weights Try.prog ts, n ≤ M) : k * Try.prog.bytesOf te ≤ M := by
  rcases open_slice hu h with ⟨hcs, hx⟩ | ⟨a, len, cap, m, n, D, Pl, hcs, _, hl, hm, hmm, hx, hel⟩
  · injection hcs with hcs _
    injection hcs with _ e _
    subst e
    rw [Nat.zero_mul]
    exact Nat.zero_le _
  · injection hcs with hcs _
    injection hcs with _ e _
    subst e
    have h1 := hM ((((List.range k).map D).length + ((List.range (m - k)).map fun j => D (k + j)).length) * Try.prog.bytesOf te) (by rw [hx]; simp [DataW.weights, hu])
    refine Nat.le_trans (Nat.mul_le_mul_right _ ?_) h1
    simp
set_option maxRecDepth 100000 in
theorem bytes_role : Try.prog.bytesOf 47 = 56 := by kernel_rfl
set_option maxRecDepth 100000 in
theorem bytes_bind : Try.prog.bytesOf 49 = 104 := by kernel_rfl
set_option maxRecDepth 100000 in
theorem grants_argW {v : Value} {d : DataW H} {p : List MemPlace} (hval : Value.okWide Try.prog W .any base 25 v) (h : DataW.Trod enc Try.prog W 0 (fun _ => true) true 25 v d p) (hd : ∀ n ∈ d.weights Try.prog 25, n ≤ reachBytes) :
    ∃ (a b : Value) (rs : List Ro) (bs : List Bi), v = .agg #[a, b] ∧ Grs W a b rs bs ∧ rs.length * 56 ≤ reachBytes ∧ bs.length * 104 ≤ reachBytes := by
  obtain ⟨cs, rfl, _⟩ := okWide_struct Try.underlying25 hval
  obtain ⟨fuel, hf⟩ := h
  obtain ⟨y0, y1, n, hx, hlen, h0, h1⟩ := trod_struct2 Try.underlying25 hf
  rw [cellsGrants] at hlen
  obtain ⟨c0, c1, hcs⟩ := len2 hlen
  have hcs' : cs.toList = [c0, c1] := hcs
  rw [hcs] at h0 h1
  have k0 := cell_of 0 rfl cellsRoles h0
  have k1 := cell_of 1 rfl cellsBinds h1
  obtain ⟨rs, s0, f0⟩ := roles_trod k0
  obtain ⟨bs, s1, f1⟩ := binds_trod k1
  have hdd : d = .agg [y0.1, y1.1] := congrArg Prod.fst hx
  rw [hdd] at hd
  obtain ⟨q0, z0, e0, _⟩ := Sq.form s0
  obtain ⟨q1, z1, e1, _⟩ := Sq.form s1
  rw [e0] at k0
  rw [e1] at k1
  have w0 := slice_weight Try.underlying22 k0 (M := reachBytes) (fun n hn => hd n (by
    rw [DataW.weights, Try.underlying25]
    exact DataW.weights_mem_each (j := 0) rfl rfl n hn))
  have w1 := slice_weight Try.underlying23 k1 (M := reachBytes) (fun n hn => hd n (by
    rw [DataW.weights, Try.underlying25]
    exact DataW.weights_mem_each (j := 1) rfl rfl n hn))
  rw [bytes_role] at w0
  rw [bytes_bind] at w1
  exact ⟨c0, c1, rs, bs, by rw [show cs = #[c0, c1] from Array.toList_inj.1 hcs'], ⟨s0, s1, f0, f1⟩, w0, w1⟩
end
end Go.Proofs.Ytnjjlnhchfoigaa
