/- The library's two errors out of what is laid. -/
import Derived.Test.YthdgfehfoidnbabGreatDoorPtrWay
import Derived.Test.YthdgfehfoidnbabGreatDoorLaid
import Derived.LaidSub
import Derived.LaidLaws
namespace Go.Proofs.YthdgfehfoidnbabGreatDoor
open Go.RowKit
set_option linter.unusedVariables false
set_option linter.unusedSimpArgs false
theorem iface_of_one {P : Program} {W : World} {name nm : String} {d : DataW Unit} {g : Nat} {t : TypeId} {ms : Array (String × TypeId)} (hg : P.globalNamed name = some g) (hty : (P.globals[g]?).map (·.type) = some t) (ht : P.underlying t = some (.interface ms))
    (h : laidMet P [(name, .iface nm d)] W) : g < W.heap.size ∧ ∃ u v, W.cell? ⟨g, 0, none⟩ = some (.iface u v) := by
  obtain ⟨ps, ⟨g', t', cs, fuel, p, q, hg', ht', hvar, hd, _, _⟩, _⟩ := h
  obtain rfl := Option.some.inj (hg.symm.trans hg')
  obtain rfl := Option.some.inj (hty.symm.trans ht')
  obtain ⟨fuel', u, v, hcs, _, _⟩ := iface_of_trod ht hd
  unfold World.var? at hvar
  rw [hg] at hvar
  simp only [Option.bind_some] at hvar
  cases hh : W.heap[g]? with
  | none => rw [hh] at hvar; cases hvar
  | some o =>
    rw [hh] at hvar
    cases o with
    | cells c ty fr =>
      simp only [Option.some.injEq] at hvar
      subst hvar
      refine ⟨(Array.getElem?_eq_some_iff.1 hh).1, u, v, ?_⟩
      rw [cell_of_row _ _ _ _ _ _ hh]
      have : c = #[.iface u v] := by
        apply Array.toList_inj.1
        rw [hcs]
      rw [this]
      rfl
    | _ => cases hvar
theorem errs_of {l : List (String × DataW Unit)} {n1 n2 : String} {d1 d2 : DataW Unit} {W : World} (hn : (l.all fun x => x.2.handleName?.isNone) = true) (h1 : l.filter (fun x => x.1 == "strconv.ErrSyntax") = [("strconv.ErrSyntax", .iface n1 d1)]) (h2 : l.filter (fun x => x.1 == "strconv.ErrRange") = [("strconv.ErrRange", .iface n2 d2)])
    (h : laidMetH Tryz.prog l W) : Errs W := by
  rw [Go.MakeChecks.laidMetH_plain _ _ _ hn] at h
  have a := h.filter (fun x => x.1 == "strconv.ErrSyntax")
  have b := h.filter (fun x => x.1 == "strconv.ErrRange")
  rw [h1] at a
  rw [h2] at b
  obtain ⟨a1, u, v, a2⟩ := iface_of_one (P := Tryz.prog) (g := 1) (t := 103) (by kernel_rfl) (by kernel_rfl) Tryz.underlying103 a
  obtain ⟨b1, u', v', b2⟩ := iface_of_one (P := Tryz.prog) (g := 2) (t := 103) (by kernel_rfl) (by kernel_rfl) Tryz.underlying103 b
  exact ⟨_, _, ⟨a1, a2, Or.inr ⟨_, _, rfl⟩⟩, b1, b2, Or.inr ⟨_, _, rfl⟩⟩
end Go.Proofs.YthdgfehfoidnbabGreatDoor
