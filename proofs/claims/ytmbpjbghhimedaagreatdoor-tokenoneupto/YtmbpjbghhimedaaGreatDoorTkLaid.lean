/- What package token reads of the variables, out of what is laid. -/
import Derived.Test.YtmbpjbghhimedaaGreatDoorTkMem
import Derived.Lib.LaidTab
import Derived.MakeChecks
import Derived.LaidSub
import Derived.LaidLaws
namespace Go.Proofs.YtmbpjbghhimedaaGreatDoor
open Go.RowKit
set_option linter.unusedVariables false
set_option linter.unusedSimpArgs false
theorem kTab_len : kTab.length = 64 := by decide +kernel
theorem iface_of_one {P : Program} {W : World} {name nm : String} {d : DataW Unit} {g : Nat} {t : TypeId} {ms : Array (String × TypeId)} (hg : P.globalNamed name = some g) (hty : (P.globals[g]?).map (·.type) = some t) (ht : P.underlying t = some (.interface ms))
    (h : laidMet P [(name, .iface nm d)] W) : g < W.heap.size ∧ ∃ u v, W.cell? ⟨g, 0, none⟩ = some (.iface u v) := by
  obtain ⟨ps, ⟨g', t', cs, fuel, p, q, hg', ht', hvar, hd, _, _⟩, _⟩ := h
  obtain rfl := Option.some.inj (hg.symm.trans hg')
  obtain rfl := Option.some.inj (hty.symm.trans ht')
  obtain ⟨fuel', u, v, hcs, _, _⟩ := iface_of_trod ht hd
  unfold World.var? at hvar
  rw [hg] at hvar
  simp only [Option.bind_some] at hvar
  cases hh : W.heap[g]? with
  | none => rw [hh] at hvar; cases hvar
  | some o =>
    rw [hh] at hvar
    cases o with
    | cells c ty fr =>
      simp only [Option.some.injEq] at hvar
      subst hvar
      refine ⟨(Array.getElem?_eq_some_iff.1 hh).1, u, v, ?_⟩
      rw [cell_of_row _ _ _ _ _ _ hh]
      have : c = #[.iface u v] := by
        apply Array.toList_inj.1
        rw [hcs]
      rw [this]
      rfl
    | _ => cases hvar
theorem tkw_of_laid {l : List (String × DataW Unit)} {n1 n2 : String} {d1 d2 : DataW Unit} {W : World} (hn : (l.all fun x => x.2.handleName?.isNone) = true)
    (h1 : l.filter (fun x => x.1 == "strconv.ErrSyntax") = [("strconv.ErrSyntax", .iface n1 d1)]) (h2 : l.filter (fun x => x.1 == "strconv.ErrRange") = [("strconv.ErrRange", .iface n2 d2)])
    (h3 : l.filter (fun x => x.1 == "internal/strconv.uint64pow10") = [("internal/strconv.uint64pow10", Lib.tabData .u64 Lib.pow10Tab)])
    (h4 : l.filter (fun x => x.1 == "seneschal/seal.cubeRoots") = [("seneschal/seal.cubeRoots", Lib.tabData .u32 (kTab.map fun x : Nat => (x : Int)))])
    (h : laidMetH Tryz.prog l W) (hsh : W.ShapedOpen Tryz.prog) : TkW W := by
  rw [Go.MakeChecks.laidMetH_plain _ _ _ hn] at h
  have a := h.filter (fun x => x.1 == "strconv.ErrSyntax")
  have b := h.filter (fun x => x.1 == "strconv.ErrRange")
  have c := h.filter (fun x => x.1 == "internal/strconv.uint64pow10")
  have d := h.filter (fun x => x.1 == "seneschal/seal.cubeRoots")
  rw [h1] at a
  rw [h2] at b
  rw [h3] at c
  rw [h4] at d
  obtain ⟨a1, u, v, a2⟩ := iface_of_one (P := Tryz.prog) (g := 1) (t := 61) (by kernel_rfl) (by kernel_rfl) Tryz.underlying61 a
  obtain ⟨b1, u', v', b2⟩ := iface_of_one (P := Tryz.prog) (g := 2) (t := 61) (by kernel_rfl) (by kernel_rfl) Tryz.underlying61 b
  have tc := Lib.tabIs_of_head (P := Tryz.prog) (g := 5) (t := 147) (e := 66) (n := 20) (by kernel_rfl) (by kernel_rfl) Tryz.underlying147 Tryz.underlying66 (by kernel_rfl) (by kernel_rfl) c
  have td := Lib.tabIs_of_head (P := Tryz.prog) (g := 6) (t := 88) (e := 85) (n := 64) (by kernel_rfl) (by kernel_rfl) Tryz.underlying88 Tryz.underlying85 (by kernel_rfl) (by kernel_rfl) d
  have hc : ∀ i, i < 64 → W.cell? ⟨6, i, none⟩ = some (.int .u32 (kTab.getD i 0 : Nat)) := fun i hi => by
    have h1 := td.cell (g := 6) (by kernel_rfl) i (by rw [List.length_map, kTab_len]; exact hi)
    rw [h1]
    congr 2
    rw [List.getD_eq_getElem?_getD, List.getElem?_map, List.getD_eq_getElem?_getD]
    rw [List.getElem?_eq_getElem (by rw [kTab_len]; exact hi)]
    rfl
  obtain ⟨m, hm⟩ := Tryz.room_cell W hsh
  exact ⟨⟨block_lt_of_cell (hc 0 (by decide)), hc⟩, Lib.tabBelow_of_tabIs tc, ⟨Nat.lt_of_le_of_lt (Nat.zero_le _) a1, m, hm⟩, ⟨a1, _, a2, Or.inr ⟨_, _, rfl⟩⟩, ⟨b1, _, b2, Or.inr ⟨_, _, rfl⟩⟩⟩
end Go.Proofs.YtmbpjbghhimedaaGreatDoor
