/- Several texts in one: TkArgs, TkLaid. -/
import Derived.Test.YtmbpjbghhimedaaGreatDoorRows
import Derived.Test.YtmbpjbghhimedaaGreatDoorTkMem
import Derived.Deep.SlicePairs
import Derived.Deep.Strs
import Derived.Carry
import Derived.ProofKit
import Derived.OpenShut
import Derived.ShutString
import Derived.Lib.LaidTab
import Derived.MakeChecks
import Derived.LaidSub
import Derived.LaidLaws
/- A user that comes in: how it lies in memory. -/
namespace Go.Proofs.YtmbpjbghhimedaaGreatDoor
open Go.ChangeShapes Go.WideShapes Go.ChangeAt Go.RowKit Go.Deep
set_option linter.unusedVariables false
set_option linter.unusedSimpArgs false
theorem laidOutA : laidOutB Tryz.prog = true := by kernel_rfl
theorem cellsStr : Tryz.prog.cellsOf 9 = 1 := by kernel_rfl
theorem cellsStrs : Tryz.prog.cellsOf 22 = 1 := by kernel_rfl
theorem lt_of_cell {W : World} {a : Addr} {v : Value} (h : W.cell? a = some v) : a.block < W.heap.size := by
  rcases Nat.lt_or_ge a.block W.heap.size with h1 | h1
  · exact h1
  · simp [World.cell?, Array.getElem?_eq_none h1] at h
theorem cellsUser : Tryz.prog.cellsOf 24 = 2 := by kernel_rfl
theorem len2 : ∀ {l : List Value}, l.length = 2 → ∃ a b, l = [a, b]
  | [a, b], _ => ⟨a, b, rfl⟩
section
variable {H : Type} {enc : TypeId × Value → H} {W : World} {base : Nat}
set_option maxRecDepth 100000
theorem strs_trod {fuel : Nat} {cs : List Value} {x : DataW H × List MemPlace} (h : DataW.trod enc Tryz.prog W base (fun _ => true) true fuel 22 cs = some x) :
    ∃ (u : Value) (l : List Bs), cs = [u] ∧ Strs W u l ∧ ∀ s ∈ l, s.length ≤ maxLen := by
  rcases open_strs Tryz.underlying22 Tryz.underlying9 cellsStr h with ⟨hcs, hx⟩ | ⟨a, len, cap, m, Sx, hcs, _, hl, hm, hmm, hx, hcell⟩
  · exact ⟨_, [], hcs, Or.inl ⟨rfl, _, _, rfl⟩, fun s hs => by simp at hs⟩
  · simp only [if_true] at hmm
    have hmm' : cap = m := hmm.symm
    subst hmm'
    obtain ⟨b, off, spot⟩ := a
    by_cases hc0 : cap = 0
    · subst hc0
      have hlen0 : len = 0 := by omega
      subst hlen0
      exact ⟨_, [], hcs, Or.inl ⟨rfl, _, _, rfl⟩, fun s hs => by simp at hs⟩
    · have hspot : spot = none := by simpa [Addr.add] using World.cell?_spot (hcell 0 (by omega)).1
      subst hspot
      have hcell' : ∀ j, j < cap → W.cell? ⟨b, off + j, none⟩ = some (.string (Sx j)) := fun j hj => by rw [← add_plain]; exact (hcell j hj).1
      refine ⟨_, (List.range len).map fun i => (Sx i).data.toList, hcs, Or.inr ⟨b, off, cap, by simp, by simpa using hl, hm, lt_of_cell (hcell' 0 (by omega)), fun i s hs => ?_⟩, fun s hs => ?_⟩
      · rw [List.getElem?_map] at hs
        obtain ⟨k, hk, rfl⟩ := Option.map_eq_some_iff.1 hs
        obtain ⟨hk1, hk2⟩ := List.getElem?_eq_some_iff.1 hk
        have hki : i = k := by simpa using hk2
        subst hki
        have hk3 : i < len := by simpa using hk1
        rw [hcell' i (by omega)]
      · obtain ⟨i, hi, rfl⟩ := List.mem_map.1 hs
        have := (hcell i (by have := List.mem_range.1 hi; omega)).2
        simpa using this
theorem user_trod {fuel : Nat} {cs : List Value} {x : DataW H × List MemPlace} (h : DataW.trod enc Tryz.prog W base (fun _ => true) true fuel 24 cs = some x) :
    ∃ (n : Bs) (u : Value) (l : List Bs), cs = [.string (Ba n), u] ∧ Strs W u l ∧ n.length ≤ maxLen ∧ ∀ s ∈ l, s.length ≤ maxLen := by
  obtain ⟨y0, y1, n, rfl, hlen, h0, h1⟩ := trod_struct2 Tryz.underlying24 h
  rw [cellsUser] at hlen
  obtain ⟨c0, c1, rfl⟩ := len2 hlen
  have h0' : DataW.trod enc Tryz.prog W base (fun _ => true) true n 9 [c0] = some y0 := by
    have e : (([c0, c1] : List Value).drop 0).take (Tryz.prog.cellsOf 9) = [c0] := by rw [cellsStr]; rfl
    rw [← e]; exact h0
  have h1' : DataW.trod enc Tryz.prog W base (fun _ => true) true n 22 [c1] = some y1 := by
    have e : (([c0, c1] : List Value).drop 1).take (Tryz.prog.cellsOf 22) = [c1] := by rw [cellsStrs]; rfl
    rw [← e]; exact h1
  obtain ⟨s, e0, _, hs⟩ := DataW.trod_string Tryz.underlying9 h0'
  obtain ⟨u, l, e2, hu, hl⟩ := strs_trod h1'
  injection e0 with e0
  injection e2 with e2
  subst e0 e2
  exact ⟨s.data.toList, _, l, rfl, hu, by simpa using hs, hl⟩
theorem user_arg {v : Value} {d : DataW H} {p : List MemPlace} (hval : Value.okWide Tryz.prog W .any base 24 v) (h : DataW.Trod enc Tryz.prog W 0 (fun _ => true) true 24 v d p) :
    ∃ (n : Bs) (u : Value) (l : List Bs), v = .agg #[.string (Ba n), u] ∧ Strs W u l ∧ n.length ≤ maxLen ∧ ∀ s ∈ l, s.length ≤ maxLen := by
  obtain ⟨cs, rfl, _⟩ := okWide_struct Tryz.underlying24 hval
  obtain ⟨fuel, hf⟩ := h
  obtain ⟨n, u, l, e, hu, hn, hl⟩ := user_trod hf
  refine ⟨n, u, l, ?_, hu, hn, hl⟩
  have e' : cs.toList = [.string (Ba n), u] := e
  rw [show cs = #[.string (Ba n), u] from Array.toList_inj.1 e']
end
end Go.Proofs.YtmbpjbghhimedaaGreatDoor
/- What package token reads of the variables, out of what is laid. -/
namespace Go.Proofs.YtmbpjbghhimedaaGreatDoor
open Go.RowKit
set_option linter.unusedVariables false
set_option linter.unusedSimpArgs false
theorem kTab_len : kTab.length = 64 := by decide +kernel
theorem iface_of_one {P : Program} {W : World} {name nm : String} {d : DataW Unit} {g : Nat} {t : TypeId} {ms : Array (String × TypeId)} (hg : P.globalNamed name = some g) (hty : (P.globals[g]?).map (·.type) = some t) (ht : P.underlying t = some (.interface ms))
    (h : laidMet P [(name, .iface nm d)] W) : g < W.heap.size ∧ ∃ u v, W.cell? ⟨g, 0, none⟩ = some (.iface u v) := by
  obtain ⟨ps, ⟨g', t', cs, fuel, p, q, hg', ht', hvar, hd, _, _⟩, _⟩ := h
  obtain rfl := Option.some.inj (hg.symm.trans hg')
  obtain rfl := Option.some.inj (hty.symm.trans ht')
  obtain ⟨fuel', u, v, hcs, _, _⟩ := iface_of_trod ht hd
  unfold World.var? at hvar
  rw [hg] at hvar
  simp only [Option.bind_some] at hvar
  cases hh : W.heap[g]? with
  | none => rw [hh] at hvar; cases hvar
  | some o =>
    rw [hh] at hvar
    cases o with
    | cells c ty fr =>
      simp only [Option.some.injEq] at hvar
      subst hvar
      refine ⟨(Array.getElem?_eq_some_iff.1 hh).1, u, v, ?_⟩
      rw [cell_of_row _ _ _ _ _ _ hh]
      have : c = #[.iface u v] := by
        apply Array.toList_inj.1
        rw [hcs]
      rw [this]
      rfl
    | _ => cases hvar
theorem tkw_of_laid {l : List (String × DataW Unit)} {n1 n2 : String} {d1 d2 : DataW Unit} {W : World} (hn : (l.all fun x => x.2.handleName?.isNone) = true)
    (h1 : l.filter (fun x => x.1 == "strconv.ErrSyntax") = [("strconv.ErrSyntax", .iface n1 d1)]) (h2 : l.filter (fun x => x.1 == "strconv.ErrRange") = [("strconv.ErrRange", .iface n2 d2)])
    (h3 : l.filter (fun x => x.1 == "internal/strconv.uint64pow10") = [("internal/strconv.uint64pow10", Lib.tabData .u64 Lib.pow10Tab)])
    (h4 : l.filter (fun x => x.1 == "seneschal/seal.cubeRoots") = [("seneschal/seal.cubeRoots", Lib.tabData .u32 (kTab.map fun x : Nat => (x : Int)))])
    (h : laidMetH Tryz.prog l W) (hsh : W.ShapedOpen Tryz.prog) : TkW W := by
  rw [Go.MakeChecks.laidMetH_plain _ _ _ hn] at h
  have a := h.filter (fun x => x.1 == "strconv.ErrSyntax")
  have b := h.filter (fun x => x.1 == "strconv.ErrRange")
  have c := h.filter (fun x => x.1 == "internal/strconv.uint64pow10")
  have d := h.filter (fun x => x.1 == "seneschal/seal.cubeRoots")
  rw [h1] at a
  rw [h2] at b
  rw [h3] at c
  rw [h4] at d
  obtain ⟨a1, u, v, a2⟩ := iface_of_one (P := Tryz.prog) (g := 1) (t := 61) (by kernel_rfl) (by kernel_rfl) Tryz.underlying61 a
  obtain ⟨b1, u', v', b2⟩ := iface_of_one (P := Tryz.prog) (g := 2) (t := 61) (by kernel_rfl) (by kernel_rfl) Tryz.underlying61 b
  have tc := Lib.tabIs_of_head (P := Tryz.prog) (g := 5) (t := 147) (e := 66) (n := 20) (by kernel_rfl) (by kernel_rfl) Tryz.underlying147 Tryz.underlying66 (by kernel_rfl) (by kernel_rfl) c
  have td := Lib.tabIs_of_head (P := Tryz.prog) (g := 6) (t := 88) (e := 85) (n := 64) (by kernel_rfl) (by kernel_rfl) Tryz.underlying88 Tryz.underlying85 (by kernel_rfl) (by kernel_rfl) d
  have hc : ∀ i, i < 64 → W.cell? ⟨6, i, none⟩ = some (.int .u32 (kTab.getD i 0 : Nat)) := fun i hi => by
    have h1 := td.cell (g := 6) (by kernel_rfl) i (by rw [List.length_map, kTab_len]; exact hi)
    rw [h1]
    congr 2
    rw [List.getD_eq_getElem?_getD, List.getElem?_map, List.getD_eq_getElem?_getD]
    rw [List.getElem?_eq_getElem (by rw [kTab_len]; exact hi)]
    rfl
  obtain ⟨m, hm⟩ := Tryz.room_cell W hsh
  exact ⟨⟨block_lt_of_cell (hc 0 (by decide)), hc⟩, Lib.tabBelow_of_tabIs tc, ⟨Nat.lt_of_le_of_lt (Nat.zero_le _) a1, m, hm⟩, ⟨a1, _, a2, Or.inr ⟨_, _, rfl⟩⟩, ⟨b1, _, b2, Or.inr ⟨_, _, rfl⟩⟩⟩
end Go.Proofs.YtmbpjbghhimedaaGreatDoor
