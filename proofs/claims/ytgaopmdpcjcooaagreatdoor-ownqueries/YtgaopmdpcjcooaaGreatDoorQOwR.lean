/- Several texts in one: QRoom, QOwnR. -/
import Derived.Test.YtgaopmdpcjcooaaGreatDoorQGood
import Derived.SizedLaws
import Derived.Test.YtgaopmdpcjcooaaGreatDoorQOwnW
/- How many parts a selector that comes in may have: within the form's own reach. -/
namespace Go.Proofs.YtgaopmdpcjcooaaGreatDoor
open Go.ChangeShapes Go.WideShapes Go.ChangeAt Go.RowKit Go.Deep
set_option linter.unusedVariables false
set_option maxRecDepth 100000
theorem bytesReq : Tryz.prog.bytesOf 35 = 48 := by kernel_rfl
theorem reqs_room {H : Type} {enc : TypeId × Value → H} {W : World} {base : Nat} {v : Value} {d : DataW H} {p : List MemPlace} {ts : List TypeId} {ds : List (DataW H)} {j : Nat} {l : List Rq} (hsz : (DataW.weightsEach Tryz.prog ts ds).all (· ≤ reachBytes) = true) (ht : ts[j]? = some 22) (hd : ds[j]? = some d)
    (hval : Value.okWide Tryz.prog W .any base 22 v) (h : DataW.Trod enc Tryz.prog W 0 (fun _ => true) true 22 v d p) (hr : Reqs W v l) : l.length * 48 ≤ 140737488351232 := by
  obtain ⟨a0, len, cap, rfl⟩ := okWide_slice Tryz.underlying22 hval
  obtain ⟨p1, c1, e1, _, _⟩ := hr.open
  have e1' : len = l.length := by injection e1
  obtain ⟨fuel, hf⟩ := h
  rcases open_slice Tryz.underlying22 hf with ⟨hcs, hx⟩ | ⟨a, len', cap', m, n, D, Pl, hcs, _, hl, hm, hmm, hx, _⟩
  · simp [Value.cells] at hcs
    obtain ⟨_, rfl, _⟩ := hcs
    omega
  · simp [Value.cells] at hcs
    obtain ⟨_, rfl, _⟩ := hcs
    simp only [Prod.mk.injEq] at hx
    obtain ⟨rfl, _⟩ := hx
    have h1 := sized_slice hsz ht hd Tryz.underlying22
    rw [bytesReq] at h1
    simp only [List.length_map, List.length_range] at h1
    have h2 : reachBytes = 140737488351232 := by decide
    have h3 : len * 48 ≤ (len + (m - len)) * 48 := Nat.mul_le_mul_right _ (by omega)
    omega
end Go.Proofs.YtgaopmdpcjcooaaGreatDoor
/- What comes in, for OwnQueries: values that are nil or lie somewhere, and how many there may be within the form's own reach. -/
namespace Go.Proofs.YtgaopmdpcjcooaaGreatDoor
open Go.ChangeShapes Go.WideShapes Go.ChangeAt Go.RowKit Go.Deep
set_option linter.unusedVariables false
set_option linter.unusedSimpArgs false
set_option maxRecDepth 100000
theorem bytesLabel : Tryz.prog.bytesOf 31 = 32 := by kernel_rfl
theorem bytesStr : Tryz.prog.bytesOf 9 = 16 := by kernel_rfl
theorem labs_good {H : Type} {enc : TypeId × Value → H} {W : World} {base : Nat} {v : Value} {d : DataW H} {p : List MemPlace} (hval : Value.okWide Tryz.prog W .any base 23 v) (h : DataW.Trod enc Tryz.prog W 0 (fun _ => true) true 23 v d p) : GoodV v := by
  obtain ⟨a0, len, cap, rfl⟩ := okWide_slice Tryz.underlying23 hval
  obtain ⟨fuel, hf⟩ := h
  rcases open_slice Tryz.underlying23 hf with ⟨hcs, hx⟩ | ⟨a, len', cap', m, n, D, Pl, hcs, _⟩
  · simp [Value.cells] at hcs
    obtain ⟨rfl, rfl, rfl⟩ := hcs
    exact Or.inl rfl
  · simp [Value.cells] at hcs
    obtain ⟨rfl, rfl, rfl⟩ := hcs
    exact Or.inr ⟨_, _, _, rfl⟩
theorem labs_room {H : Type} {enc : TypeId × Value → H} {W : World} {base : Nat} {v : Value} {d : DataW H} {p : List MemPlace} {ts : List TypeId} {ds : List (DataW H)} {j : Nat} {l : List Lb} (hsz : (DataW.weightsEach Tryz.prog ts ds).all (· ≤ reachBytes) = true) (ht : ts[j]? = some 23) (hd : ds[j]? = some d)
    (hval : Value.okWide Tryz.prog W .any base 23 v) (h : DataW.Trod enc Tryz.prog W 0 (fun _ => true) true 23 v d p) (hr : Labs W v l) : l.length * 32 ≤ 140737488351232 := by
  obtain ⟨a0, len, cap, rfl⟩ := okWide_slice Tryz.underlying23 hval
  obtain ⟨p1, c1, e1, _, _⟩ := hr.open
  have e1' : len = l.length := by injection e1
  obtain ⟨fuel, hf⟩ := h
  rcases open_slice Tryz.underlying23 hf with ⟨hcs, hx⟩ | ⟨a, len', cap', m, n, D, Pl, hcs, _, hl, hm, hmm, hx, _⟩
  · simp [Value.cells] at hcs
    obtain ⟨_, rfl, _⟩ := hcs
    omega
  · simp [Value.cells] at hcs
    obtain ⟨_, rfl, _⟩ := hcs
    simp only [Prod.mk.injEq] at hx
    obtain ⟨rfl, _⟩ := hx
    have h1 := sized_slice hsz ht hd Tryz.underlying23
    rw [bytesLabel] at h1
    simp only [List.length_map, List.length_range] at h1
    have h2 : reachBytes = 140737488351232 := by decide
    have h3 : len * 32 ≤ (len + (m - len)) * 32 := Nat.mul_le_mul_right _ (by omega)
    omega
theorem weightsAll_mem {H : Type} {P : Program} {t : TypeId} {n : Nat} {d : DataW H} : ∀ {es : List (DataW H)}, d ∈ es → n ∈ d.weights P t → n ∈ DataW.weightsAll P t es
  | [], h, _ => by cases h
  | e :: es, h, hn => by
    simp only [DataW.weightsAll, List.mem_append]
    rcases List.mem_cons.1 h with rfl | h
    · exact Or.inl hn
    · exact Or.inr (weightsAll_mem h hn)
theorem req_weigh {H : Type} {enc : TypeId × Value → H} {W : World} {base fuel : Nat} {cs : List Value} {x : DataW H × List MemPlace} (h : DataW.trod enc Tryz.prog W base (fun _ => true) true fuel 35 cs = some x) :
    ∃ c0 c1 u, cs = [c0, c1, u] ∧ (u = .slice none 0 0 ∨ ∃ a len cap, u = .slice (some a) len cap ∧ ∃ n ∈ x.1.weights Tryz.prog 35, len * 16 ≤ n) := by
  obtain ⟨y0, y1, y2, n, rfl, hlen, h0, h1, h2⟩ := trod_struct3 Tryz.underlying35 h
  rw [cellsReq] at hlen
  obtain ⟨c0, c1, c2, rfl⟩ := len3 hlen
  have h2' : DataW.trod enc Tryz.prog W base (fun _ => true) true n 33 [c2] = some y2 := by
    have e : (([c0, c1, c2] : List Value).drop 2).take (Tryz.prog.cellsOf 33) = [c2] := by rw [cellsStrs]; rfl
    rw [← e]; exact h2
  refine ⟨c0, c1, c2, rfl, ?_⟩
  rcases open_strs Tryz.underlying33 Tryz.underlying9 cellsStr h2' with ⟨hcs, hx⟩ | ⟨a, len, cap, m, Sx, hcs, _, hl, hm, hmm, hx, hcell⟩
  · injection hcs with hcs
    exact Or.inl hcs
  · injection hcs with hcs
    refine Or.inr ⟨a, len, cap, hcs, (len + (m - len)) * 16, ?_, Nat.mul_le_mul_right _ (by omega)⟩
    have hw : (len + (m - len)) * 16 ∈ y2.1.weights Tryz.prog 33 := by
      rw [hx]
      simp [DataW.weights, Tryz.underlying33, bytesStr]
    have := DataW.weights_mem_each (P := Tryz.prog) (ts := [9, 3, 33]) (ds := [y0.1, y1.1, y2.1]) (j := 2) rfl rfl _ hw
    simpa [DataW.weights, Tryz.underlying35] using this
theorem reqs_inner {H : Type} {enc : TypeId × Value → H} {W : World} {base : Nat} {v : Value} {d : DataW H} {p : List MemPlace} {ts : List TypeId} {ds : List (DataW H)} {j : Nat} {l : List Rq} (hsz : (DataW.weightsEach Tryz.prog ts ds).all (· ≤ reachBytes) = true) (ht : ts[j]? = some 22) (hd : ds[j]? = some d)
    (hval : Value.okWide Tryz.prog W .any base 22 v) (h : DataW.Trod enc Tryz.prog W 0 (fun _ => true) true 22 v d p) (hr : Reqs W v l) : GoodIn W v l := by
  obtain ⟨a0, len, cap, rfl⟩ := okWide_slice Tryz.underlying22 hval
  have e1' : len = l.length := by
    obtain ⟨p1, c1, e1, _, _⟩ := hr.open
    injection e1
  obtain ⟨fuel, hf⟩ := h
  have key : ∀ k, k < l.length → ∀ g o, a0 = some ⟨g, o, none⟩ → ∃ u, W.cell? ⟨g, o + k * 3 + 2, none⟩ = some u ∧ (u = .slice none 0 0 ∨ ∃ a n c, u = .slice (some a) n c ∧ n * 16 ≤ reachBytes) := by
    intro k hk g o ha
    rcases open_slice Tryz.underlying22 hf with ⟨hcs, hx⟩ | ⟨a, len', cap', m, n, D, Pl, hcs, _, hl, hm, hmm, hx, hel⟩
    · simp [Value.cells] at hcs
      omega
    · simp [Value.cells] at hcs
      obtain ⟨ha', hl', _⟩ := hcs
      rw [ha] at ha'
      have ha2 : a = ⟨g, o, none⟩ := by first | (injection ha' with e; exact e.symm) | exact ha'.symm
      subst ha2
      simp only [Prod.mk.injEq] at hx
      obtain ⟨rfl, _⟩ := hx
      simp only [if_true] at hmm
      rw [cellsReq] at hel
      obtain ⟨cs', g1, g2⟩ := hel k (by omega)
      obtain ⟨_, hlen, hcell⟩ := World.cells?_some g1
      obtain ⟨c0, c1, u, rfl, hu⟩ := req_weigh g2
      have e2 := hcell 2 (by omega)
      rw [add_add, add_plain] at e2
      refine ⟨u, by simpa [Nat.add_assoc] using e2, ?_⟩
      rcases hu with hu | ⟨a, n2, c2, hu, wt, hw, hle⟩
      · exact Or.inl hu
      · refine Or.inr ⟨a, n2, c2, hu, Nat.le_trans hle ?_⟩
        have hin : wt ∈ (DataW.slice ((List.range len').map D) ((List.range (m - len')).map fun j => D (len' + j))).weights Tryz.prog 22 := by
          have := weightsAll_mem (P := Tryz.prog) (t := 35) (es := (List.range len').map D) (List.mem_map.2 ⟨k, List.mem_range.2 (by omega), rfl⟩) hw
          simp only [DataW.weights, Tryz.underlying22]
          exact List.mem_cons_of_mem _ (List.mem_append_left _ this)
        have := List.all_eq_true.1 hsz _ (DataW.weights_mem_each ht hd _ hin)
        simpa using this
  refine ⟨fun r hr' => ?_, fun g o cap' k u hv hk hc => ?_⟩
  · rcases hr with ⟨rfl, _⟩ | ⟨g, o, cap', hv, h1, h2, h3, h4⟩
    · cases hr'
    · obtain ⟨k, hk, rfl⟩ := List.getElem_of_mem hr'
      obtain ⟨_, _, u', hc, hs⟩ := h4 k _ (List.getElem?_eq_getElem hk)
      have ha : a0 = some ⟨g, o, none⟩ := by injection hv
      obtain ⟨u, hcu, hu⟩ := key k hk g o ha
      rw [hcu] at hc
      injection hc with hc
      subst hc
      obtain ⟨p3, c3, hf3, _⟩ := hs.form
      have hrb : reachBytes = 140737488351232 := by decide
      rcases hu with hu | ⟨a, n, c, hu, hn⟩
      · rw [hu] at hf3
        have : 0 = l[k].2.2.length := by injection hf3
        omega
      · rw [hu] at hf3
        have : n = l[k].2.2.length := by injection hf3
        omega
  · have ha : a0 = some ⟨g, o, none⟩ := by injection hv
    obtain ⟨u', hcu, hu⟩ := key k hk g o ha
    rw [hcu] at hc
    injection hc with hc
    subst hc
    rcases hu with hu | ⟨a, n, c, hu, _⟩
    · exact Or.inl hu
    · exact Or.inr ⟨a, n, c, hu⟩
end Go.Proofs.YtgaopmdpcjcooaaGreatDoor
