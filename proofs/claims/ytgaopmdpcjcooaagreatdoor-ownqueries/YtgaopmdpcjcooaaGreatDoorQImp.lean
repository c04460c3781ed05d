/- Contract over this translation: query.Implies. -/
import Derived.Test.YtgaopmdpcjcooaaGreatDoorQSolveTop
import Derived.Test.YtgaopmdpcjcooaaGreatDoorQConcat
import Derived.Test.YtgaopmdpcjcooaaGreatDoorQOpp
namespace Go.Proofs.YtgaopmdpcjcooaaGreatDoor
open Go.RowKit
set_option linter.unusedVariables false
set_option linter.unusedSimpArgs false
/-- a slice that is nil, or lies somewhere -/
def GoodV (v : Value) : Prop := v = .slice none 0 0 ∨ ∃ ad n c, v = .slice (some ad) n c
theorem vals_list {P : Nat → Rq → Value → Prop} : ∀ (l : List Rq) (o : Nat), (∀ (i : Nat) (r : Rq), l[i]? = some r → ∃ u, P (o + i * 3) r u) → ∃ us : List Value, us.length = l.length ∧ ∀ (i : Nat) (p : Rq × Value), (l.zip us)[i]? = some p → P (o + i * 3) p.1 p.2
  | [], o, _ => ⟨[], rfl, fun i p h => by simp at h⟩
  | r :: l, o, h => by
    obtain ⟨u, hu⟩ := h 0 r rfl
    obtain ⟨us, h1, h2⟩ := vals_list (P := P) l (o + 3) (fun i r' hr => by
      obtain ⟨u, hu⟩ := h (i + 1) r' (by simpa using hr)
      exact ⟨u, by rw [show o + 3 + i * 3 = o + (i + 1) * 3 by omega]; exact hu⟩)
    refine ⟨u :: us, by simp [h1], fun i p hp => ?_⟩
    match i, hp with
    | 0, hp =>
      simp only [List.zip_cons_cons, List.getElem?_cons_zero, Option.some.injEq] at hp
      subst hp
      exact hu
    | i + 1, hp =>
      have := h2 i p (by simpa using hp)
      rw [show o + 3 + i * 3 = o + (i + 1) * 3 by omega] at this
      exact this
theorem flat_cells {w : World} {g : Nat} : ∀ (L : List (Rq × Value)) (o : Nat), (∀ (i : Nat) (p : Rq × Value), L[i]? = some p → w.cell? ⟨g, o + i * 3, none⟩ = some (.string (Ba p.1.1)) ∧ w.cell? ⟨g, o + i * 3 + 1, none⟩ = some (.int .i64 p.1.2.1) ∧ w.cell? ⟨g, o + i * 3 + 2, none⟩ = some p.2) →
    ∀ (j : Nat) (u : Value), (flatR L)[j]? = some u → w.cell? ⟨g, o + j, none⟩ = some u
  | [], o, _, j, u, hj => by simp [flatR] at hj
  | q :: r, o, h, j, u, hj => by
    have e : flatR (q :: r) = [.string (Ba q.1.1), .int .i64 q.1.2.1, q.2] ++ flatR r := by simp [flatR]
    obtain ⟨h1, h2, h3⟩ := h 0 q rfl
    rw [e] at hj
    match j, hj with
    | 0, hj => simp at hj; subst hj; simpa using h1
    | 1, hj => simp at hj; subst hj; simpa using h2
    | 2, hj => simp at hj; subst hj; simpa using h3
    | j + 3, hj =>
      have hj' : (flatR r)[j]? = some u := by
        rw [List.getElem?_append_right (by simp)] at hj
        simpa using hj
      have := flat_cells r (o + 3) (fun i p hp => by
        obtain ⟨a, b, c⟩ := h (i + 1) p (by simpa using hp)
        rw [show o + (i + 1) * 3 = o + 3 + i * 3 by omega] at a b c
        exact ⟨a, b, c⟩) j u hj'
      rw [show o + (j + 3) = o + 3 + j by omega]
      exact this
theorem strs_one {w : World} {u : Value} {l : List Bs} (h : Strs w u l) : u.oneCell' = true := by
  obtain ⟨p, c, rfl, _⟩ := h.form
  rfl
theorem flatR_one : ∀ (L : List (Rq × Value)), (∀ p ∈ L, p.2.oneCell' = true) → ∀ u ∈ flatR L, u.oneCell' = true := by
  intro L h u hu
  unfold flatR at hu
  obtain ⟨p, hp, hu⟩ := List.mem_flatMap.1 hu
  simp only [List.mem_cons, List.not_mem_nil, or_false] at hu
  rcases hu with rfl | rfl | rfl
  · rfl
  · rfl
  · exact h p hp
/-- a selector that is handed in, as Concat and append take it -/
theorem reqs_part {w : World} {v : Value} {l : List Rq} (h : Reqs w v l) (hg : GoodV v) : ∃ L : List (Rq × Value), L.map (·.1) = l ∧ (∀ p ∈ L, Strs w p.2 p.1.2.2) ∧ PartO w v l.length (flatR L) := by
  rcases h with ⟨rfl, p, c, rfl⟩ | ⟨g, o, cap, rfl, h1, h2, h3, h4⟩
  · refine ⟨[], rfl, (fun p hp => by cases hp), rfl, (fun u hu => by simp [flatR] at hu), ?_⟩
    rcases hg with hg | ⟨ad, n, c', hg⟩
    · exact Or.inl ⟨hg, rfl⟩
    · injection hg with a b c
      subst a b c
      exact Or.inr ⟨ad, _, rfl, (fun h => absurd h (Nat.lt_irrefl _)), (fun j u hj => by simp [flatR] at hj)⟩
  · obtain ⟨us, hl, hus⟩ := vals_list (P := fun o r u => w.cell? ⟨g, o, none⟩ = some (.string (Ba r.1)) ∧ w.cell? ⟨g, o + 1, none⟩ = some (.int .i64 r.2.1) ∧ w.cell? ⟨g, o + 2, none⟩ = some u ∧ Strs w u r.2.2) l o (fun i r hr => by
      obtain ⟨a, b, u, c, d⟩ := h4 i r hr
      exact ⟨u, a, b, c, d⟩)
    have hS : ∀ p ∈ l.zip us, Strs w p.2 p.1.2.2 := fun p hp => by
      obtain ⟨i, hi, rfl⟩ := List.getElem_of_mem hp
      exact (hus i _ (List.getElem?_eq_getElem hi)).2.2.2
    have hzl : (l.zip us).length = l.length := by rw [List.length_zip]; omega
    refine ⟨l.zip us, List.map_fst_zip (by omega), hS, ?_, flatR_one _ (fun p hp => strs_one (hS p hp)), Or.inr ⟨⟨g, o, none⟩, cap, rfl, fun _ => h3, fun j u hj => ?_⟩⟩
    · rw [flatR_len, hzl]
    · rw [Addr.add_lit]
      exact flat_cells _ o (fun i p hp => ⟨(hus i p hp).1, (hus i p hp).2.1, (hus i p hp).2.2.1⟩) j u hj
theorem imp_step {l m : List Rq} {k : Nat} (hk : k < m.length) (h : solveP (l ++ [oppR m[k]]) = none) : impliesP l (m.drop k) = impliesP l (m.drop (k + 1)) := by
  unfold impliesP
  rw [List.drop_eq_getElem_cons hk, List.findSome?_cons, h]
theorem imp_hit {l m : List Rq} {k : Nat} {ls : List Lb} (hk : k < m.length) (h : solveP (l ++ [oppR m[k]]) = some ls) : impliesP l (m.drop k) = (false, ls) := by
  unfold impliesP
  rw [List.drop_eq_getElem_cons hk, List.findSome?_cons, h]
theorem imp_end {l m : List Rq} {k : Nat} (hk : m.length ≤ k) : impliesP l (m.drop k) = (true, []) := by
  rw [List.drop_eq_nil_of_le hk]
  rfl
theorem two_new {w : World} {b : Nat} {x y : Value} {t : TypeId} (hb : b = w.heap.size) (p q : Nat × List Value) : ∀ (j : Nat) (z : Value × Nat × List Value), [(x, p.1, p.2), (y, q.1, q.2)][j]? = some z → (w.alloc (.cells #[x, y] t)).cell? ⟨b, j, none⟩ = some z.1 := by
  subst hb
  intro j z hj
  match j, hj with
  | 0, hj => simp at hj; subst hj; simp
  | 1, hj => simp at hj; subst hj; simp
/-- the slice that Implies has solved: all parts of l, and one more -/
theorem concat_two {w0 w2 : World} {v : Value} {l : List Rq} {r : Rq} {q : Option Addr} {n d : Nat} (h : Reqs w0 v l) (hg : GoodV v) (hl : l.length ≤ 8) (hb : Below w0.heap.size w0 w2) (hs : Strs w0 (.slice q n d) r.2.2) :
    Calls Tryz.prog 24 #[.slice (some ⟨w2.heap.size + 1, 0, none⟩) 2 2] ((w2.alloc (.cells #[.string (Ba r.1), .int .i64 r.2.1, .slice q n d] 35)).alloc (.cells #[v, .slice (some ⟨w2.heap.size, 0, none⟩) 1 1] 22)) fun e w' => ∃ u, e = .returned u ∧ Reqs w' u (l ++ [r]) ∧ Below w0.heap.size w0 w' := by
  obtain ⟨L, hL, hS, hP⟩ := reqs_part h hg
  have hLl : L.length = l.length := by rw [← hL, List.length_map]
  have hb3 : Below w0.heap.size w0 (w2.alloc (.cells #[.string (Ba r.1), .int .i64 r.2.1, .slice q n d] 35)) := hb.alloc hb.size _
  have hb4 : Below w0.heap.size w0 ((w2.alloc (.cells #[.string (Ba r.1), .int .i64 r.2.1, .slice q n d] 35)).alloc (.cells #[v, .slice (some ⟨w2.heap.size, 0, none⟩) 1 1] 22)) := hb3.alloc hb3.size _
  have hsz : (w2.alloc (.cells #[.string (Ba r.1), .int .i64 r.2.1, .slice q n d] 35)).heap.size = w2.heap.size + 1 := by simp
  have hbb : Below (w2.alloc (.cells #[.string (Ba r.1), .int .i64 r.2.1, .slice q n d] 35)).heap.size (w2.alloc (.cells #[.string (Ba r.1), .int .i64 r.2.1, .slice q n d] 35)) ((w2.alloc (.cells #[.string (Ba r.1), .int .i64 r.2.1, .slice q n d] 35)).alloc (.cells #[v, .slice (some ⟨w2.heap.size, 0, none⟩) 1 1] 22)) := (Below.refl _ _).alloc (Nat.le_refl _) _
  have hc := concatO_any [(v, l.length, flatR L), (.slice (some ⟨w2.heap.size, 0, none⟩) 1 1, 1, [.string (Ba r.1), .int .i64 r.2.1, .slice q n d])] (w2.heap.size + 1) 2 ((w2.alloc (.cells #[.string (Ba r.1), .int .i64 r.2.1, .slice q n d] 35)).alloc (.cells #[v, .slice (some ⟨w2.heap.size, 0, none⟩) 1 1] 22))
    (by simp) (by simp) (by decide) (by simp) (two_new hsz.symm (l.length, flatR L) (1, [.string (Ba r.1), .int .i64 r.2.1, .slice q n d]))
    (fun p hp => by
      simp only [List.mem_cons, List.not_mem_nil, or_false] at hp
      rcases hp with rfl | rfl
      · exact hP.below hb4
      · refine ⟨rfl, one3, Or.inr ⟨⟨w2.heap.size, 0, none⟩, 1, rfl, fun _ => by simp; omega, fun j u hj => ?_⟩⟩
        have := new3 (w := w2) (t := 35) rfl j u hj
        rw [hbb.cell (p := (⟨w2.heap.size, 0, none⟩ : Addr).add j) (by rw [add_block]; simp)]
        exact this)
    (by simp [manyO]; omega)
  refine hc.mono ?_
  rintro e w' ⟨u, rfl, hown, hb5⟩
  have hb5' : Below w0.heap.size w0 w' := hb4.trans (hb5.mono hb4.size)
  refine ⟨u, rfl, ?_, hb5'⟩
  have e1 : manyO [(v, l.length, flatR L), (.slice (some ⟨w2.heap.size, 0, none⟩) 1 1, 1, [.string (Ba r.1), .int .i64 r.2.1, .slice q n d])] = (L ++ [(r, Value.slice q n d)]).length := by simp [manyO, hLl]
  have e2 : allO [(v, l.length, flatR L), (.slice (some ⟨w2.heap.size, 0, none⟩) 1 1, 1, [.string (Ba r.1), .int .i64 r.2.1, .slice q n d])] = flatR (L ++ [(r, Value.slice q n d)]) := by rw [flatR_snoc]; simp [allO]
  rw [e1, e2] at hown
  have hR := reqs_of_owns hown (fun p hp => by
    rcases List.mem_append.1 hp with hp | hp
    · exact (hS p hp).below hb5'
    · simp only [List.mem_singleton] at hp
      subst hp
      exact hs.below hb5')
  rw [List.map_append, hL] at hR
  exact hR
/-- what Implies answers -/
def ImpR (l m : List Rq) (w : World) (yes : Bool) (u : Value) (er : Int) : Prop :=
  (chkI l ≠ 0 ∧ yes = false ∧ u = .slice none 0 0 ∧ er = chkI l) ∨ (chkI l = 0 ∧ chkI m ≠ 0 ∧ yes = false ∧ u = .slice none 0 0 ∧ er = chkI m) ∨ (chkI l = 0 ∧ chkI m = 0 ∧ er = 0 ∧ yes = (impliesP l m).1 ∧ Labs w u (impliesP l m).2)
set_option maxRecDepth 100000 in
set_option maxHeartbeats 4000000 in
theorem imp_loop (v u : Value) (l m : List Rq) (w : World) (hv : Reqs w v l) (hg : GoodV v) (hu : Reqs w u m) (hfl : ∀ r ∈ l, Fit r) (hfm : ∀ r ∈ m, Fit r) (hR : Room w) (h1 : chkI l = 0) (h2 : chkI m = 0) :
    Calls Tryz.prog 7 #[v, u] w fun e w' => ∃ uu, e = .returned (.tuple #[.bool (impliesP l m).1, uu, .int .i64 0]) ∧ Labs w' uu (impliesP l m).2 ∧ Below w.heap.size w w' := by
  have hl8 := (chk_ok.1 h1).1
  have HCl : Hid (Calls Tryz.prog 20 #[v] w fun e w' => e = .returned (.int .i64 0) ∧ Below w.heap.size w w') := by
    have := chk_any v l w hv hfl hR
    rw [h1] at this
    exact this
  have HCm : Hid (∀ w1, Below w.heap.size w w1 → Calls Tryz.prog 20 #[u] w1 fun e w' => e = .returned (.int .i64 0) ∧ Below w1.heap.size w1 w') := fun w1 hb => by
    have := chk_any u m w1 (hu.below hb) hfm (hR.below hb)
    rw [h2] at this
    exact this
  obtain ⟨p, c, rfl, hn, hcell⟩ := hu.open
  have HC : Hid (∀ k (hk : k < m.length), ∃ g o q d, p = some ⟨g, o, none⟩ ∧ m.length ≤ c ∧ ∀ w1, Below w.heap.size w w1 → w1.cell? ⟨g, o + k * 3, none⟩ = some (.string (Ba m[k].1)) ∧ w1.cell? ⟨g, o + k * 3 + 1, none⟩ = some (.int .i64 m[k].2.1) ∧ w1.cell? ⟨g, o + k * 3 + 2, none⟩ = some (.slice q m[k].2.2.length d) ∧ Strs w1 (.slice q m[k].2.2.length d) m[k].2.2) := hcell
  have HCon : Hid (∀ w0 w2 (r : Rq) (q : Option Addr) (n d : Nat), Below w.heap.size w w0 → Below w0.heap.size w0 w2 → Strs w0 (.slice q n d) r.2.2 → Calls Tryz.prog 24 #[.slice (some ⟨w2.heap.size + 1, 0, none⟩) 2 2] ((w2.alloc (.cells #[.string (Ba r.1), .int .i64 r.2.1, .slice q n d] 35)).alloc (.cells #[v, .slice (some ⟨w2.heap.size, 0, none⟩) 1 1] 22)) fun e w' => ∃ u, e = .returned u ∧ Reqs w' u (l ++ [r]) ∧ Below w0.heap.size w0 w') :=
    fun w0 w2 r q n d hb hb2 hs => concat_two (hv.below hb) hg hl8 hb2 hs
  have HSv : Hid (∀ w1 u r, r ∈ m → Reqs w1 u (l ++ [oppR r]) → Calls Tryz.prog 21 #[u] w1 fun e w' => ∃ uu b, e = .returned (.tuple #[uu, .bool b]) ∧ SolveR (l ++ [oppR r]) w' uu b ∧ Below w1.heap.size w1 w') := fun w1 u r hr h => solve_any u _ w1 h (fine_opp h1 h2 hr)
  have HX : Hid (impliesP l m = impliesP l (m.drop 0)) := rfl
  obtain ⟨p0, c0, rfl, hn0, hcell0⟩ := hv.open
  clear hcell hcell0 hv hu hn0 hfl hfm hR h1 h2 hl8 hg
  generalize l.length = nl at *
  generalize impliesP l m = res at *
  unfold maxLen at hn
  go_enter Tryz.func7, Tryz.ntmps7
  go_wp2_with fail
  refine Calls.mono HCl.out ?_
  rintro e w1 ⟨rfl, b1⟩
  have HB1 : Hid (Below w.heap.size w w1) := b1
  clear b1
  go_wp2_with fail
  refine Calls.mono (HCm.out w1 HB1.out) ?_
  rintro e w2 ⟨rfl, b2⟩
  have HB2 : Hid (Below w.heap.size w w2) := HB1.out.trans (b2.mono HB1.out.size)
  clear b2
  go_wp2_with fail
  go_loopw [25] (fun i wr => ∃ k : Nat, k ≤ m.length ∧ i = .int .i64 k ∧ impliesP l (m.drop 0) = impliesP l (m.drop k) ∧ Below w.heap.size w wr) (fun i _ => m.length - (intOf i).toNat)
  case atStart => exact ⟨0, Nat.zero_le _, rfl, rfl, HB2.out⟩
  case round =>
    obtain ⟨k, hk, rfl, hall, hbel⟩ := hrel
    have HA : Hid (impliesP l (m.drop 0) = impliesP l (m.drop k)) := hall
    have HB : Hid (Below w.heap.size w wr) := hbel
    clear hall hbel
    by_cases hlt : k < m.length
    · obtain ⟨g, o, q, d, rfl, hlc, hc0⟩ := HC.out k hlt
      obtain ⟨c1, c2, c3, c4⟩ := hc0 wr HB.out
      have hst := imp_step (l := l) hlt
      have hht := fun ls => imp_hit (l := l) (ls := ls) hlt
      have hmem : m[k] ∈ m := List.getElem_mem hlt
      have HSt : Hid (solveP (l ++ [oppR m[k]]) = none → impliesP l (m.drop k) = impliesP l (m.drop (k + 1))) := hst
      have HHt : Hid (∀ ls, solveP (l ++ [oppR m[k]]) = some ls → impliesP l (m.drop k) = (false, ls)) := hht
      have HSk : Hid (∀ w1 u, Reqs w1 u (l ++ [oppR m[k]]) → Calls Tryz.prog 21 #[u] w1 fun e w' => ∃ uu b, e = .returned (.tuple #[uu, .bool b]) ∧ SolveR (l ++ [oppR m[k]]) w' uu b ∧ Below w1.heap.size w1 w') := fun w1 u h => HSv.out w1 u _ hmem h
      have hb2 : Below wr.heap.size wr (wr.alloc (.cells #[.string (Ba m[k].1), .int .i64 m[k].2.1, .slice q m[k].2.2.length d] 35)) := (Below.refl _ _).alloc (Nat.le_refl _) _
      have HBa : Hid (Below wr.heap.size wr (wr.alloc (.cells #[.string (Ba m[k].1), .int .i64 m[k].2.1, .slice q m[k].2.2.length d] 35))) := hb2
      have HOp : Hid (Calls Tryz.prog 25 #[.agg #[.string (Ba m[k].1), .int .i64 m[k].2.1, .slice q m[k].2.2.length d]] (wr.alloc (.cells #[.string (Ba m[k].1), .int .i64 m[k].2.1, .slice q m[k].2.2.length d] 35)) fun e w' => e = .returned (.agg #[.string (Ba m[k].1), .int .i64 (oppR m[k]).2.1, .slice q m[k].2.2.length d]) ∧ Below (wr.alloc (.cells #[.string (Ba m[k].1), .int .i64 m[k].2.1, .slice q m[k].2.2.length d] 35)).heap.size (wr.alloc (.cells #[.string (Ba m[k].1), .int .i64 m[k].2.1, .slice q m[k].2.2.length d] 35)) w') := opp_any m[k] q _ d _
      have HCk : Hid (∀ w2, Below wr.heap.size wr w2 → Calls Tryz.prog 24 #[.slice (some ⟨w2.heap.size + 1, 0, none⟩) 2 2] ((w2.alloc (.cells #[.string (Ba m[k].1), .int .i64 (oppR m[k]).2.1, .slice q m[k].2.2.length d] 35)).alloc (.cells #[.slice p0 nl c0, .slice (some ⟨w2.heap.size, 0, none⟩) 1 1] 22)) fun e w' => ∃ u, e = .returned u ∧ Reqs w' u (l ++ [oppR m[k]]) ∧ Below wr.heap.size wr w') := fun w2 hb => HCon.out wr w2 (oppR m[k]) q _ d HB.out hb c4
      clear hc0 c4 hb2 hst hht hmem
      generalize (oppR m[k]).2.1 = okd at *
      generalize oppR m[k] = ro at *
      generalize m[k] = y at *
      obtain ⟨yk, yd, yv⟩ := y
      dsimp only at *
      generalize yv.length = nv at *
      generalize Ba yk = z at *
      go_wp2_with fail
      refine Calls.mono HOp.out ?_
      rintro e w3 ⟨rfl, b3⟩
      have HB3 : Hid (Below wr.heap.size wr w3) := HBa.out.trans (b3.mono HBa.out.size)
      have HCk3 : Hid (Calls Tryz.prog 24 #[.slice (some ⟨w3.heap.size + 1, 0, none⟩) 2 2] ((w3.alloc (.cells #[.string z, .int .i64 okd, .slice q nv d] 35)).alloc (.cells #[.slice p0 nl c0, .slice (some ⟨w3.heap.size, 0, none⟩) 1 1] 22)) fun e w' => ∃ u, e = .returned u ∧ Reqs w' u (l ++ [ro]) ∧ Below wr.heap.size wr w') := HCk.out w3 HB3.out
      clear b3
      go_wp2_with fail
      refine Calls.mono HCk3.out ?_
      rintro e w4 ⟨uc, rfl, hrc, b4⟩
      have HB4 : Hid (Below wr.heap.size wr w4) := b4
      have HSk4 : Hid (Calls Tryz.prog 21 #[uc] w4 fun e w' => ∃ uu b, e = .returned (.tuple #[uu, .bool b]) ∧ SolveR (l ++ [ro]) w' uu b ∧ Below w4.heap.size w4 w') := HSk.out w4 uc hrc
      clear b4 hrc
      go_wp2_with fail
      refine Calls.mono HSk4.out ?_
      rintro e w5 ⟨uu, b, rfl, hsr, b5⟩
      have HB5 : Hid (Below w.heap.size w w5) := HB.out.trans ((HB4.out.trans (b5.mono HB4.out.size)).mono HB.out.size)
      clear b5
      rcases hsr with ⟨hs, rfl, rfl⟩ | ⟨ls, hs, rfl, hla⟩
      · have HE : Hid (impliesP l (m.drop k) = impliesP l (m.drop (k + 1))) := HSt.out hs
        clear hs
        go_wp2_with fail
        go_roundw
        case rel => exact ⟨k + 1, by omega, by go_num, HA.out.trans HE.out, HB5.out⟩
        case measure => simp [intOf]; omega
      · have HE : Hid (res = (false, ls)) := by show _ = _; rw [HX.out, HA.out, HHt.out ls hs]
        have HLa : Hid (Labs w5 uu ls) := hla
        clear hs hla
        go_wp2_with fail
        refine bodyPost_ret (v := .tuple #[.bool false, uu, .int .i64 0]) (by simp [results, Tryz.results7, go_sem]) rfl ⟨uu, by rw [HE.out], by rw [HE.out]; exact HLa.out, HB5.out⟩
    · have HE : Hid (res = (true, [])) := by show _ = _; rw [HX.out, HA.out, imp_end (by omega)]
      go_wp2_with fail
      refine bodyPost_ret (v := .tuple #[.bool true, .slice none 0 0, .int .i64 0]) (by simp [results, Tryz.results7, go_sem]) rfl ⟨_, by rw [HE.out], by rw [HE.out]; exact Or.inl ⟨rfl, _, _, rfl⟩, HB.out⟩
set_option maxHeartbeats 2000000 in
theorem imp_bad1 (v u : Value) (l m : List Rq) (w : World) (hv : Reqs w v l) (hu : Reqs w u m) (hfl : ∀ r ∈ l, Fit r) (hR : Room w) (h1 : chkI l ≠ 0) :
    Calls Tryz.prog 7 #[v, u] w fun e w' => e = .returned (.tuple #[.bool false, .slice none 0 0, .int .i64 (chkI l)]) ∧ Below w.heap.size w w' := by
  have HC : Hid (Calls Tryz.prog 20 #[v] w fun e w' => e = .returned (.int .i64 (chkI l)) ∧ Below w.heap.size w w') := chk_any v l w hv hfl hR
  obtain ⟨p, c, rfl, hn, hcell⟩ := hv.open
  obtain ⟨p2, c2, rfl, hn2, hcell2⟩ := hu.open
  have hb : (chkI l != 0) = true := by simpa using h1
  clear hv hu hcell hcell2 hfl hR h1 hn hn2
  generalize chkI l = ce at *
  generalize l.length = nl at *
  generalize m.length = nm at *
  go_enter Tryz.func7, Tryz.ntmps7
  go_wp2_with fail
  refine Calls.mono HC.out ?_
  rintro e w1 ⟨rfl, b⟩
  have HB : Hid (Below w.heap.size w w1) := b
  clear b
  go_wp2_with fail
  exact bodyPost_ret (v := .tuple #[.bool false, .slice none 0 0, .int .i64 ce]) (by simp [results, Tryz.results7, go_sem]) rfl ⟨rfl, HB.out⟩
set_option maxHeartbeats 2000000 in
theorem imp_bad2 (v u : Value) (l m : List Rq) (w : World) (hv : Reqs w v l) (hu : Reqs w u m) (hfl : ∀ r ∈ l, Fit r) (hfm : ∀ r ∈ m, Fit r) (hR : Room w) (h1 : chkI l = 0) (h2 : chkI m ≠ 0) :
    Calls Tryz.prog 7 #[v, u] w fun e w' => e = .returned (.tuple #[.bool false, .slice none 0 0, .int .i64 (chkI m)]) ∧ Below w.heap.size w w' := by
  have HC : Hid (Calls Tryz.prog 20 #[v] w fun e w' => e = .returned (.int .i64 0) ∧ Below w.heap.size w w') := by
    have := chk_any v l w hv hfl hR
    rw [h1] at this
    exact this
  have HCm : Hid (∀ w1, Below w.heap.size w w1 → Calls Tryz.prog 20 #[u] w1 fun e w' => e = .returned (.int .i64 (chkI m)) ∧ Below w1.heap.size w1 w') := fun w1 hb => chk_any u m w1 (hu.below hb) hfm (hR.below hb)
  obtain ⟨p, c, rfl, hn, hcell⟩ := hv.open
  obtain ⟨p2, c2, rfl, hn2, hcell2⟩ := hu.open
  have hb : (chkI m != 0) = true := by simpa using h2
  clear hv hu hcell hcell2 hfl hfm hR h1 h2 hn hn2
  generalize chkI m = ce at *
  generalize l.length = nl at *
  generalize m.length = nm at *
  go_enter Tryz.func7, Tryz.ntmps7
  go_wp2_with fail
  refine Calls.mono HC.out ?_
  rintro e w1 ⟨rfl, b⟩
  have HB : Hid (Below w.heap.size w w1) := b
  clear b
  go_wp2_with fail
  refine Calls.mono (HCm.out w1 HB.out) ?_
  rintro e w2 ⟨rfl, b⟩
  have HB2 : Hid (Below w.heap.size w w2) := HB.out.trans (b.mono HB.out.size)
  clear b
  go_wp2_with fail
  exact bodyPost_ret (v := .tuple #[.bool false, .slice none 0 0, .int .i64 ce]) (by simp [results, Tryz.results7, go_sem]) rfl ⟨rfl, HB2.out⟩
theorem implies_any (v u : Value) (l m : List Rq) (w : World) (hv : Reqs w v l) (hg : GoodV v) (hu : Reqs w u m) (hfl : ∀ r ∈ l, Fit r) (hfm : ∀ r ∈ m, Fit r) (hR : Room w) :
    Calls Tryz.prog 7 #[v, u] w fun e w' => ∃ yes uu er, e = .returned (.tuple #[.bool yes, uu, .int .i64 er]) ∧ ImpR l m w' yes uu er ∧ Below w.heap.size w w' := by
  by_cases h1 : chkI l = 0
  · by_cases h2 : chkI m = 0
    · refine (imp_loop v u l m w hv hg hu hfl hfm hR h1 h2).mono ?_
      rintro e w' ⟨uu, rfl, hl, b⟩
      exact ⟨_, _, _, rfl, Or.inr (Or.inr ⟨h1, h2, rfl, rfl, hl⟩), b⟩
    · refine (imp_bad2 v u l m w hv hu hfl hfm hR h1 h2).mono ?_
      rintro e w' ⟨rfl, b⟩
      exact ⟨_, _, _, rfl, Or.inr (Or.inl ⟨h1, h2, rfl, rfl, rfl⟩), b⟩
  · refine (imp_bad1 v u l m w hv hu hfl hR h1).mono ?_
    rintro e w' ⟨rfl, b⟩
    exact ⟨_, _, _, rfl, Or.inl ⟨h1, rfl, rfl, rfl⟩, b⟩
end Go.Proofs.YtgaopmdpcjcooaaGreatDoor
