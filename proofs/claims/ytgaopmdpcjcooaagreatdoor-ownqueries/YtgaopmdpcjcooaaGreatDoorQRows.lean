/- Lists of one's own: parts of selectors, texts, labels; contracts of query.partsFor. -/
import Derived.Test.YtgaopmdpcjcooaaGreatDoorQHolds
import Derived.Test.YtgaopmdpcjcooaaGreatDoorQSolve
import Derived.Laws.AppendOwn
namespace Go.Proofs.YtgaopmdpcjcooaaGreatDoor
open Go.RowKit
set_option linter.unusedVariables false
set_option linter.unusedSimpArgs false
theorem info_req : (Tryz.prog.info? 35).map (fun i => (i.zero, i.size, i.bytes)) = some (some (.agg #[.string ⟨#[]⟩, .int .i64 0, .slice none 0 0]), 3, 48) := by kernel_rfl
theorem info_str : (Tryz.prog.info? 9).map (fun i => (i.zero, i.size, i.bytes)) = some (some (.string ⟨#[]⟩), 1, 16) := by kernel_rfl
theorem info_label : (Tryz.prog.info? 31).map (fun i => (i.zero, i.size, i.bytes)) = some (some (.agg #[.string ⟨#[]⟩, .string ⟨#[]⟩]), 2, 32) := by kernel_rfl
/-- the cells of parts -/
def flatR (L : List (Rq × Value)) : List Value := L.flatMap fun p => [.string (Ba p.1.1), .int .i64 p.1.2.1, p.2]
theorem flatR_snoc (L : List (Rq × Value)) (p : Rq × Value) : flatR (L ++ [p]) = flatR L ++ [.string (Ba p.1.1), .int .i64 p.1.2.1, p.2] := by simp [flatR]
theorem flatR_len (L : List (Rq × Value)) : (flatR L).length = L.length * 3 := by
  induction L with
  | nil => rfl
  | cons p r ih =>
    have : flatR (p :: r) = [.string (Ba p.1.1), .int .i64 p.1.2.1, p.2] ++ flatR r := by simp [flatR]
    rw [this, List.length_append, ih]
    simp
    omega
theorem flatR_at : ∀ (L : List (Rq × Value)) (i : Nat) (p : Rq × Value), L[i]? = some p → (flatR L)[i * 3]? = some (.string (Ba p.1.1)) ∧ (flatR L)[i * 3 + 1]? = some (.int .i64 p.1.2.1) ∧ (flatR L)[i * 3 + 2]? = some p.2
  | [], i, p, h => by simp at h
  | q :: r, 0, p, h => by
    simp only [List.getElem?_cons_zero, Option.some.injEq] at h
    subst h
    exact ⟨rfl, rfl, rfl⟩
  | q :: r, i + 1, p, h => by
    have e : flatR (q :: r) = [.string (Ba q.1.1), .int .i64 q.1.2.1, q.2] ++ flatR r := by simp [flatR]
    obtain ⟨h1, h2, h3⟩ := flatR_at r i p (by simpa using h)
    rw [e]
    have l3 : ([.string (Ba q.1.1), .int .i64 q.1.2.1, q.2] : List Value).length = 3 := rfl
    refine ⟨?_, ?_, ?_⟩
    · rw [List.getElem?_append_right (by rw [l3]; omega), l3, show (i + 1) * 3 - 3 = i * 3 by omega]; exact h1
    · rw [List.getElem?_append_right (by rw [l3]; omega), l3, show (i + 1) * 3 + 1 - 3 = i * 3 + 1 by omega]; exact h2
    · rw [List.getElem?_append_right (by rw [l3]; omega), l3, show (i + 1) * 3 + 2 - 3 = i * 3 + 2 by omega]; exact h3
/-- a row of one's own: its cells -/
theorem owns_at {w : World} {B : Nat} {e : TypeId} {size : Nat} {v : Value} {n : Nat} {xs : List Value} (h : w.ownsRow B e size v n xs) : (v = .slice none 0 0 ∧ n = 0) ∨ ∃ g cap, v = .slice (some ⟨g, 0, none⟩) n cap ∧ B ≤ g ∧ g < w.heap.size ∧ n ≤ cap ∧ cap ≤ maxLen ∧ ∀ (j : Nat) (u : Value), xs[j]? = some u → w.cell? ⟨g, j, none⟩ = some u := by
  obtain ⟨hl, h | ⟨g, cap, cur, rfl, hB, hg, hc, hm, hs, ht⟩⟩ := h
  · exact Or.inl h
  · refine Or.inr ⟨g, cap, rfl, hB, lt_of_block hg, hc, hm, fun j u hj => ?_⟩
    rw [cell_of_row _ _ _ _ _ _ hg]
    rw [← ht] at hj
    have hj' : j < n * size := by
      have := (List.getElem?_eq_some_iff.1 hj).1
      rw [List.length_take] at this
      omega
    rw [List.getElem?_take, if_pos hj', Array.getElem?_toList] at hj
    exact hj
theorem reqs_of_owns {w : World} {B : Nat} {v : Value} {L : List (Rq × Value)} (h : w.ownsRow B 35 3 v L.length (flatR L)) (hS : ∀ p ∈ L, Strs w p.2 p.1.2.2) : Reqs w v (L.map (·.1)) := by
  rcases owns_at h with ⟨rfl, h0⟩ | ⟨g, cap, rfl, hB, hg, hc, hm, hcell⟩
  · have : L = [] := List.eq_nil_of_length_eq_zero h0
    subst this
    exact Or.inl ⟨rfl, _, _, rfl⟩
  · refine Or.inr ⟨g, 0, cap, by rw [List.length_map], by rw [List.length_map]; exact hc, hm, hg, fun i r hr => ?_⟩
    rw [List.getElem?_map] at hr
    obtain ⟨p, hp, rfl⟩ := Option.map_eq_some_iff.1 hr
    obtain ⟨h1, h2, h3⟩ := flatR_at L i p hp
    rw [Nat.zero_add]
    exact ⟨hcell _ _ h1, hcell _ _ h2, p.2, hcell _ _ h3, hS p (List.mem_of_getElem? hp)⟩
theorem new3 {w : World} {b : Nat} {x y z : Value} {t : TypeId} (hb : b = w.heap.size) : ∀ (j : Nat) (u : Value), [x, y, z][j]? = some u → (w.alloc (.cells #[x, y, z] t)).cell? ((⟨b, 0, none⟩ : Addr).add j) = some u := by
  subst hb
  intro j u hj
  match j, hj with
  | 0, hj => simp at hj; subst hj; simp [Addr.add]
  | 1, hj => simp at hj; subst hj; simp [Addr.add]
  | 2, hj => simp at hj; subst hj; simp [Addr.add]
theorem new1 {w : World} {b : Nat} {x : Value} {t : TypeId} (hb : b = w.heap.size) : ∀ (j : Nat) (u : Value), [x][j]? = some u → (w.alloc (.cells #[x] t)).cell? ((⟨b, 0, none⟩ : Addr).add j) = some u := by
  subst hb
  intro j u hj
  match j, hj with
  | 0, hj => simp at hj; subst hj; simp [Addr.add]
theorem new2 {w : World} {b : Nat} {x y : Value} {t : TypeId} (hb : b = w.heap.size) : ∀ (j : Nat) (u : Value), [x, y][j]? = some u → (w.alloc (.cells #[x, y] t)).cell? ((⟨b, 0, none⟩ : Addr).add j) = some u := by
  subst hb
  intro j u hj
  match j, hj with
  | 0, hj => simp at hj; subst hj; simp [Addr.add]
  | 1, hj => simp at hj; subst hj; simp [Addr.add]
theorem one3 {a : ByteArray} {k : Int} {p : Option Addr} {n c : Nat} : ∀ u ∈ [Value.string a, .int .i64 k, .slice p n c], u.oneCell' = true := by
  intro u hu
  simp only [List.mem_cons, List.not_mem_nil, or_false] at hu
  rcases hu with rfl | rfl | rfl <;> rfl
theorem about_step {l : List Rq} {key : Bs} {k : Nat} (hk : k < l.length) : aboutP (l.take (k + 1)) key = if l[k].1 = key then aboutP (l.take k) key ++ [l[k]] else aboutP (l.take k) key := by
  unfold aboutP
  rw [List.take_succ_eq_append_getElem hk, List.filter_append]
  by_cases h : l[k].1 = key
  · rw [if_pos h]; simp [h]
  · rw [if_neg h]; simp [h]
set_option maxRecDepth 100000 in
set_option maxHeartbeats 4000000 in
theorem partsFor_any (v : Value) (l : List Rq) (key : Bs) (w : World) (hv : Reqs w v l) (hL : l.length ≤ 1000) :
    Calls Tryz.prog 34 #[v, .string (Ba key)] w fun e w' => ∃ u, e = .returned u ∧ Reqs w' u (aboutP l key) ∧ Below w.heap.size w w' := by
  obtain ⟨i0, hi, hz0, hz1, hz2⟩ := info_parts info_req
  obtain ⟨p, c, rfl, hn, hcell⟩ := hv.open
  have HC : Hid (∀ k (hk : k < l.length), ∃ g o q d, p = some ⟨g, o, none⟩ ∧ l.length ≤ c ∧ Strs w (.slice q l[k].2.2.length d) l[k].2.2 ∧ ∀ w1, Below w.heap.size w w1 → w1.cell? ⟨g, o + k * 3, none⟩ = some (.string (Ba l[k].1)) ∧ w1.cell? ⟨g, o + k * 3 + 1, none⟩ = some (.int .i64 l[k].2.1) ∧ w1.cell? ⟨g, o + k * 3 + 2, none⟩ = some (.slice q l[k].2.2.length d)) := fun k hk => by
    obtain ⟨g, o, q, d, h1, h2, h3⟩ := hcell k hk
    exact ⟨g, o, q, d, h1, h2, (h3 w (Below.refl _ _)).2.2.2, fun w1 hb => ⟨(h3 w1 hb).1, (h3 w1 hb).2.1, (h3 w1 hb).2.2.1⟩⟩
  have HEnd : Hid (∀ k, l.length ≤ k → aboutP (l.take k) key = aboutP l key) := fun k hk => by rw [List.take_of_length_le hk]
  clear hcell hv
  unfold maxLen at hn
  go_enter Tryz.func34, Tryz.ntmps34
  go_wp2_with fail
  go_loopw [5, 10] (fun x i wr => ∃ (k : Nat) (L : List (Rq × Value)), k ≤ l.length ∧ i = .int .i64 k ∧ L.map (·.1) = aboutP (l.take k) key ∧ L.length ≤ k ∧ (∀ p ∈ L, Strs w p.2 p.1.2.2) ∧ wr.ownsRow w.heap.size 35 3 x L.length (flatR L) ∧ Below w.heap.size w wr) (fun _ i _ => l.length - (intOf i).toNat)
  case atStart => exact ⟨0, [], Nat.zero_le _, rfl, rfl, Nat.le_refl _, (fun p hp => by cases hp), World.ownsRow_nil _ _ _ _, Below.refl _ _⟩
  case round =>
    obtain ⟨k, L, hk, rfl, hm, hLk, hS, hown, hbel⟩ := hrel
    have HM : Hid (L.map (·.1) = aboutP (l.take k) key) := hm
    have HS : Hid (∀ p ∈ L, Strs w p.2 p.1.2.2) := hS
    have HO : Hid (wr.ownsRow w.heap.size 35 3 u5 L.length (flatR L)) := hown
    have HB : Hid (Below w.heap.size w wr) := hbel
    have hBr := hbel.size
    clear hm hS hown hbel
    by_cases hlt : k < l.length
    · obtain ⟨g, o, q, d, rfl, hlc, hst, hc0⟩ := HC.out k hlt
      obtain ⟨c1, c2, c3⟩ := hc0 wr HB.out
      have HSt : Hid (Strs w (.slice q l[k].2.2.length d) l[k].2.2) := hst
      have hst2 := about_step (key := key) hlt
      have hb := ba_beq l[k].1 key
      have HB2 : Hid (Below w.heap.size w (wr.alloc (.cells #[.string (Ba l[k].1), .int .i64 l[k].2.1, .slice q l[k].2.2.length d] 35))) := HB.out.alloc HB.out.size _
      have HO2 : Hid ((wr.alloc (.cells #[.string (Ba l[k].1), .int .i64 l[k].2.1, .slice q l[k].2.2.length d] 35)).ownsRow w.heap.size 35 3 u5 L.length (flatR L)) := HO.out.alloc _
      clear hc0 hst
      by_cases hx : l[k].1 = key
      · rw [if_pos hx] at hst2
        rw [decide_eq_true hx] at hb
        have HM2 : Hid ((L ++ [(l[k], Value.slice q l[k].2.2.length d)]).map (fun p => p.1) = aboutP (l.take (k + 1)) key) := by
          show _ = _
          rw [hst2, List.map_append, HM.out]
          rfl
        have HS2 : Hid (∀ p ∈ L ++ [(l[k], .slice q l[k].2.2.length d)], Strs w p.2 p.1.2.2) := fun p hp => by
          rcases List.mem_append.1 hp with hp | hp
          · exact HS.out p hp
          · simp only [List.mem_singleton] at hp
            subst hp
            exact HSt.out
        have HFl : Hid (flatR (L ++ [(l[k], .slice q l[k].2.2.length d)]) = flatR L ++ [.string (Ba l[k].1), .int .i64 l[k].2.1, .slice q l[k].2.2.length d]) := flatR_snoc _ _
        clear hst2 hx HM HS HSt
        generalize l[k] = y at *
        obtain ⟨yk, yd, yv⟩ := y
        dsimp only at *
        generalize hnv : yv.length = nv at *
        clear hnv
        generalize Ba yk = z at *
        generalize Ba key = kk at *
        have hs1 : (wr.alloc (.cells #[.string z, .int .i64 yd, .slice q nv d] 35)).heap.size = wr.heap.size + 1 := by simp
        go_wp2_with (at_builtin; refine wpList_append_own _ rfl _ _ 22 rfl w.heap.size 35 i0 (.agg #[.string ⟨#[]⟩, .int .i64 0, .slice none 0 0]) 3 48 Tryz.underlying22 hi hz0 hz1 hz2 rfl (by decide) _ _ _ rfl (HO2.out.alloc _) ⟨wr.heap.size + 1, 0, none⟩ 1 1 [.string z, .int .i64 yd, .slice q nv d] rfl rfl (new3 hs1.symm) one3 (by unfold maxLen; omega) (by omega) (by simp; omega) ?_)
        intro v' w3 hown' hgrow _
        have HO3 : Hid (w3.ownsRow w.heap.size 35 3 v' (L ++ [((yk, yd, yv), Value.slice q nv d)]).length (flatR (L ++ [((yk, yd, yv), Value.slice q nv d)]))) := by
          show w3.ownsRow _ _ _ _ _ _
          rw [HFl.out, List.length_append]
          exact hown'
        have HB3 : Hid (Below w.heap.size w w3) := (HB2.out.alloc HB2.out.size _).grown hgrow (by simp; omega) (fun b hb => (World.ownsRow.lt HO.out b hb).1)
        clear hown' hgrow
        go_wp2_with fail
        go_roundw
        case rel => exact ⟨k + 1, L ++ [((yk, yd, yv), Value.slice q nv d)], by omega, by go_num, HM2.out, by simp; omega, HS2.out, HO3.out, HB3.out⟩
        case measure => simp [intOf]; omega
      · rw [if_neg hx] at hst2
        rw [decide_eq_false hx] at hb
        have HM2 : Hid (L.map (·.1) = aboutP (l.take (k + 1)) key) := by show _ = _; rw [hst2]; exact HM.out
        clear hst2 hx HM HSt
        generalize l[k] = y at *
        obtain ⟨yk, yd, yv⟩ := y
        dsimp only at *
        generalize Ba yk = z at *
        generalize Ba key = kk at *
        generalize yv.length = nv at *
        go_wp2_with fail
        go_roundw
        case rel => exact ⟨k + 1, L, by omega, by go_num, HM2.out, by omega, HS.out, HO2.out, HB2.out⟩
        case measure => simp [intOf]; omega
    · have he := HEnd.out k (by omega)
      have HR : Hid (Reqs wr u5 (aboutP l key)) := by
        show Reqs _ _ _
        rw [← he, ← HM.out]
        exact reqs_of_owns HO.out (fun p hp => (HS.out p hp).below HB.out)
      clear he
      go_wp2_with fail
      go_ret
      exact ⟨u5, rfl, HR.out, HB.out⟩
end Go.Proofs.YtgaopmdpcjcooaaGreatDoor
