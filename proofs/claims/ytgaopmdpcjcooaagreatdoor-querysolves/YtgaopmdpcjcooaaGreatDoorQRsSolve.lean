/- Contract over this translation: the document's solve. -/
import Derived.Test.YtgaopmdpcjcooaaGreatDoorQSolveTop
import Derived.Test.YtgaopmdpcjcooaaGreatDoorQRefFits
import Derived.Test.YtgaopmdpcjcooaaGreatDoorQRsP
import Derived.Test.YtgaopmdpcjcooaaGreatDoorQRsSort
import Derived.Test.YtgaopmdpcjcooaaGreatDoorQRDig
import Derived.Laws.Cover3
namespace Go.Proofs.YtgaopmdpcjcooaaGreatDoor
open Go.RowKit
set_option linter.unusedVariables false
set_option linter.unusedSimpArgs false
theorem eql_slice_nil (w : World) (t e : TypeId) (a : Option Addr) (l c : Nat) (h : Tryz.prog.underlying t = some (.slice e)) : (binOp .eql t (.slice a l c) (.slice none 0 0)).run Tryz.prog w = .ok (.bool a.isNone) w := by
  simp only [binOp]
  simp [run_equal_slice_nil w t e a l c h]
theorem OwnT.own {N : Nat} {w : World} {L : List Bs} {v : Value} (h : OwnT N w L v) : OwnN N w v L := h
theorem OwnT.st {N : Nat} {w : World} {L : List Bs} {v : Value} (h : OwnT N w L v) : Strs w v L := h.own.holds.strs
theorem strs_tsl {w : World} {v : Value} {l : List Bs} (h : Strs w v l) (hne : l ≠ []) : TSl w l v := by
  rcases h with ⟨rfl, _⟩ | ⟨g, o, cap, rfl, h1, h2, h3, h4⟩
  · exact absurd rfl hne
  · exact Or.inr ⟨g, o, cap, rfl, fun i s hs => ⟨h3, h4 i s hs⟩⟩
theorem keyS_yes {K : List Bs} {r : Rq} (h : r.2.1 = 1 ∨ r.2.1 = 3) (g : decide (r.1 ∈ K) = false) : keyS K r = K ++ [r.1] := by
  unfold keyS
  rw [if_pos ⟨h, by simpa using g⟩]
theorem keyS_in {K : List Bs} {r : Rq} (g : decide (r.1 ∈ K) = true) : keyS K r = K := by
  unfold keyS
  rw [if_neg (fun h => h.2 (by simpa using g))]
theorem keyS_no {K : List Bs} {r : Rq} (h : r.2.1 = 2 ∨ r.2.1 = 4) : keyS K r = K := by
  unfold keyS
  rw [if_neg (fun g => by rcases h with h | h <;> rw [h] at g <;> simp at g)]
theorem fold_step {l : List Rq} {k : Nat} (hk : k < l.length) : (l.take (k + 1)).foldl keyS [] = keyS ((l.take k).foldl keyS []) l[k] := by
  rw [List.take_succ_eq_append_getElem hk, List.foldl_append]
  rfl
theorem labs_new (w : World) (a b : Bs) : Labs (w.alloc (.cells #[.string (Ba a), .string (Ba b)] 31)) (.slice (some ⟨w.heap.size, 0, none⟩) 1 1) [(a, b)] := by
  obtain ⟨h1, h2⟩ := box2 (w := w) (a := .string (Ba a)) (b := .string (Ba b)) (t := 31) (Below.refl _ _)
  refine Or.inr ⟨w.heap.size, 0, 1, rfl, Nat.le_refl _, by decide, by simp, fun i x hx => ?_⟩
  match i, hx with
  | 0, hx =>
    simp only [List.getElem?_cons_zero, Option.some.injEq] at hx
    subst hx
    exact ⟨h1, h2⟩
theorem solveKR_not {l : List Rq} {ks : List Bs} {k : Nat} (hk : k < ks.length) (g : firstP (choicesR (aboutP l ks[k])) (aboutP l ks[k]) = none) : solveKR l (ks.drop k) = none := by
  rw [List.drop_eq_getElem_cons hk, solveKR, g]
theorem solveKR_one {l : List Rq} {ks : List Bs} {k : Nat} {v : Bs} (hk : k < ks.length) (g : firstP (choicesR (aboutP l ks[k])) (aboutP l ks[k]) = some v) : solveKR l (ks.drop k) = (solveKR l (ks.drop (k + 1))).map ((ks[k], v) :: ·) := by
  rw [List.drop_eq_getElem_cons hk, solveKR, g]
/-- where the loop over a key's values stands -/
def FndR (wd : World) (B : Nat) (acc : List Lb) (key : Bs) (ab : List Rq) (zs : List Bs) (uz : Value) (j : Nat) (b : Bool) (x : Value) (wj : World) : Prop :=
  OwnT B wj zs uz ∧ ((b = false ∧ Below wd.heap.size wd wj ∧ (∀ q (hq : q < zs.length), q < j → allH ab (some zs[q]) = false) ∧ wj.ownsRow B 31 2 x acc.length (flatL acc)) ∨
    (b = true ∧ ∃ v, firstP zs ab = some v ∧ wj.ownsRow B 31 2 x (acc ++ [(key, v)]).length (flatL (acc ++ [(key, v)]))))
theorem first_none {zs : List Bs} {ab : List Rq} (h : ∀ q (hq : q < zs.length), allH ab (some zs[q]) = false) : firstP zs ab = none := by
  unfold firstP
  rw [List.find?_eq_none]
  intro v hv
  obtain ⟨q, hq, rfl⟩ := List.getElem_of_mem hv
  rw [h q hq]
  simp
theorem first_some {zs : List Bs} {ab : List Rq} {j : Nat} (hj : j < zs.length) (h : ∀ q (hq : q < zs.length), q < j → allH ab (some zs[q]) = false) (g : allH ab (some zs[j]) = true) : firstP zs ab = some zs[j] := by
  unfold firstP
  have e : zs = zs.take j ++ zs[j] :: zs.drop (j + 1) := by
    rw [← List.drop_eq_getElem_cons hj, List.take_append_drop]
  conv => lhs; rw [e]
  rw [List.find?_append]
  have : (zs.take j).find? (fun v => allH ab (some v)) = none := by
    rw [List.find?_eq_none]
    intro v hv
    obtain ⟨q, hq, rfl⟩ := List.getElem_of_mem hv
    rw [List.length_take] at hq
    rw [List.getElem_take, h q (by omega) (by omega)]
    simp
  rw [this, Option.none_or, List.find?_cons_of_pos (by simpa using g)]
theorem rows_apart2 {w : World} {B1 B2 s1 s2 n1 n2 : Nat} {e1 e2 : TypeId} {v1 v2 : Value} {x1 x2 : List Value} (h1 : w.ownsRow B1 e1 s1 v1 n1 x1) (h2 : w.ownsRow B2 e2 s2 v2 n2 x2) (hne : e1 ≠ e2) : v1.ownBlock = none ∨ v1.ownBlock ≠ v2.ownBlock := by
  rcases h1.2 with ⟨rfl, _⟩ | ⟨g, cap, cur, rfl, _, hg, _⟩
  · exact Or.inl rfl
  · refine Or.inr (fun e => ?_)
    rcases h2.2 with ⟨rfl, _⟩ | ⟨g2, cap2, cur2, rfl, _, hg2, _⟩
    · cases e
    · have e3 : g = g2 := by injection e
      subst e3
      rw [hg] at hg2
      injection hg2 with hg2
      injection hg2 with _ h3 _
      exact hne h3
theorem row_below {w w' : World} {B s n : Nat} {e : TypeId} {v : Value} {xs : List Value} (h : w.ownsRow B e s v n xs) (b : Below w.heap.size w w') : w'.ownsRow B e s v n xs := World.ownsRow.kept h (below_grownR b) (own_none _)
/-- what the loop over a key's parts leaves of its values -/
def ValR (ab : List Rq) (B : Nat) (j : Nat) (x : Value) (wj : World) : Prop :=
  ((ab.drop j).find? (fun r => decide (r.2.1 = 1)) = none ∧ x = .slice none 0 0) ∨ ∃ r, (ab.drop j).find? (fun r => decide (r.2.1 = 1)) = some r ∧ r ∈ ab ∧ OwnT B wj (sortR r.2.2) x
theorem find_yes {ab : List Rq} {j : Nat} (hj : j < ab.length) (h : ab[j].2.1 = 1) : (ab.drop j).find? (fun r => decide (r.2.1 = 1)) = some ab[j] := by
  rw [List.drop_eq_getElem_cons hj, List.find?_cons_of_pos (by simpa using h)]
theorem find_no {ab : List Rq} {j : Nat} (hj : j < ab.length) (h : ¬ ab[j].2.1 = 1) : (ab.drop j).find? (fun r => decide (r.2.1 = 1)) = (ab.drop (j + 1)).find? (fun r => decide (r.2.1 = 1)) := by
  rw [List.drop_eq_getElem_cons hj, List.find?_cons_of_neg (by simpa using h)]
theorem OwnT.at {N : Nat} {w : World} {L : List Bs} {v : Value} (h : OwnT N w L v) {i : Nat} (hi : i < L.length) : ∃ g c, v = .slice (some ⟨g, 0, none⟩) L.length c ∧ L.length ≤ c ∧ w.cell? ⟨g, i, none⟩ = some (.string (Ba L[i])) := by
  rcases (OwnT.strs (av := fun _ => False) h (fun _ _ e => e)) with ⟨rfl, _⟩ | ⟨g, c, hv, hc, _, _, _, hcell⟩
  · simp at hi
  · exact ⟨g, c, hv, hc, hcell i _ (List.getElem?_eq_getElem hi)⟩
set_option maxRecDepth 100000 in
set_option maxHeartbeats 16000000 in
theorem solveRf_any (v : Value) (l : List Rq) (w : World) (hv : Reqs w v l) (hf : Fine l) :
    Calls Tryz.prog 23 #[v] w fun e w' => ∃ u b, e = .returned (.tuple #[u, .bool b]) ∧ SolveR l w' u b ∧ Below w.heap.size w w' := by
  obtain ⟨i0, hi, hz0, hz1, hz2⟩ := info_parts info_label
  obtain ⟨j0, hj, hy0, hy1, hy2⟩ := info_parts info_str
  obtain ⟨k0, hkk, hx0, hx1, hx2⟩ := info_parts info_req
  have hlen : l.length ≤ 9 := hf.1
  have HF : Hid (Fine l) := hf
  obtain ⟨p, c, rfl, hn, hcell⟩ := hv.open
  have HC : Hid (∀ k (hk : k < l.length), ∃ g o q d, p = some ⟨g, o, none⟩ ∧ l.length ≤ c ∧ ∀ w1, Below w.heap.size w w1 → w1.cell? ⟨g, o + k * 3, none⟩ = some (.string (Ba l[k].1)) ∧ w1.cell? ⟨g, o + k * 3 + 1, none⟩ = some (.int .i64 l[k].2.1) ∧ w1.cell? ⟨g, o + k * 3 + 2, none⟩ = some (.slice q l[k].2.2.length d) ∧ Strs w1 (.slice q l[k].2.2.length d) l[k].2.2) := hcell
  have HKd : Hid (∀ r ∈ l, r.2.1 = 1 ∨ r.2.1 = 2 ∨ r.2.1 = 3 ∨ r.2.1 = 4) := fun r hr => fits_kind (part_ok.1 (hf.2 r hr)).2.1
  have HVal : Hid (∀ r ∈ l, r.2.1 = 1 → r.2.2 ≠ [] ∧ r.2.2.length ≤ 8) := fun r hr h1 => by
    obtain ⟨_, a, b, _⟩ := part_ok.1 (hf.2 r hr)
    refine ⟨?_, b⟩
    rintro e
    rw [e, h1] at a
    simp [fitsB] at a
  have HKl : Hid ((keysR l).length ≤ 9) := by
    show _ ≤ _
    have h1 := keys_filter hf
    have h2 := congrArg List.length h1
    rw [(sortR_perm _).length_eq] at h2
    have h3 := List.length_filter_le (fun k => !allH (aboutP l k) none) (keysP l)
    have h4 := keysP_len l
    omega
  have HRes : Hid (solveP l = solveKR l (sortR (keysR l))) := (solveR_eq hf).symm
  have HFin : Hid (∀ (u : Value) (b : Bool) w', SolveR l w' u b ↔ (solveP l = none ∧ b = false ∧ u = .slice none 0 0) ∨ ∃ ls, solveP l = some ls ∧ b = true ∧ Labs w' u ls) := fun u b w' => Iff.rfl
  clear hcell hv hf hn
  go_enter Tryz.func23, Tryz.ntmps23
  go_wp2_with fail
  go_loopw [4, 22] (fun x i wr => ∃ (k : Nat) (K : List Bs), k ≤ l.length ∧ i = .int .i64 k ∧ K = (l.take k).foldl keyS [] ∧ K.length ≤ k ∧ OwnT w.heap.size wr K x ∧ Below w.heap.size w wr) (fun _ i _ => l.length - (intOf i).toNat)
  case atStart => exact ⟨0, [], Nat.zero_le _, rfl, rfl, Nat.le_refl _, OwnT.nil _ _, Below.refl _ _⟩
  case round =>
    obtain ⟨k, K, hk, rfl, hKe, hKk, hown, hbel⟩ := hrel
    have HM : Hid (K = (l.take k).foldl keyS []) := hKe
    have HO : Hid (OwnT w.heap.size wr K u4) := hown
    have HB : Hid (Below w.heap.size w wr) := hbel
    have hBr := hbel.size
    clear hKe hown hbel
    by_cases hlt : k < l.length
    · obtain ⟨g, o, q, d, rfl, hlc, hc0⟩ := HC.out k hlt
      obtain ⟨c1, c2, c3, c4⟩ := hc0 wr HB.out
      have hst := fold_step hlt
      have HSt : Hid ((l.take (k + 1)).foldl keyS [] = keyS K l[k]) := by show _ = _; rw [hst, HM.out]
      have hkd := HKd.out _ (List.getElem_mem hlt)
      clear hc0 c4 hst HM
      generalize l[k] = y at *
      obtain ⟨yk, yd, yv⟩ := y
      dsimp only at *
      generalize yv.length = nv at *
      have HBb : Hid (Below w.heap.size w (wr.alloc (.cells #[.string (Ba yk), .int .i64 yd, .slice q nv d] 35))) := HB.out.alloc HB.out.size _
      have HOb : Hid (OwnT w.heap.size (wr.alloc (.cells #[.string (Ba yk), .int .i64 yd, .slice q nv d] 35)) K u4) := HO.out.alloc _
      have HHas : Hid (Calls Tryz.prog 41 #[u4, .string (Ba yk)] (wr.alloc (.cells #[.string (Ba yk), .int .i64 yd, .slice q nv d] 35)) fun e w' => e = .returned (.bool (decide (yk ∈ K))) ∧ w' = (wr.alloc (.cells #[.string (Ba yk), .int .i64 yd, .slice q nv d] 35))) := has_of u4 K yk _ HOb.out.st
      rcases hkd with rfl | rfl | rfl | rfl
      · have HY : Hid (decide (yk ∈ K) = false → keyS K (yk, (1 : Int), yv) = K ++ [yk]) := fun h => keyS_yes (r := (yk, (1 : Int), yv)) (Or.inl rfl) h
        have HN : Hid (decide (yk ∈ K) = true → keyS K (yk, (1 : Int), yv) = K) := fun h => keyS_in (r := (yk, (1 : Int), yv)) h
        generalize decide (yk ∈ K) = m at *
        cases m with
        | true =>
          have HM2 : Hid (K = (l.take (k + 1)).foldl keyS []) := by show _ = _; rw [HSt.out, HN.out rfl]
          generalize Ba yk = z at *
          clear HY HN HSt
          go_wp2_with fail
          refine Calls.mono HHas.out ?_
          rintro e w2 ⟨rfl, rfl⟩
          go_wp2_with fail
          go_roundw
          case rel => exact ⟨k + 1, K, by omega, by go_num, HM2.out, by omega, HOb.out, HBb.out⟩
          case measure => simp [intOf]; omega
        | false =>
          have HM2 : Hid (K ++ [yk] = (l.take (k + 1)).foldl keyS []) := by show _ = _; rw [HSt.out, HY.out rfl]
          have HOw : Hid ((wr.alloc (.cells #[.string (Ba yk), .int .i64 1, .slice q nv d] 35)).ownsRow w.heap.size 9 1 u4 K.length (K.map fun s => .string ⟨s.toArray⟩)) := HOb.out
          have hs1 : (wr.alloc (.cells #[.string (Ba yk), .int .i64 1, .slice q nv d] 35)).heap.size = wr.heap.size + 1 := by simp
          clear HY HN HSt
          generalize hzz : Ba yk = z at *
          have HZ : Hid (z = Ba yk) := hzz.symm
          clear hzz
          go_wp2_with fail
          refine Calls.mono HHas.out ?_
          rintro e w2 ⟨rfl, rfl⟩
          go_wp2_with (at_builtin; refine wpList_append_own _ rfl _ _ 33 rfl w.heap.size 9 j0 (.string ⟨#[]⟩) 1 16 Tryz.underlying33 hj hy0 hy1 hy2 rfl (by decide) _ _ _ rfl (HOw.out.alloc _) ⟨wr.heap.size + 1, 0, none⟩ 1 1 [.string z] rfl rfl (new1 hs1.symm) one1 (by unfold maxLen; omega) (by omega) (by simp; omega) ?_)
          intro v' w3 hown' hgrow _
          have HO3 : Hid (OwnT w.heap.size w3 (K ++ [yk]) v') := by
            show w3.ownsRow _ _ _ _ _ _
            rw [List.length_append, List.map_append]
            rw [HZ.out] at hown'
            exact hown'
          have HB3 : Hid (Below w.heap.size w w3) := (HBb.out.alloc HBb.out.size _).grown hgrow (by simp; omega) (fun b hb => (World.ownsRow.lt HOw.out b hb).1)
          clear hown' hgrow
          go_wp2_with fail
          go_roundw
          case rel => exact ⟨k + 1, K ++ [yk], by omega, by go_num, HM2.out, by rw [List.length_append]; simp; omega, HO3.out, HB3.out⟩
          case measure => simp [intOf]; omega
      · have HM2 : Hid (K = (l.take (k + 1)).foldl keyS []) := by show _ = _; rw [HSt.out, keyS_no (r := (yk, (2 : Int), yv)) (Or.inl rfl)]
        generalize Ba yk = z at *
        clear HSt HHas
        go_wp2_with fail
        go_roundw
        case rel => exact ⟨k + 1, K, by omega, by go_num, HM2.out, by omega, HOb.out, HBb.out⟩
        case measure => simp [intOf]; omega
      · have HY : Hid (decide (yk ∈ K) = false → keyS K (yk, (3 : Int), yv) = K ++ [yk]) := fun h => keyS_yes (r := (yk, (3 : Int), yv)) (Or.inr rfl) h
        have HN : Hid (decide (yk ∈ K) = true → keyS K (yk, (3 : Int), yv) = K) := fun h => keyS_in (r := (yk, (3 : Int), yv)) h
        generalize decide (yk ∈ K) = m at *
        cases m with
        | true =>
          have HM2 : Hid (K = (l.take (k + 1)).foldl keyS []) := by show _ = _; rw [HSt.out, HN.out rfl]
          generalize Ba yk = z at *
          clear HY HN HSt
          go_wp2_with fail
          refine Calls.mono HHas.out ?_
          rintro e w2 ⟨rfl, rfl⟩
          go_wp2_with fail
          go_roundw
          case rel => exact ⟨k + 1, K, by omega, by go_num, HM2.out, by omega, HOb.out, HBb.out⟩
          case measure => simp [intOf]; omega
        | false =>
          have HM2 : Hid (K ++ [yk] = (l.take (k + 1)).foldl keyS []) := by show _ = _; rw [HSt.out, HY.out rfl]
          have HOw : Hid ((wr.alloc (.cells #[.string (Ba yk), .int .i64 3, .slice q nv d] 35)).ownsRow w.heap.size 9 1 u4 K.length (K.map fun s => .string ⟨s.toArray⟩)) := HOb.out
          have hs1 : (wr.alloc (.cells #[.string (Ba yk), .int .i64 3, .slice q nv d] 35)).heap.size = wr.heap.size + 1 := by simp
          clear HY HN HSt
          generalize hzz : Ba yk = z at *
          have HZ : Hid (z = Ba yk) := hzz.symm
          clear hzz
          go_wp2_with fail
          refine Calls.mono HHas.out ?_
          rintro e w2 ⟨rfl, rfl⟩
          go_wp2_with (at_builtin; refine wpList_append_own _ rfl _ _ 33 rfl w.heap.size 9 j0 (.string ⟨#[]⟩) 1 16 Tryz.underlying33 hj hy0 hy1 hy2 rfl (by decide) _ _ _ rfl (HOw.out.alloc _) ⟨wr.heap.size + 1, 0, none⟩ 1 1 [.string z] rfl rfl (new1 hs1.symm) one1 (by unfold maxLen; omega) (by omega) (by simp; omega) ?_)
          intro v' w3 hown' hgrow _
          have HO3 : Hid (OwnT w.heap.size w3 (K ++ [yk]) v') := by
            show w3.ownsRow _ _ _ _ _ _
            rw [List.length_append, List.map_append]
            rw [HZ.out] at hown'
            exact hown'
          have HB3 : Hid (Below w.heap.size w w3) := (HBb.out.alloc HBb.out.size _).grown hgrow (by simp; omega) (fun b hb => (World.ownsRow.lt HOw.out b hb).1)
          clear hown' hgrow
          go_wp2_with fail
          go_roundw
          case rel => exact ⟨k + 1, K ++ [yk], by omega, by go_num, HM2.out, by rw [List.length_append]; simp; omega, HO3.out, HB3.out⟩
          case measure => simp [intOf]; omega
      · have HM2 : Hid (K = (l.take (k + 1)).foldl keyS []) := by show _ = _; rw [HSt.out, keyS_no (r := (yk, (4 : Int), yv)) (Or.inr rfl)]
        generalize Ba yk = z at *
        clear HSt HHas
        go_wp2_with fail
        go_roundw
        case rel => exact ⟨k + 1, K, by omega, by go_num, HM2.out, by omega, HOb.out, HBb.out⟩
        case measure => simp [intOf]; omega
    · have HKe : Hid (K = keysR l) := by
        show _ = _
        rw [HM.out, List.take_of_length_le (by omega)]
        rfl
      have HSo : Hid (Calls Tryz.prog 42 #[u4] wr fun e w' => ∃ u, e = .returned u ∧ OwnT wr.heap.size w' (sortR K) u ∧ Below wr.heap.size wr w') := rfsort_any K u4 wr HO.out.tsl (by omega)
      have HKL : Hid ((sortR K).length ≤ 9) := by show _ ≤ _; rw [(sortR_perm _).length_eq]; omega
      have HRes2 : Hid (solveP l = solveKR l ((sortR K).drop 0)) := by show _ = _; rw [HRes.out, HKe.out]; rfl
      clear HM HRes HKl HKe
      go_wp2_with fail
      refine Calls.mono HSo.out ?_
      rintro e w1 ⟨uk, rfl, hko, b1⟩
      generalize hks : sortR K = ks at *
      clear hks
      have HB1 : Hid (Below w.heap.size w w1) := HB.out.trans (b1.mono HB.out.size)
      obtain ⟨pk, ck, hkf, hkn, hkc⟩ := hko.st.open
      subst hkf
      have HCk : Hid (∀ k (hk : k < ks.length), ∃ g o, pk = some ⟨g, o, none⟩ ∧ ks.length ≤ ck ∧ ∀ w2, Below w1.heap.size w1 w2 → w2.cell? ⟨g, o + k, none⟩ = some (.string (Ba ks[k]))) := hkc
      have hkl9 := HKL.out
      clear hko hkc b1 hkn HO HB hBr hKk hlt hk
      go_wp2_with fail
      go_loopw [7, 50] (fun x i wr => ∃ (k : Nat) (acc : List Lb), k ≤ ks.length ∧ i = .int .i64 k ∧ acc.length ≤ k ∧ solveKR l (ks.drop 0) = (solveKR l (ks.drop k)).map (acc ++ ·) ∧ wr.ownsRow w1.heap.size 31 2 x acc.length (flatL acc) ∧ Below w1.heap.size w1 wr) (fun _ i _ => ks.length - (intOf i).toNat)
      case atStart => exact ⟨0, [], Nat.zero_le _, rfl, Nat.le_refl _, by simp, World.ownsRow_nil _ _ _ _, Below.refl _ _⟩
      case round =>
        obtain ⟨kk, acc, hk, rfl, hak, hall, hown, hbel⟩ := hrel
        have HA : Hid (solveKR l (ks.drop 0) = (solveKR l (ks.drop kk)).map (acc ++ ·)) := hall
        have HO : Hid (wr.ownsRow w1.heap.size 31 2 u7 acc.length (flatL acc)) := hown
        have HBr1 : Hid (Below w1.heap.size w1 wr) := hbel
        clear hall hown hbel
        by_cases hlt : kk < ks.length
        · obtain ⟨gk, ok, rfl, hlck, hck0⟩ := HCk.out kk hlt
          have ck1 := hck0 wr HBr1.out
          clear hck0
          have HNo : Hid (firstP (choicesR (aboutP l ks[kk])) (aboutP l ks[kk]) = none → solveKR l (ks.drop kk) = none) := fun h => solveKR_not hlt h
          have HOne : Hid (∀ v, firstP (choicesR (aboutP l ks[kk])) (aboutP l ks[kk]) = some v → solveKR l (ks.drop kk) = (solveKR l (ks.drop (kk + 1))).map ((ks[kk], v) :: ·)) := fun v h => solveKR_one hlt h
          generalize ks[kk] = key at *
          obtain ⟨wo, hwo⟩ : ∃ wo, wo = wr := ⟨_, rfl⟩
          subst hwo
          have HBwo : Hid (Below w.heap.size w wo) := HB1.out.trans (HBr1.out.mono HB1.out.size)
          generalize hkb : Ba key = zk at *
          have HKb : Hid (zk = Ba key) := hkb.symm
          clear hkb
          go_wp2_with fail
          go_loopw [10, 56] (fun x i wj => ∃ (j : Nat) (L : List (Rq × Value)), j ≤ l.length ∧ i = .int .i64 j ∧ L.map (fun p => p.1) = aboutP (l.take j) key ∧ L.length ≤ j ∧ (∀ p ∈ L, Strs w p.2 p.1.2.2) ∧ wj.ownsRow wo.heap.size 35 3 x L.length (flatR L) ∧ Below wo.heap.size wo wj) (fun _ i _ => l.length - (intOf i).toNat)
          case atStart => exact ⟨0, [], Nat.zero_le _, rfl, by simp [aboutP], Nat.le_refl _, (fun p hp => absurd hp (by simp)), World.ownsRow_nil _ _ _ _, Below.refl _ _⟩
          case round =>
            obtain ⟨j, L, hj2, rfl, hLm, hLj, hLs, hLo, hLb⟩ := hrel
            have HLm : Hid (L.map (fun p => p.1) = aboutP (l.take j) key) := hLm
            have HLs : Hid (∀ p ∈ L, Strs w p.2 p.1.2.2) := hLs
            have HLo : Hid (wr.ownsRow wo.heap.size 35 3 u10 L.length (flatR L)) := hLo
            have HLb : Hid (Below wo.heap.size wo wr) := hLb
            have hLbs := hLb.size
            clear hLm hLs hLo hLb
            by_cases hjl : j < l.length
            · obtain ⟨g, o, q, d, rfl, hlc, hc0⟩ := HC.out j hjl
              obtain ⟨c1, c2, c3, _⟩ := hc0 wr (HBwo.out.trans (HLb.out.mono HBwo.out.size))
              have hSw : Strs w (.slice q l[j].2.2.length d) l[j].2.2 := (hc0 w (Below.refl _ _)).2.2.2
              have hst := about_step (key := key) hjl
              clear hc0
              have HBx : Hid (Below wo.heap.size wo (wr.alloc (.cells #[.string (Ba l[j].1), .int .i64 l[j].2.1, .slice q l[j].2.2.length d] 35))) := HLb.out.alloc HLb.out.size _
              have HOx : Hid ((wr.alloc (.cells #[.string (Ba l[j].1), .int .i64 l[j].2.1, .slice q l[j].2.2.length d] 35)).ownsRow wo.heap.size 35 3 u10 L.length (flatR L)) := World.ownsRow.alloc HLo.out _
              have hbb := ba_beq l[j].1 key
              by_cases hx : l[j].1 = key
              · rw [if_pos hx] at hst
                rw [decide_eq_true hx] at hbb
                have HM2 : Hid ((L ++ [(l[j], Value.slice q l[j].2.2.length d)]).map (fun p => p.1) = aboutP (l.take (j + 1)) key) := by
                  show _ = _
                  rw [hst, List.map_append, HLm.out]
                  rfl
                have HS2 : Hid (∀ p ∈ L ++ [(l[j], .slice q l[j].2.2.length d)], Strs w p.2 p.1.2.2) := fun p hp => by
                  rcases List.mem_append.1 hp with hp | hp
                  · exact HLs.out p hp
                  · simp only [List.mem_singleton] at hp
                    subst hp
                    exact hSw
                have HFl : Hid (flatR (L ++ [(l[j], .slice q l[j].2.2.length d)]) = flatR L ++ [.string (Ba l[j].1), .int .i64 l[j].2.1, .slice q l[j].2.2.length d]) := flatR_snoc _ _
                rw [← HKb.out] at hbb
                clear hst hx HLm HLs hSw
                generalize l[j] = y at *
                obtain ⟨yk, yd, yv⟩ := y
                dsimp only at *
                generalize hnv : yv.length = nv at *
                clear hnv
                generalize Ba yk = z at *
                have hs1 : (wr.alloc (.cells #[.string z, .int .i64 yd, .slice q nv d] 35)).heap.size = wr.heap.size + 1 := by simp
                go_wp2_with (at_builtin; refine wpList_append_own _ rfl _ _ 22 rfl wo.heap.size 35 k0 (.agg #[.string ⟨#[]⟩, .int .i64 0, .slice none 0 0]) 3 48 Tryz.underlying22 hkk hx0 hx1 hx2 rfl (by decide) _ _ _ rfl (HOx.out.alloc _) ⟨wr.heap.size + 1, 0, none⟩ 1 1 [.string z, .int .i64 yd, .slice q nv d] rfl rfl (new3 hs1.symm) one3 (by unfold maxLen; omega) (by omega) (by simp; omega) ?_)
                intro v' w3 hown' hgrow _
                have HO3 : Hid (w3.ownsRow wo.heap.size 35 3 v' (L ++ [((yk, yd, yv), Value.slice q nv d)]).length (flatR (L ++ [((yk, yd, yv), Value.slice q nv d)]))) := by
                  show w3.ownsRow _ _ _ _ _ _
                  rw [HFl.out, List.length_append]
                  exact hown'
                have HB3 : Hid (Below wo.heap.size wo w3) := (HBx.out.alloc HBx.out.size _).grown hgrow (by simp; omega) (fun b hb => (World.ownsRow.lt HOx.out b hb).1)
                clear hown' hgrow
                go_wp2_with fail
                go_roundw
                case rel => exact ⟨j + 1, L ++ [((yk, yd, yv), Value.slice q nv d)], by omega, by go_num, HM2.out, by simp; omega, HS2.out, HO3.out, HB3.out⟩
                case measure => simp [intOf]; omega
              · rw [if_neg hx] at hst
                rw [decide_eq_false hx] at hbb
                rw [← HKb.out] at hbb
                have HM2 : Hid (L.map (·.1) = aboutP (l.take (j + 1)) key) := by show _ = _; rw [hst]; exact HLm.out
                clear hst hx HLm hSw
                generalize l[j] = y at *
                obtain ⟨yk, yd, yv⟩ := y
                dsimp only at *
                generalize yv.length = nv at *
                generalize Ba yk = z at *
                go_wp2_with fail
                go_roundw
                case rel => exact ⟨j + 1, L, by omega, by go_num, HM2.out, by omega, HLs.out, HOx.out, HBx.out⟩
                case measure => simp [intOf]; omega
            · have HAb : Hid (L.map (fun p => p.1) = aboutP l key) := by show _ = _; rw [HLm.out, List.take_of_length_le (by omega)]
              have HRq : Hid (Reqs wr u10 (aboutP l key)) := by
                have := reqs_of_owns HLo.out (fun p hp => (HLs.out p hp).below (HBwo.out.trans (HLb.out.mono HBwo.out.size)))
                rw [HAb.out] at this
                exact this
              have hal : (aboutP l key).length ≤ 9 := by have := about_len l key; omega
              have HAll : Hid (∀ r ∈ aboutP l key, r ∈ l) := fun r hr => (List.mem_filter.1 hr).1
              have HOn : Hid (∀ v, matchB (aboutP l key) [(key, v)] = allH (aboutP l key) (some v)) := fun v => one_label
              have HChoice : Hid (choicesR (aboutP l key) = match (aboutP l key).find? fun r => decide (r.2.1 = 1) with | some r => sortR r.2.2 | none => madeP 80) := rfl
              clear HLm HLs HLo HAb hLj
              generalize aboutP l key = ab at *
              obtain ⟨pa, ca, hab, han, hac⟩ := HRq.out.open
              subst hab
              have HCa : Hid (∀ k (hk : k < ab.length), ∃ g o q d, pa = some ⟨g, o, none⟩ ∧ ab.length ≤ ca ∧ ∀ w1, Below wr.heap.size wr w1 → w1.cell? ⟨g, o + k * 3, none⟩ = some (.string (Ba ab[k].1)) ∧ w1.cell? ⟨g, o + k * 3 + 1, none⟩ = some (.int .i64 ab[k].2.1) ∧ w1.cell? ⟨g, o + k * 3 + 2, none⟩ = some (.slice q ab[k].2.2.length d) ∧ Strs w1 (.slice q ab[k].2.2.length d) ab[k].2.2) := hac
              clear hac han
              obtain ⟨wa, hwa⟩ : ∃ wa, wa = wr := ⟨_, rfl⟩
              subst hwa
              have hwas : w1.heap.size ≤ wa.heap.size := by have := HBr1.out.size; omega
              have HOa : Hid (wa.ownsRow w1.heap.size 31 2 u7 acc.length (flatL acc)) := row_below HO.out HLb.out
              have HBa1 : Hid (Below w1.heap.size w1 wa) := HBr1.out.trans (HLb.out.mono HBr1.out.size)
              clear HLb HO HBr1
              go_wp2_with fail
              go_loopw [13, 14] (fun x i wj => ∃ (j : Nat) (z : Int), j ≤ ab.length ∧ i = .int .i64 z ∧ z = (j : Int) - 1 ∧ ValR ab w1.heap.size j x wj ∧ Below wa.heap.size wa wj) (fun _ i _ => (intOf i + 1).toNat)
              case atStart => exact ⟨ab.length, (ab.length : Int) - 1, Nat.le_refl _, by go_num, rfl, Or.inl ⟨by simp, rfl⟩, Below.refl _ _⟩
              case round =>
                obtain ⟨j, z, hj3, rfl, hz, hvr, hvb⟩ := hrel
                have HVr : Hid (ValR ab w1.heap.size j u13 wr) := hvr
                have HVb : Hid (Below wa.heap.size wa wr) := hvb
                clear hvr hvb
                rcases Nat.eq_zero_or_pos j with hj0 | hj0
                · subst hj0
                  have hz1 : z = -1 := by omega
                  subst hz1
                  have HOq : Hid (wr.ownsRow w1.heap.size 31 2 u7 acc.length (flatL acc)) := row_below HOa.out HVb.out
                  have HBq : Hid (Below w1.heap.size w1 wr) := HBa1.out.trans (HVb.out.mono hwas)
                  have HAq : Hid (Reqs wr (.slice pa ab.length ca) ab) := HRq.out.below HVb.out
                  clear HOa HBa1 hz hj3
                  rcases HVr.out with ⟨hno, rfl⟩ | ⟨r, hyes, hrm, hown⟩
                  · have HCz : Hid (choicesR ab = madeP 80) := by
                      show _ = _
                      rw [List.drop_zero] at hno
                      rw [HChoice.out, hno]
                    have hws : w1.heap.size ≤ wr.heap.size := by have := HVb.out.size; omega
                    clear HVr HChoice hno HVb HRq
                    obtain ⟨wm, hwm⟩ : ∃ wm, wm = wr := ⟨_, rfl⟩
                    subst hwm
                    have HM0 : Hid (OwnT wm.heap.size (wm.alloc (.cells #[.string ⟨#[]⟩] 9)) (madeP 0) (.slice (some ⟨wm.heap.size, 0, none⟩) 1 1)) := ⟨rfl, Or.inr ⟨wm.heap.size, 1, #[.string ⟨#[]⟩], rfl, Nat.le_refl _, heap_alloc_new _ _, Nat.le_refl _, by decide, rfl, rfl⟩⟩
                    have HMb : Hid (Below wm.heap.size wm (wm.alloc (.cells #[.string ⟨#[]⟩] 9))) := (Below.refl _ _).alloc (Nat.le_refl _) _
                    have HDg : Hid (∀ (n : Nat) w2, n < 80 → Calls Tryz.prog 43 #[.int .i64 (n : Nat)] w2 fun e w' => e = .returned (.string (Ba (dig2 n))) ∧ Below w2.heap.size w2 w') := fun n w2 h => by
                      have h9 := rfDigits_any (n : Int) (by omega) (by omega) w2
                      have e9 : Lib.itoa (n : Int) = dig2 n := by
                        unfold Lib.itoa
                        rw [if_neg (by omega), Int.toNat_natCast, dig2_eq (by omega)]
                      rw [e9] at h9
                      exact h9
                    go_wp2_with fail
                    rw [eql_slice_nil _ 33 9 none 0 0 Tryz.underlying33]
                    go_wp2_with fail
                    go_loopw [13, 91] (fun x i wj => ∃ (n : Nat), n ≤ 80 ∧ i = .int .i64 n ∧ OwnT wm.heap.size wj (madeP n) x ∧ Below wm.heap.size wm wj) (fun _ i _ => 80 - (intOf i).toNat)
                    case atStart => exact ⟨0, by omega, rfl, HM0.out, HMb.out⟩
                    case round =>
                      obtain ⟨n, hn8, rfl, hmo, hmb⟩ := hrel
                      have HMo : Hid (OwnT wm.heap.size wr (madeP n) u13) := hmo
                      have HMw : Hid (Below wm.heap.size wm wr) := hmb
                      have hmbs := hmb.size
                      clear hmo hmb
                      by_cases hn80 : n < 80
                      · have HD := HDg.out n wr hn80
                        have HD2 : Hid (_) := HD
                        have hlen2 := made_len n
                        have HSuc : Hid (madeP (n + 1) = madeP n ++ [dig2 n]) := made_succ n
                        have HLen : Hid ((madeP n).length = n + 1) := hlen2
                        have hnI : (n : Int) < 80 := by omega
                        clear HD hlen2
                        generalize hyy : Ba (dig2 n) = y at *
                        have HY : Hid (y = Ba (dig2 n)) := hyy.symm
                        clear hyy
                        go_wp2_with fail
                        refine Calls.mono HD2.out ?_
                        rintro e w2 ⟨rfl, b2⟩
                        have HMw2 : Hid (Below wm.heap.size wm w2) := HMw.out.trans (b2.mono HMw.out.size)
                        have HMo2 : Hid (w2.ownsRow wm.heap.size 9 1 u13 (n + 1) ((madeP n).map fun s => .string (Ba s))) := by
                          have h9 : OwnT wm.heap.size w2 (madeP n) u13 := row_below HMo.out b2
                          unfold OwnT at h9
                          rw [HLen.out] at h9
                          exact h9
                        have hb2s := b2.size
                        clear b2
                        go_wp2_with (at_builtin; refine wpList_append_own _ rfl _ _ 33 rfl wm.heap.size 9 j0 (.string ⟨#[]⟩) 1 16 Tryz.underlying33 hj hy0 hy1 hy2 rfl (by decide) _ _ _ rfl (HMo2.out.alloc _) ⟨w2.heap.size, 0, none⟩ 1 1 [.string y] rfl rfl (new1 rfl) one1 (by unfold maxLen; omega) (by omega) (by simp; omega) ?_)
                        intro v' w3 hown' hgrow _
                        have HMo3 : Hid (OwnT wm.heap.size w3 (madeP (n + 1)) v') := by
                          show w3.ownsRow _ _ _ _ _ _
                          rw [HSuc.out, List.length_append, List.map_append, HLen.out]
                          rw [HY.out] at hown'
                          exact hown'
                        have hrw := fun b hb => (World.ownsRow.lt HMo2.out b hb)
                        have HNew : Hid (Below wm.heap.size wm w3) := (HMw2.out.alloc HMw2.out.size _).grown hgrow (by simp; omega) (fun b hb => (hrw b hb).1)
                        clear hown' hgrow
                        go_wp2_with fail
                        go_roundw
                        case rel => exact ⟨n + 1, by omega, by go_num, HMo3.out, HNew.out⟩
                        case measure => simp [intOf]; omega
                      · obtain ⟨gz, cz, hzf, hzcc0, hz99⟩ := OwnT.at HMo.out (i := 0) (by rw [made_len]; omega)
                        subst hzf
                        clear hz99
                        have hn9 : n = 80 := by omega
                        subst hn9
                        have HZs : Hid (OwnT w1.heap.size wr (madeP 80) (.slice (some ⟨gz, 0, none⟩) (madeP 80).length cz)) := OwnT.low HMo.out hws
                        have HOq2 : Hid (wr.ownsRow w1.heap.size 31 2 u7 acc.length (flatL acc)) := row_below HOq.out HMw.out
                        have HBq2 : Hid (Below w1.heap.size w1 wr) := HBq.out.trans (HMw.out.mono hws)
                        have HAq2 : Hid (Reqs wr (.slice pa ab.length ca) ab) := HAq.out.below HMw.out
                        have HZl : Hid ((madeP 80).length ≤ 81) := by show _ ≤ _; rw [made_len]; omega
                        have HZc : Hid ((madeP 80).length ≤ cz) := hzcc0
                        clear HMo HMw HOq HBq HAq hzcc0 HM0 HMb HDg
                        have HOq := HOq2
                        have HBq := HBq2
                        have HAq := HAq2
                        clear HOq2 HBq2 HAq2
                        generalize madeP 80 = zs at *
                        obtain ⟨wd, hwd⟩ : ∃ wd, wd = wr := ⟨_, rfl⟩
                        subst hwd
                        have HZat : Hid (∀ wj, OwnT w1.heap.size wj zs (.slice (some ⟨gz, 0, none⟩) zs.length cz) → ∀ j (hj : j < zs.length), wj.cell? ⟨gz, j, none⟩ = some (.string (Ba zs[j]))) := fun wj h j hj => by
                          obtain ⟨g9, c9, h8, h9, h10⟩ := OwnT.at h hj
                          injection h8 with e1 e2 e3
                          injection e1 with e1
                          injection e1 with e1
                          rw [e1]
                          exact h10
                        have HNo2 : Hid (firstP zs ab = none → solveKR l (ks.drop kk) = none) := fun h => HNo.out (by rw [HCz.out]; exact h)
                        have HOne2 : Hid (∀ v, firstP zs ab = some v → solveKR l (ks.drop kk) = (solveKR l (ks.drop (kk + 1))).map ((key, v) :: ·)) := fun v h => HOne.out v (by rw [HCz.out]; exact h)
                        have hzl9 : zs.length ≤ 81 := HZl.out
                        have hzcc : zs.length ≤ cz := HZc.out
                        have HFit : Hid (∀ w2 v, Below wd.heap.size wd w2 → Calls Tryz.prog 44 #[.slice pa ab.length ca, .slice (some ⟨w2.heap.size, 0, none⟩) 1 1] (w2.alloc (.cells #[.string (Ba key), .string (Ba v)] 31)) fun e w' => e = .returned (.bool (allH ab (some v))) ∧ Below (w2.alloc (.cells #[.string (Ba key), .string (Ba v)] 31)).heap.size (w2.alloc (.cells #[.string (Ba key), .string (Ba v)] 31)) w') := fun w2 v hb => by
                          rw [← HOn.out v]
                          have hba : Below wd.heap.size wd (w2.alloc (.cells #[.string (Ba key), .string (Ba v)] 31)) := hb.alloc hb.size _
                          exact fitsR_any _ _ ab [(key, v)] _ (HAq.out.below hba) (labs_new w2 key v) (fun r hr => HKd.out r (HAll.out r hr)) (by simp)
                        clear HCz HNo HOne HZl HZc HAq
                        have hfl1 : ∀ x, flatL (acc ++ [(key, x)]) = flatL acc ++ [.string (Ba key), .string (Ba x)] := fun x => flatL_snoc acc (key, x)
                        have HFl : Hid (_) := hfl1
                        clear hfl1
                        go_wp2_with fail
                        go_loopw [7, 16, 102] (fun x f i wj => ∃ (j : Nat) (b : Bool), j ≤ zs.length ∧ i = .int .i64 j ∧ f = .bool b ∧ FndR wd w1.heap.size acc key ab zs (.slice (some ⟨gz, 0, none⟩) zs.length cz) j b x wj ∧ Below w1.heap.size w1 wj) (fun _ _ i _ => zs.length - (intOf i).toNat)
                        case atStart => exact ⟨0, false, Nat.zero_le _, rfl, rfl, ⟨HZs.out, Or.inl ⟨rfl, Below.refl _ _, (fun q _ h => absurd h (Nat.not_lt_zero _)), HOq.out⟩⟩, HBq.out⟩
                        case round =>
                          obtain ⟨j, b, hjz, rfl, rfl, ⟨hzs, hfr⟩, hb1⟩ := hrel
                          have HZj : Hid (OwnT w1.heap.size wr zs (.slice (some ⟨gz, 0, none⟩) zs.length cz)) := hzs
                          have HBj : Hid (Below w1.heap.size w1 wr) := hb1
                          have hb1s := hb1.size
                          clear hzs hb1
                          by_cases hjl : j < zs.length
                          · have hcz := HZat.out wr HZj.out j hjl
                            rcases hfr with ⟨rfl, hbd, hno, hrow⟩ | ⟨rfl, x, hfx, hrow⟩
                            · have HBd : Hid (Below wd.heap.size wd wr) := hbd
                              have HNj : Hid (∀ q (hq : q < zs.length), q < j → allH ab (some zs[q]) = false) := hno
                              have HRow : Hid (wr.ownsRow w1.heap.size 31 2 u7 acc.length (flatL acc)) := hrow
                              have HFj : Hid (Calls Tryz.prog 44 #[.slice pa ab.length ca, .slice (some ⟨(wr.alloc (.cells #[.string (Ba key), .string (Ba zs[j])] 31)).heap.size, 0, none⟩) 1 1] ((wr.alloc (.cells #[.string (Ba key), .string (Ba zs[j])] 31)).alloc (.cells #[.string (Ba key), .string (Ba zs[j])] 31)) fun e w' => e = .returned (.bool (allH ab (some zs[j]))) ∧ Below ((wr.alloc (.cells #[.string (Ba key), .string (Ba zs[j])] 31)).alloc (.cells #[.string (Ba key), .string (Ba zs[j])] 31)).heap.size ((wr.alloc (.cells #[.string (Ba key), .string (Ba zs[j])] 31)).alloc (.cells #[.string (Ba key), .string (Ba zs[j])] 31)) w') := HFit.out _ _ (HBd.out.alloc HBd.out.size _)
                              have hsz1 : (wr.alloc (.cells #[.string (Ba key), .string (Ba zs[j])] 31)).heap.size = wr.heap.size + 1 := by simp
                              have HBa2 : Hid (Below wr.heap.size wr ((wr.alloc (.cells #[.string (Ba key), .string (Ba zs[j])] 31)).alloc (.cells #[.string (Ba key), .string (Ba zs[j])] 31))) := ((Below.refl _ _).alloc (Nat.le_refl _) _).alloc (by simp) _
                              have HBx1 : Hid (∀ w2, Below ((wr.alloc (.cells #[.string (Ba key), .string (Ba zs[j])] 31)).alloc (.cells #[.string (Ba key), .string (Ba zs[j])] 31)).heap.size ((wr.alloc (.cells #[.string (Ba key), .string (Ba zs[j])] 31)).alloc (.cells #[.string (Ba key), .string (Ba zs[j])] 31)) w2 → w2.cell? ⟨wr.heap.size, 0, none⟩ = some (.string (Ba key)) ∧ w2.cell? ⟨wr.heap.size, 1, none⟩ = some (.string (Ba zs[j]))) := fun w2 hb => by
                                have hb2 : Below (wr.alloc (.cells #[.string (Ba key), .string (Ba zs[j])] 31)).heap.size (wr.alloc (.cells #[.string (Ba key), .string (Ba zs[j])] 31)) w2 := ((Below.refl _ _).alloc (Nat.le_refl _) _).trans (hb.mono (by simp))
                                exact box2 hb2
                              rw [hsz1] at HFj
                              rw [← HKb.out] at HFj HBa2 HBx1 hsz1
                              clear hbd hno hrow
                              cases hx : allH ab (some zs[j]) with
                              | true =>
                                rw [hx] at HFj
                                have HFs : Hid (firstP zs ab = some zs[j]) := first_some hjl HNj.out hx
                                have HFlj : Hid (flatL (acc ++ [(key, zs[j])]) = flatL acc ++ [.string zk, .string (Ba zs[j])]) := by show _ = _; rw [HFl.out, HKb.out]
                                clear hx HNj
                                generalize zs[j] = x at *
                                generalize Ba x = zx at *
                                go_wp2_with fail
                                refine Calls.mono HFj.out ?_
                                rintro e w4 ⟨rfl, b4⟩
                                obtain ⟨k0', k1'⟩ := HBx1.out w4 b4
                                have HB4 : Hid (Below wr.heap.size wr w4) := HBa2.out.trans (b4.mono HBa2.out.size)
                                have HRow4 : Hid (w4.ownsRow w1.heap.size 31 2 u7 acc.length (flatL acc)) := row_below HRow.out HB4.out
                                have HZ4 : Hid (OwnT w1.heap.size w4 zs (.slice (some ⟨gz, 0, none⟩) zs.length cz)) := row_below HZj.out HB4.out
                                have h4s := HB4.out.size
                                clear b4
                                go_wp2_with (at_builtin; refine wpList_append_own _ rfl _ _ 23 rfl w1.heap.size 31 i0 (.agg #[.string ⟨#[]⟩, .string ⟨#[]⟩]) 2 32 Tryz.underlying23 hi hz0 hz1 hz2 rfl (by decide) _ _ _ rfl (World.ownsRow.alloc HRow4.out _) ⟨w4.heap.size, 0, none⟩ 1 1 [.string zk, .string zx] rfl rfl (new2 rfl) two2 (by unfold maxLen; omega) (by omega) (by simp; omega) ?_)
                                intro v' w5 hown' hgrow _
                                have HRow5 : Hid (w5.ownsRow w1.heap.size 31 2 v' (acc ++ [(key, x)]).length (flatL (acc ++ [(key, x)]))) := by
                                  show w5.ownsRow _ _ _ _ _ _
                                  rw [HFlj.out, List.length_append]
                                  exact hown'
                                have HZ5 : Hid (OwnT w1.heap.size w5 zs (.slice (some ⟨gz, 0, none⟩) zs.length cz)) := World.ownsRow.kept (World.ownsRow.alloc HZ4.out _) hgrow (rows_apart2 HZ4.out HRow4.out (by decide))
                                have HB5 : Hid (Below w1.heap.size w1 w5) := ((HBj.out.trans (HB4.out.mono HBj.out.size)).alloc (by omega) _).grown hgrow (by simp; omega) (fun b hb => (World.ownsRow.lt HRow4.out b hb).1)
                                clear hown' hgrow
                                go_wp2_with fail
                                go_roundw
                                case rel =>
                                  have hrelN : ∃ (j' : Nat) (b : Bool), j' ≤ zs.length ∧ (Value.int .i64 ((j : Int) + 1)) = .int .i64 j' ∧ (Value.bool true) = .bool b ∧ FndR wd w1.heap.size acc key ab zs (.slice (some ⟨gz, 0, none⟩) zs.length cz) j' b v' w5 ∧ Below w1.heap.size w1 w5 := ⟨j + 1, true, by omega, by go_num, rfl, ⟨HZ5.out, Or.inr ⟨rfl, x, HFs.out, HRow5.out⟩⟩, HB5.out⟩
                                  first | exact hrelN | ((repeat apply Exists.intro); refine ⟨hrelN, ?_⟩; first | rfl | exact ⟨rfl, rfl⟩ | exact ⟨rfl, rfl, rfl⟩)
                                case measure => simp [intOf]; omega
                              | false =>
                                rw [hx] at HFj
                                have HNj2 : Hid (∀ q (hq : q < zs.length), q < j + 1 → allH ab (some zs[q]) = false) := fun q hq h => by
                                  rcases Nat.lt_succ_iff_lt_or_eq.1 h with h | h
                                  · exact HNj.out q hq h
                                  · subst h; exact hx
                                clear hx HNj
                                generalize Ba zs[j] = zx at *
                                go_wp2_with fail
                                refine Calls.mono HFj.out ?_
                                rintro e w4 ⟨rfl, b4⟩
                                have HB4 : Hid (Below wr.heap.size wr w4) := HBa2.out.trans (b4.mono HBa2.out.size)
                                have HRow4 : Hid (w4.ownsRow w1.heap.size 31 2 u7 acc.length (flatL acc)) := row_below HRow.out HB4.out
                                have HZ4 : Hid (OwnT w1.heap.size w4 zs (.slice (some ⟨gz, 0, none⟩) zs.length cz)) := row_below HZj.out HB4.out
                                have HBd4 : Hid (Below wd.heap.size wd w4) := HBd.out.trans (HB4.out.mono HBd.out.size)
                                have HBj4 : Hid (Below w1.heap.size w1 w4) := HBj.out.trans (HB4.out.mono HBj.out.size)
                                clear b4
                                go_wp2_with fail
                                go_roundw
                                case rel =>
                                  have hrelN : ∃ (j' : Nat) (b : Bool), j' ≤ zs.length ∧ (Value.int .i64 ((j : Int) + 1)) = .int .i64 j' ∧ (Value.bool false) = .bool b ∧ FndR wd w1.heap.size acc key ab zs (.slice (some ⟨gz, 0, none⟩) zs.length cz) j' b u7 w4 ∧ Below w1.heap.size w1 w4 := ⟨j + 1, false, by omega, by go_num, rfl, ⟨HZ4.out, Or.inl ⟨rfl, HBd4.out, HNj2.out, HRow4.out⟩⟩, HBj4.out⟩
                                  first | exact hrelN | ((repeat apply Exists.intro); refine ⟨hrelN, ?_⟩; first | rfl | exact ⟨rfl, rfl⟩ | exact ⟨rfl, rfl, rfl⟩)
                                case measure => simp [intOf]; omega
                            · have HRow : Hid (wr.ownsRow w1.heap.size 31 2 u7 (acc ++ [(key, x)]).length (flatL (acc ++ [(key, x)]))) := hrow
                              have HFs : Hid (firstP zs ab = some x) := hfx
                              have HRowA : Hid ((wr.alloc (.cells #[.string zk, .string (Ba zs[j])] 31)).ownsRow w1.heap.size 31 2 u7 (acc ++ [(key, x)]).length (flatL (acc ++ [(key, x)]))) := World.ownsRow.alloc HRow.out _
                              have HZA : Hid (OwnT w1.heap.size (wr.alloc (.cells #[.string zk, .string (Ba zs[j])] 31)) zs (.slice (some ⟨gz, 0, none⟩) zs.length cz)) := World.ownsRow.alloc HZj.out _
                              have HBA : Hid (Below w1.heap.size w1 (wr.alloc (.cells #[.string zk, .string (Ba zs[j])] 31))) := HBj.out.alloc hb1s _
                              clear hrow hfx
                              generalize Ba zs[j] = zx at *
                              go_wp2_with fail
                              go_roundw
                              case rel => exact ⟨j + 1, true, by omega, by go_num, rfl, ⟨HZA.out, Or.inr ⟨rfl, x, HFs.out, HRowA.out⟩⟩, HBA.out⟩
                              case measure => simp [intOf]; omega
                          · rcases hfr with ⟨rfl, hbd, hno, hrow⟩ | ⟨rfl, x, hfx, hrow⟩
                            · have HE : Hid (solveP l = none) := by
                                show _ = _
                                rw [HRes2.out, HA.out, HNo2.out (first_none (fun q hq => hno q hq (by omega)))]
                                rfl
                              have HBf : Hid (Below w.heap.size w wr) := HB1.out.trans (HBj.out.mono HB1.out.size)
                              clear hbd hno hrow
                              go_wp2_with fail
                              go_ret2
                              exact ⟨_, _, rfl, (HFin.out _ _ _).2 (Or.inl ⟨HE.out, rfl, rfl⟩), HBf.out⟩
                            · have HRow : Hid (wr.ownsRow w1.heap.size 31 2 u7 (acc ++ [(key, x)]).length (flatL (acc ++ [(key, x)]))) := hrow
                              have HA2 : Hid (solveKR l (ks.drop 0) = (solveKR l (ks.drop (kk + 1))).map ((acc ++ [(key, x)]) ++ ·)) := by
                                show _ = _
                                rw [HA.out, HOne2.out x hfx, Option.map_map]
                                congr 1
                                funext y
                                simp
                              clear hrow hfx
                              go_wp2_with fail
                              go_roundw
                              case rel => exact ⟨kk + 1, acc ++ [(key, x)], by omega, by go_num, by simp; omega, HA2.out, HRow.out, HBj.out⟩
                              case measure => simp [intOf]; omega
                  · have HCz : Hid (choicesR ab = sortR r.2.2) := by
                      show _ = _
                      rw [List.drop_zero] at hyes
                      rw [HChoice.out, hyes]
                    have hrl := HVal.out r (HAll.out r hrm) (by have := List.find?_some hyes; simpa using this)
                    have hsl := (sortR_perm r.2.2).length_eq
                    have HZl : Hid ((sortR r.2.2).length ≤ 81) := by show _ ≤ _; rw [hsl]; have := hrl.2; omega
                    obtain ⟨gz, cz, hzf, hzcc0, hz99⟩ := OwnT.at hown (i := 0) (by rw [hsl]; exact List.length_pos_iff.2 hrl.1)
                    subst hzf
                    clear hz99
                    have HZs : Hid (OwnT w1.heap.size wr (sortR r.2.2) (.slice (some ⟨gz, 0, none⟩) (sortR r.2.2).length cz)) := hown
                    have HZc : Hid ((sortR r.2.2).length ≤ cz) := hzcc0
                    clear hown hzcc0 hrl hsl hyes hrm HVr HVb
                    generalize sortR r.2.2 = zs at *
                    obtain ⟨wd, hwd⟩ : ∃ wd, wd = wr := ⟨_, rfl⟩
                    subst hwd
                    have HZat : Hid (∀ wj, OwnT w1.heap.size wj zs (.slice (some ⟨gz, 0, none⟩) zs.length cz) → ∀ j (hj : j < zs.length), wj.cell? ⟨gz, j, none⟩ = some (.string (Ba zs[j]))) := fun wj h j hj => by
                      obtain ⟨g9, c9, h8, h9, h10⟩ := OwnT.at h hj
                      injection h8 with e1 e2 e3
                      injection e1 with e1
                      injection e1 with e1
                      rw [e1]
                      exact h10
                    have HNo2 : Hid (firstP zs ab = none → solveKR l (ks.drop kk) = none) := fun h => HNo.out (by rw [HCz.out]; exact h)
                    have HOne2 : Hid (∀ v, firstP zs ab = some v → solveKR l (ks.drop kk) = (solveKR l (ks.drop (kk + 1))).map ((key, v) :: ·)) := fun v h => HOne.out v (by rw [HCz.out]; exact h)
                    have hzl9 : zs.length ≤ 81 := HZl.out
                    have hzcc : zs.length ≤ cz := HZc.out
                    have HFit : Hid (∀ w2 v, Below wd.heap.size wd w2 → Calls Tryz.prog 44 #[.slice pa ab.length ca, .slice (some ⟨w2.heap.size, 0, none⟩) 1 1] (w2.alloc (.cells #[.string (Ba key), .string (Ba v)] 31)) fun e w' => e = .returned (.bool (allH ab (some v))) ∧ Below (w2.alloc (.cells #[.string (Ba key), .string (Ba v)] 31)).heap.size (w2.alloc (.cells #[.string (Ba key), .string (Ba v)] 31)) w') := fun w2 v hb => by
                      rw [← HOn.out v]
                      have hba : Below wd.heap.size wd (w2.alloc (.cells #[.string (Ba key), .string (Ba v)] 31)) := hb.alloc hb.size _
                      exact fitsR_any _ _ ab [(key, v)] _ (HAq.out.below hba) (labs_new w2 key v) (fun r hr => HKd.out r (HAll.out r hr)) (by simp)
                    clear HCz HNo HOne HZl HZc HAq
                    have hfl1 : ∀ x, flatL (acc ++ [(key, x)]) = flatL acc ++ [.string (Ba key), .string (Ba x)] := fun x => flatL_snoc acc (key, x)
                    have HFl : Hid (_) := hfl1
                    clear hfl1
                    go_wp2_with fail
                    rw [eql_slice_nil _ 33 9 (some ⟨gz, 0, none⟩) _ _ Tryz.underlying33]
                    go_wp2_with fail
                    go_loopw [7, 16, 102] (fun x f i wj => ∃ (j : Nat) (b : Bool), j ≤ zs.length ∧ i = .int .i64 j ∧ f = .bool b ∧ FndR wd w1.heap.size acc key ab zs (.slice (some ⟨gz, 0, none⟩) zs.length cz) j b x wj ∧ Below w1.heap.size w1 wj) (fun _ _ i _ => zs.length - (intOf i).toNat)
                    case atStart => exact ⟨0, false, Nat.zero_le _, rfl, rfl, ⟨HZs.out, Or.inl ⟨rfl, Below.refl _ _, (fun q _ h => absurd h (Nat.not_lt_zero _)), HOq.out⟩⟩, HBq.out⟩
                    case round =>
                      obtain ⟨j, b, hjz, rfl, rfl, ⟨hzs, hfr⟩, hb1⟩ := hrel
                      have HZj : Hid (OwnT w1.heap.size wr zs (.slice (some ⟨gz, 0, none⟩) zs.length cz)) := hzs
                      have HBj : Hid (Below w1.heap.size w1 wr) := hb1
                      have hb1s := hb1.size
                      clear hzs hb1
                      by_cases hjl : j < zs.length
                      · have hcz := HZat.out wr HZj.out j hjl
                        rcases hfr with ⟨rfl, hbd, hno, hrow⟩ | ⟨rfl, x, hfx, hrow⟩
                        · have HBd : Hid (Below wd.heap.size wd wr) := hbd
                          have HNj : Hid (∀ q (hq : q < zs.length), q < j → allH ab (some zs[q]) = false) := hno
                          have HRow : Hid (wr.ownsRow w1.heap.size 31 2 u7 acc.length (flatL acc)) := hrow
                          have HFj : Hid (Calls Tryz.prog 44 #[.slice pa ab.length ca, .slice (some ⟨(wr.alloc (.cells #[.string (Ba key), .string (Ba zs[j])] 31)).heap.size, 0, none⟩) 1 1] ((wr.alloc (.cells #[.string (Ba key), .string (Ba zs[j])] 31)).alloc (.cells #[.string (Ba key), .string (Ba zs[j])] 31)) fun e w' => e = .returned (.bool (allH ab (some zs[j]))) ∧ Below ((wr.alloc (.cells #[.string (Ba key), .string (Ba zs[j])] 31)).alloc (.cells #[.string (Ba key), .string (Ba zs[j])] 31)).heap.size ((wr.alloc (.cells #[.string (Ba key), .string (Ba zs[j])] 31)).alloc (.cells #[.string (Ba key), .string (Ba zs[j])] 31)) w') := HFit.out _ _ (HBd.out.alloc HBd.out.size _)
                          have hsz1 : (wr.alloc (.cells #[.string (Ba key), .string (Ba zs[j])] 31)).heap.size = wr.heap.size + 1 := by simp
                          have HBa2 : Hid (Below wr.heap.size wr ((wr.alloc (.cells #[.string (Ba key), .string (Ba zs[j])] 31)).alloc (.cells #[.string (Ba key), .string (Ba zs[j])] 31))) := ((Below.refl _ _).alloc (Nat.le_refl _) _).alloc (by simp) _
                          have HBx1 : Hid (∀ w2, Below ((wr.alloc (.cells #[.string (Ba key), .string (Ba zs[j])] 31)).alloc (.cells #[.string (Ba key), .string (Ba zs[j])] 31)).heap.size ((wr.alloc (.cells #[.string (Ba key), .string (Ba zs[j])] 31)).alloc (.cells #[.string (Ba key), .string (Ba zs[j])] 31)) w2 → w2.cell? ⟨wr.heap.size, 0, none⟩ = some (.string (Ba key)) ∧ w2.cell? ⟨wr.heap.size, 1, none⟩ = some (.string (Ba zs[j]))) := fun w2 hb => by
                            have hb2 : Below (wr.alloc (.cells #[.string (Ba key), .string (Ba zs[j])] 31)).heap.size (wr.alloc (.cells #[.string (Ba key), .string (Ba zs[j])] 31)) w2 := ((Below.refl _ _).alloc (Nat.le_refl _) _).trans (hb.mono (by simp))
                            exact box2 hb2
                          rw [hsz1] at HFj
                          rw [← HKb.out] at HFj HBa2 HBx1 hsz1
                          clear hbd hno hrow
                          cases hx : allH ab (some zs[j]) with
                          | true =>
                            rw [hx] at HFj
                            have HFs : Hid (firstP zs ab = some zs[j]) := first_some hjl HNj.out hx
                            have HFlj : Hid (flatL (acc ++ [(key, zs[j])]) = flatL acc ++ [.string zk, .string (Ba zs[j])]) := by show _ = _; rw [HFl.out, HKb.out]
                            clear hx HNj
                            generalize zs[j] = x at *
                            generalize Ba x = zx at *
                            go_wp2_with fail
                            refine Calls.mono HFj.out ?_
                            rintro e w4 ⟨rfl, b4⟩
                            obtain ⟨k0', k1'⟩ := HBx1.out w4 b4
                            have HB4 : Hid (Below wr.heap.size wr w4) := HBa2.out.trans (b4.mono HBa2.out.size)
                            have HRow4 : Hid (w4.ownsRow w1.heap.size 31 2 u7 acc.length (flatL acc)) := row_below HRow.out HB4.out
                            have HZ4 : Hid (OwnT w1.heap.size w4 zs (.slice (some ⟨gz, 0, none⟩) zs.length cz)) := row_below HZj.out HB4.out
                            have h4s := HB4.out.size
                            clear b4
                            go_wp2_with (at_builtin; refine wpList_append_own _ rfl _ _ 23 rfl w1.heap.size 31 i0 (.agg #[.string ⟨#[]⟩, .string ⟨#[]⟩]) 2 32 Tryz.underlying23 hi hz0 hz1 hz2 rfl (by decide) _ _ _ rfl (World.ownsRow.alloc HRow4.out _) ⟨w4.heap.size, 0, none⟩ 1 1 [.string zk, .string zx] rfl rfl (new2 rfl) two2 (by unfold maxLen; omega) (by omega) (by simp; omega) ?_)
                            intro v' w5 hown' hgrow _
                            have HRow5 : Hid (w5.ownsRow w1.heap.size 31 2 v' (acc ++ [(key, x)]).length (flatL (acc ++ [(key, x)]))) := by
                              show w5.ownsRow _ _ _ _ _ _
                              rw [HFlj.out, List.length_append]
                              exact hown'
                            have HZ5 : Hid (OwnT w1.heap.size w5 zs (.slice (some ⟨gz, 0, none⟩) zs.length cz)) := World.ownsRow.kept (World.ownsRow.alloc HZ4.out _) hgrow (rows_apart2 HZ4.out HRow4.out (by decide))
                            have HB5 : Hid (Below w1.heap.size w1 w5) := ((HBj.out.trans (HB4.out.mono HBj.out.size)).alloc (by omega) _).grown hgrow (by simp; omega) (fun b hb => (World.ownsRow.lt HRow4.out b hb).1)
                            clear hown' hgrow
                            go_wp2_with fail
                            go_roundw
                            case rel =>
                              have hrelN : ∃ (j' : Nat) (b : Bool), j' ≤ zs.length ∧ (Value.int .i64 ((j : Int) + 1)) = .int .i64 j' ∧ (Value.bool true) = .bool b ∧ FndR wd w1.heap.size acc key ab zs (.slice (some ⟨gz, 0, none⟩) zs.length cz) j' b v' w5 ∧ Below w1.heap.size w1 w5 := ⟨j + 1, true, by omega, by go_num, rfl, ⟨HZ5.out, Or.inr ⟨rfl, x, HFs.out, HRow5.out⟩⟩, HB5.out⟩
                              first | exact hrelN | ((repeat apply Exists.intro); refine ⟨hrelN, ?_⟩; first | rfl | exact ⟨rfl, rfl⟩ | exact ⟨rfl, rfl, rfl⟩)
                            case measure => simp [intOf]; omega
                          | false =>
                            rw [hx] at HFj
                            have HNj2 : Hid (∀ q (hq : q < zs.length), q < j + 1 → allH ab (some zs[q]) = false) := fun q hq h => by
                              rcases Nat.lt_succ_iff_lt_or_eq.1 h with h | h
                              · exact HNj.out q hq h
                              · subst h; exact hx
                            clear hx HNj
                            generalize Ba zs[j] = zx at *
                            go_wp2_with fail
                            refine Calls.mono HFj.out ?_
                            rintro e w4 ⟨rfl, b4⟩
                            have HB4 : Hid (Below wr.heap.size wr w4) := HBa2.out.trans (b4.mono HBa2.out.size)
                            have HRow4 : Hid (w4.ownsRow w1.heap.size 31 2 u7 acc.length (flatL acc)) := row_below HRow.out HB4.out
                            have HZ4 : Hid (OwnT w1.heap.size w4 zs (.slice (some ⟨gz, 0, none⟩) zs.length cz)) := row_below HZj.out HB4.out
                            have HBd4 : Hid (Below wd.heap.size wd w4) := HBd.out.trans (HB4.out.mono HBd.out.size)
                            have HBj4 : Hid (Below w1.heap.size w1 w4) := HBj.out.trans (HB4.out.mono HBj.out.size)
                            clear b4
                            go_wp2_with fail
                            go_roundw
                            case rel =>
                              have hrelN : ∃ (j' : Nat) (b : Bool), j' ≤ zs.length ∧ (Value.int .i64 ((j : Int) + 1)) = .int .i64 j' ∧ (Value.bool false) = .bool b ∧ FndR wd w1.heap.size acc key ab zs (.slice (some ⟨gz, 0, none⟩) zs.length cz) j' b u7 w4 ∧ Below w1.heap.size w1 w4 := ⟨j + 1, false, by omega, by go_num, rfl, ⟨HZ4.out, Or.inl ⟨rfl, HBd4.out, HNj2.out, HRow4.out⟩⟩, HBj4.out⟩
                              first | exact hrelN | ((repeat apply Exists.intro); refine ⟨hrelN, ?_⟩; first | rfl | exact ⟨rfl, rfl⟩ | exact ⟨rfl, rfl, rfl⟩)
                            case measure => simp [intOf]; omega
                        · have HRow : Hid (wr.ownsRow w1.heap.size 31 2 u7 (acc ++ [(key, x)]).length (flatL (acc ++ [(key, x)]))) := hrow
                          have HFs : Hid (firstP zs ab = some x) := hfx
                          have HRowA : Hid ((wr.alloc (.cells #[.string zk, .string (Ba zs[j])] 31)).ownsRow w1.heap.size 31 2 u7 (acc ++ [(key, x)]).length (flatL (acc ++ [(key, x)]))) := World.ownsRow.alloc HRow.out _
                          have HZA : Hid (OwnT w1.heap.size (wr.alloc (.cells #[.string zk, .string (Ba zs[j])] 31)) zs (.slice (some ⟨gz, 0, none⟩) zs.length cz)) := World.ownsRow.alloc HZj.out _
                          have HBA : Hid (Below w1.heap.size w1 (wr.alloc (.cells #[.string zk, .string (Ba zs[j])] 31))) := HBj.out.alloc hb1s _
                          clear hrow hfx
                          generalize Ba zs[j] = zx at *
                          go_wp2_with fail
                          go_roundw
                          case rel => exact ⟨j + 1, true, by omega, by go_num, rfl, ⟨HZA.out, Or.inr ⟨rfl, x, HFs.out, HRowA.out⟩⟩, HBA.out⟩
                          case measure => simp [intOf]; omega
                      · rcases hfr with ⟨rfl, hbd, hno, hrow⟩ | ⟨rfl, x, hfx, hrow⟩
                        · have HE : Hid (solveP l = none) := by
                            show _ = _
                            rw [HRes2.out, HA.out, HNo2.out (first_none (fun q hq => hno q hq (by omega)))]
                            rfl
                          have HBf : Hid (Below w.heap.size w wr) := HB1.out.trans (HBj.out.mono HB1.out.size)
                          clear hbd hno hrow
                          go_wp2_with fail
                          go_ret2
                          exact ⟨_, _, rfl, (HFin.out _ _ _).2 (Or.inl ⟨HE.out, rfl, rfl⟩), HBf.out⟩
                        · have HRow : Hid (wr.ownsRow w1.heap.size 31 2 u7 (acc ++ [(key, x)]).length (flatL (acc ++ [(key, x)]))) := hrow
                          have HA2 : Hid (solveKR l (ks.drop 0) = (solveKR l (ks.drop (kk + 1))).map ((acc ++ [(key, x)]) ++ ·)) := by
                            show _ = _
                            rw [HA.out, HOne2.out x hfx, Option.map_map]
                            congr 1
                            funext y
                            simp
                          clear hrow hfx
                          go_wp2_with fail
                          go_roundw
                          case rel => exact ⟨kk + 1, acc ++ [(key, x)], by omega, by go_num, by simp; omega, HA2.out, HRow.out, HBj.out⟩
                          case measure => simp [intOf]; omega
                · obtain ⟨jj, rfl⟩ : ∃ jj, j = jj + 1 := ⟨j - 1, by omega⟩
                  have hz1 : z = (jj : Int) := by omega
                  subst hz1
                  have hjl2 : jj < ab.length := by omega
                  obtain ⟨g, o, q, d, rfl, hlc, hc0⟩ := HCa.out jj hjl2
                  obtain ⟨c1, c2, c3, c4⟩ := hc0 wr HVb.out
                  have hmem : ab[jj] ∈ ab := List.getElem_mem _
                  clear hc0 hz hj0
                  by_cases hk1 : ab[jj].2.1 = 1
                  · have hvl := HVal.out _ (HAll.out _ hmem) hk1
                    have hkb : (ab[jj].2.1 == 1) = true := by simpa using hk1
                    have HSo : Hid (Calls Tryz.prog 42 #[.slice q ab[jj].2.2.length d] wr fun e w' => ∃ u, e = .returned u ∧ OwnT wr.heap.size w' (sortR ab[jj].2.2) u ∧ Below wr.heap.size wr w') := rfsort_any _ _ wr (strs_tsl c4 hvl.1) (by have := hvl.2; omega)
                    have HNx : Hid (∀ u w', OwnT w1.heap.size w' (sortR ab[jj].2.2) u → ValR ab w1.heap.size jj u w') := fun u w' h => Or.inr ⟨_, find_yes hjl2 hk1, hmem, h⟩
                    clear c4 hmem hk1 hvl HVr
                    generalize ab[jj] = y at *
                    obtain ⟨yk, yd, yv⟩ := y
                    dsimp only at *
                    generalize yv.length = nv at *
                    generalize Ba yk = zy at *
                    go_wp2_with fail
                    refine Calls.mono HSo.out ?_
                    rintro e w3 ⟨u, rfl, hu, b3⟩
                    have hwss : w1.heap.size ≤ wr.heap.size := by have := HVb.out.size; omega
                    have HVr3 : Hid (ValR ab w1.heap.size jj u w3) := HNx.out u w3 (OwnT.low hu hwss)
                    have HVb3 : Hid (Below wa.heap.size wa w3) := HVb.out.trans (b3.mono HVb.out.size)
                    clear hu b3
                    go_wp2_with fail
                    go_roundw
                    case rel => exact ⟨jj, (jj : Int) - 1, by omega, by go_num, rfl, HVr3.out, HVb3.out⟩
                    case measure => first | (simp [intOf]; done) | (simp [intOf]; omega)
                  · have hkb : (ab[jj].2.1 == 1) = false := by simpa using hk1
                    have HVr3 : Hid (ValR ab w1.heap.size jj u13 wr) := by
                      have h9 := HVr.out
                      unfold ValR at h9
                      rw [← find_no hjl2 hk1] at h9
                      exact h9
                    clear c4 hmem hk1 HVr
                    generalize ab[jj] = y at *
                    obtain ⟨yk, yd, yv⟩ := y
                    dsimp only at *
                    generalize yv.length = nv at *
                    generalize Ba yk = zy at *
                    go_wp2_with fail
                    go_roundw
                    case rel => exact ⟨jj, (jj : Int) - 1, by omega, by go_num, rfl, HVr3.out, HVb.out⟩
                    case measure => first | (simp [intOf]; done) | (simp [intOf]; omega)
        · have HE : Hid (solveP l = some acc) := by
            show _ = _
            rw [HRes2.out, HA.out, List.drop_eq_nil_of_le (by omega)]
            simp [solveKR]
          have HL : Hid (Labs wr u7 acc) := OwnL.labs HO.out
          have HBf : Hid (Below w.heap.size w wr) := HB1.out.trans (HBr1.out.mono HB1.out.size)
          go_wp2_with fail
          go_ret2
          exact ⟨_, _, rfl, (HFin.out _ _ _).2 (Or.inr ⟨acc, HE.out, rfl, HL.out⟩), HBf.out⟩
end Go.Proofs.YtgaopmdpcjcooaaGreatDoor
