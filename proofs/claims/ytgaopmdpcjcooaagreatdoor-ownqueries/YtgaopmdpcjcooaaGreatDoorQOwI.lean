/- Several texts in one: QEqL, QSame, QStrange, QOwnI, QOwnF. -/
import Derived.Test.YtgaopmdpcjcooaaGreatDoorQMem
import Derived.RegionTactic
import Derived.Laws.StructEq
import Derived.BigRegion
import Derived.Test.YtgaopmdpcjcooaaGreatDoorQEq
import Derived.Test.YtgaopmdpcjcooaaGreatDoorQCheck
import Derived.Test.YtgaopmdpcjcooaaGreatDoorQSolveO
import Derived.Test.YtgaopmdpcjcooaaGreatDoorQOwnT
import Derived.Test.YtgaopmdpcjcooaaGreatDoorQParseR
import Derived.Laws.AppendOwnNone
/- The document's Eq at labels that are alike. -/
namespace Go.Proofs.YtgaopmdpcjcooaaGreatDoor
open Go.RowKit
set_option linter.unusedVariables false
set_option linter.unusedSimpArgs false
theorem eqL_one (w : World) (a b : ByteArray) : (Op.equalIn 10000 31 (.agg #[.string a, .string b]) (.agg #[.string a, .string b])).run Tryz.prog w = .ok true w := by
  have u3 := Tryz.underlying9
  have a3 := Tryz.isAgg9
  have z3 := Tryz.sizeOf9
  have hS : Tryz.prog.underlying 31 = some (.struct (Tryz.prog.fieldsOf 31)) := by kernel_rfl
  have hp : Tryz.prog.stoodInHeld 31 = false := by kernel_rfl
  rw [show (10000 : Nat) = 9999 + 1 from rfl, run_equalIn_agg w 9999 31 _ _ hS hp]
  simp only [Program.fieldsOf, Tryz.underlying31]
  go_simp
set_option maxRecDepth 100000 in
set_option maxHeartbeats 2000000 in
theorem eqL_yes (a b : Value) (l : List Lb) (w : World) (ha : Labs w a l) (hb : Labs w b l) :
    Calls Tryz.prog 9 #[a, b] w fun e w' => e = .returned (.bool true) ∧ Below w.heap.size w w' := by
  obtain ⟨p, c, rfl, hn, hca⟩ := ha.open
  obtain ⟨p2, c2, rfl, hn2, hcb⟩ := hb.open
  have HA : Hid (∀ k (hk : k < l.length), ∃ g o, p = some ⟨g, o, none⟩ ∧ l.length ≤ c ∧ ∀ w1, Below w.heap.size w w1 → ∀ j (hj : j < l.length), w1.cell? ⟨g, o + j * 2, none⟩ = some (.string (Ba l[j].1)) ∧ w1.cell? ⟨g, o + j * 2 + 1, none⟩ = some (.string (Ba l[j].2))) := hca
  have HB : Hid (∀ k (hk : k < l.length), ∃ g o, p2 = some ⟨g, o, none⟩ ∧ l.length ≤ c2 ∧ ∀ w1, Below w.heap.size w w1 → ∀ j (hj : j < l.length), w1.cell? ⟨g, o + j * 2, none⟩ = some (.string (Ba l[j].1)) ∧ w1.cell? ⟨g, o + j * 2 + 1, none⟩ = some (.string (Ba l[j].2))) := hcb
  clear hca hcb ha hb
  unfold maxLen at hn
  go_enter Tryz.func9, Tryz.ntmps9
  go_wp2_with fail
  go_loopw [14] (fun i wr => ∃ k : Nat, k ≤ l.length ∧ i = .int .i64 k ∧ Below w.heap.size w wr) (fun i _ => l.length - (intOf i).toNat)
  case atStart => exact ⟨0, Nat.zero_le _, rfl, Below.refl _ _⟩
  case round =>
    obtain ⟨k, hk, rfl, hbel⟩ := hrel
    have HBe : Hid (Below w.heap.size w wr) := hbel
    clear hbel
    by_cases hlt : k < l.length
    · obtain ⟨g, o, rfl, hlc, hc0⟩ := HA.out k hlt
      obtain ⟨g2, o2, rfl, hlc2, hc02⟩ := HB.out k hlt
      obtain ⟨c1, c2'⟩ := hc0 wr HBe.out k hlt
      obtain ⟨e1, e2'⟩ := hc02 wr HBe.out k hlt
      have hg : g2 < wr.heap.size ∧ g < wr.heap.size := by
        constructor
        · rcases Nat.lt_or_ge g2 wr.heap.size with h | h
          · exact h
          · simp [World.cell?, Array.getElem?_eq_none h] at e1
        · rcases Nat.lt_or_ge g wr.heap.size with h | h
          · exact h
          · simp [World.cell?, Array.getElem?_eq_none h] at c1
      have HBx : Hid (Below w.heap.size w (wr.alloc (.cells #[.string (Ba l[k].1), .string (Ba l[k].2)] 31))) := HBe.out.alloc HBe.out.size _
      have hba : Below wr.heap.size wr (wr.alloc (.cells #[.string (Ba l[k].1), .string (Ba l[k].2)] 31)) := (Below.refl _ _).alloc (Nat.le_refl _) _
      have E1 := (hba.cell (p := ⟨g2, o2 + k * 2, none⟩) hg.1).trans e1
      have E2 := (hba.cell (p := ⟨g2, o2 + k * 2 + 1, none⟩) hg.1).trans e2'
      clear hc0 hc02 e1 e2' hba hg
      generalize l[k] = x at *
      obtain ⟨xk, xv⟩ := x
      dsimp only at *
      generalize Ba xk = z at *
      generalize Ba xv = y at *
      have hne := fun w1 => eqL_one w1 z y
      go_wp2_with fail
      go_region_with fail
      all_goals
        have HB3 : Hid (Below w.heap.size w (wr.alloc (.cells #[.string z, .string y] 31)).drew) := HBx.out.drew
        go_wp2_with fail
        go_roundw
        case rel => exact ⟨k + 1, by omega, by go_num, HB3.out⟩
        case measure => simp [intOf]; omega
    · go_wp2_with fail
      go_ret
      exact ⟨rfl, HBe.out⟩
end Go.Proofs.YtgaopmdpcjcooaaGreatDoor
/- Contracts over this translation: the document's SameReq and SameAll, at parts that are the same. -/
namespace Go.Proofs.YtgaopmdpcjcooaaGreatDoor
open Go.RowKit
set_option linter.unusedVariables false
set_option linter.unusedSimpArgs false
set_option maxRecDepth 100000 in
set_option maxHeartbeats 2000000 in
theorem sameReq_yes (r : Rq) (p1 p2 : Option Addr) (n1 n2 c1 c2 : Nat) (w : World) (h1 : Strs w (.slice p1 n1 c1) r.2.2) (h2 : Strs w (.slice p2 n2 c2) r.2.2) :
    Calls Tryz.prog 15 #[.agg #[.string (Ba r.1), .int .i64 r.2.1, .slice p1 n1 c1], .agg #[.string (Ba r.1), .int .i64 r.2.1, .slice p2 n2 c2]] w fun e w' => e = .returned (.bool true) ∧ Below w.heap.size w w' := by
  obtain ⟨rk, rd, rv⟩ := r
  dsimp only at *
  have hba : Below w.heap.size w ((w.alloc (.cells #[.string (Ba rk), .int .i64 rd, .slice p1 n1 c1] 35)).alloc (.cells #[.string (Ba rk), .int .i64 rd, .slice p2 n2 c2] 35)) := ((Below.refl _ _).alloc (Nat.le_refl _) _).alloc (by simp) _
  have HB : Hid (Below w.heap.size w ((w.alloc (.cells #[.string (Ba rk), .int .i64 rd, .slice p1 n1 c1] 35)).alloc (.cells #[.string (Ba rk), .int .i64 rd, .slice p2 n2 c2] 35))) := hba
  have HE : Hid (∀ w1, Below w.heap.size w w1 → Calls Tryz.prog 30 #[.slice p1 n1 c1, .slice p2 n2 c2] w1 fun e w' => e = .returned (.bool true) ∧ Below w1.heap.size w1 w') := fun w1 hb => by
    have := rfeq_any _ _ rv rv w1 (h1.below hb) (h2.below hb)
    rw [beq_self_eq_true] at this
    exact this
  clear h1 h2 hba
  generalize Ba rk = z at *
  go_enter Tryz.func15, Tryz.ntmps15
  go_wp2_with (go_at_call 30; refine (HE.out _ HB.out).mono ?_; rintro e w' ⟨rfl, hbb⟩)
  go_ret
  exact ⟨rfl, HB.out.trans (hbb.mono HB.out.size)⟩
set_option maxRecDepth 100000 in
set_option maxHeartbeats 2000000 in
theorem sameAll_yes (a b : Value) (l : List Rq) (w : World) (ha : Reqs w a l) (hb : Reqs w b l) :
    Calls Tryz.prog 19 #[a, b, .func (.func 15) #[] #[]] w fun e w' => e = .returned (.bool true) ∧ Below w.heap.size w w' := by
  obtain ⟨p, c, rfl, hn, hca⟩ := ha.open
  obtain ⟨p2, c2, rfl, hn2, hcb⟩ := hb.open
  have HA : Hid (∀ k (hk : k < l.length), ∃ g o q d, p = some ⟨g, o, none⟩ ∧ l.length ≤ c ∧ ∀ w1, Below w.heap.size w w1 → w1.cell? ⟨g, o + k * 3, none⟩ = some (.string (Ba l[k].1)) ∧ w1.cell? ⟨g, o + k * 3 + 1, none⟩ = some (.int .i64 l[k].2.1) ∧ w1.cell? ⟨g, o + k * 3 + 2, none⟩ = some (.slice q l[k].2.2.length d) ∧ Strs w1 (.slice q l[k].2.2.length d) l[k].2.2) := hca
  have HB : Hid (∀ k (hk : k < l.length), ∃ g o q d, p2 = some ⟨g, o, none⟩ ∧ l.length ≤ c2 ∧ ∀ w1, Below w.heap.size w w1 → w1.cell? ⟨g, o + k * 3, none⟩ = some (.string (Ba l[k].1)) ∧ w1.cell? ⟨g, o + k * 3 + 1, none⟩ = some (.int .i64 l[k].2.1) ∧ w1.cell? ⟨g, o + k * 3 + 2, none⟩ = some (.slice q l[k].2.2.length d) ∧ Strs w1 (.slice q l[k].2.2.length d) l[k].2.2) := hcb
  clear hca hcb ha hb
  unfold maxLen at hn
  go_enter Tryz.func19, Tryz.ntmps19
  go_wp2_with fail
  go_loopw [15] (fun i wr => ∃ k : Nat, k ≤ l.length ∧ i = .int .i64 k ∧ Below w.heap.size w wr) (fun i _ => l.length - (intOf i).toNat)
  case atStart => exact ⟨0, Nat.zero_le _, rfl, Below.refl _ _⟩
  case round =>
    obtain ⟨k, hk, rfl, hbel⟩ := hrel
    have HBe : Hid (Below w.heap.size w wr) := hbel
    clear hbel
    by_cases hlt : k < l.length
    · obtain ⟨g, o, q, d, rfl, hlc, hc0⟩ := HA.out k hlt
      obtain ⟨g2, o2, q2, d2, rfl, hlc2, hc02⟩ := HB.out k hlt
      obtain ⟨c1, c2', c3, c4⟩ := hc0 wr HBe.out
      obtain ⟨e1, e2', e3, e4⟩ := hc02 wr HBe.out
      have HCall : Hid (∀ w1, Below wr.heap.size wr w1 → Calls Tryz.prog 15 #[.agg #[.string (Ba l[k].1), .int .i64 l[k].2.1, .slice q l[k].2.2.length d], .agg #[.string (Ba l[k].1), .int .i64 l[k].2.1, .slice q2 l[k].2.2.length d2]] w1 fun e w' => e = .returned (.bool true) ∧ Below w1.heap.size w1 w') := fun w1 hb => sameReq_yes _ _ _ _ _ _ _ w1 (c4.below hb) (e4.below hb)
      clear hc0 hc02 c4 e4
      generalize l[k] = x at *
      obtain ⟨xk, xd, xv⟩ := x
      dsimp only at *
      generalize xv.length = nv at *
      generalize Ba xk = z at *
      go_wp2_with fail
      go_region_with (go_at_call 15; refine Calls.mono (HCall.out _ (Below.refl _ _).drew) ?_; rintro e w3 ⟨rfl, b3⟩)
      all_goals
        have HB3 : Hid (Below w.heap.size w w3) := HBe.out.drew.trans (b3.mono HBe.out.drew.size)
        clear b3
        go_wp2_with fail
        go_roundw
        case rel => exact ⟨k + 1, by omega, by go_num, HB3.out⟩
        case measure => simp [intOf]; omega
    · go_wp2_with fail
      go_ret
      exact ⟨rfl, HBe.out⟩
end Go.Proofs.YtgaopmdpcjcooaaGreatDoor
/- The walk of the law QueryNot over this translation. -/
namespace Go.Proofs.YtgaopmdpcjcooaaGreatDoor
open Go.RowKit
set_option linter.unusedVariables false
set_option linter.unusedSimpArgs false
theorem reqs_one {w : World} {b : Nat} {r : Rq} {u : Value} (h0 : w.cell? ⟨b, 0, none⟩ = some (.string (Ba r.1))) (h1 : w.cell? ⟨b, 1, none⟩ = some (.int .i64 r.2.1)) (h2 : w.cell? ⟨b, 2, none⟩ = some u) (hu : Strs w u r.2.2) (hb : b < w.heap.size) :
    Reqs w (.slice (some ⟨b, 0, none⟩) 1 1) [r] := by
  refine Or.inr ⟨b, 0, 1, rfl, Nat.le_refl _, by decide, hb, fun i r' hr => ?_⟩
  match i, hr with
  | 0, hr =>
    simp only [List.getElem?_cons_zero, Option.some.injEq] at hr
    subst hr
    exact ⟨h0, h1, u, h2, hu⟩
theorem reqs_new (w : World) (r : Rq) (u : Value) (hu : Strs w u r.2.2) : Reqs (w.alloc (.cells #[.string (Ba r.1), .int .i64 r.2.1, u] 35)) (.slice (some ⟨w.heap.size, 0, none⟩) 1 1) [r] := by
  obtain ⟨a, b, c⟩ := box3 (w := w) (a := .string (Ba r.1)) (b := .int .i64 r.2.1) (c := u) (t := 35) (Below.refl _ _)
  exact reqs_one a b c (hu.below ((Below.refl _ _).alloc (Nat.le_refl _) _)) (by simp)
theorem chk_strange : chkI [([], 0, [])] = 6 := by
  have h : kI [] = 6 := by decide
  unfold chkI
  rw [if_neg (by simp), firstE]
  have hp : partI ([], 0, []) = 6 := by
    unfold partI
    rw [if_pos (by simp [h]), h]
  rw [if_neg (by simp [hp]), hp]
set_option maxHeartbeats 1000000 in
theorem strange_any (w : World) (hR : Room w) : Calls Tryz.prog 12 #[] w fun e w' => e = .returned (.bool true) ∧ Below w.heap.size w w' := by
  have hb : Below w.heap.size w (w.alloc (.cells #[.string ⟨#[]⟩, .int .i64 0, .slice none 0 0] 35)) := (Below.refl _ _).alloc (Nat.le_refl _) _
  have HC : Hid (Calls Tryz.prog 20 #[.slice (some ⟨w.heap.size, 0, none⟩) 1 1] (w.alloc (.cells #[.string ⟨#[]⟩, .int .i64 0, .slice none 0 0] 35)) fun e w' => e = .returned (.int .i64 6) ∧ Below (w.alloc (.cells #[.string ⟨#[]⟩, .int .i64 0, .slice none 0 0] 35)).heap.size (w.alloc (.cells #[.string ⟨#[]⟩, .int .i64 0, .slice none 0 0] 35)) w') := by
    have h := chk_any (.slice (some ⟨w.heap.size, 0, none⟩) 1 1) [([], 0, [])] (w.alloc (.cells #[.string ⟨#[]⟩, .int .i64 0, .slice none 0 0] 35)) (reqs_new w ([], 0, []) (.slice none 0 0) (Or.inl ⟨rfl, _, _, rfl⟩)) (fun r hr => by
      simp only [List.mem_singleton] at hr
      subst hr
      exact ⟨Nat.zero_le _, fun v hv => by simp at hv⟩) (hR.below hb)
    rw [chk_strange] at h
    exact h
  have HB : Hid (Below w.heap.size w (w.alloc (.cells #[.string ⟨#[]⟩, .int .i64 0, .slice none 0 0] 35))) := hb
  clear hR hb
  go_enter Tryz.func12, Tryz.ntmps12
  go_wp2_with fail
  refine Calls.mono HC.out ?_
  rintro e w1 ⟨rfl, b⟩
  have HB1 : Hid (Below w.heap.size w w1) := HB.out.trans (b.mono HB.out.size)
  clear b
  go_wp2_with fail
  go_ret
  exact ⟨rfl, HB1.out⟩
end Go.Proofs.YtgaopmdpcjcooaaGreatDoor
/- Labels that are copied; parts of one's own whose texts are of one's own and have two marks behind them. -/
namespace Go.Proofs.YtgaopmdpcjcooaaGreatDoor
open Go.RowKit
set_option linter.unusedVariables false
set_option linter.unusedSimpArgs false
theorem flatL_len (L : List Lb) : (flatL L).length = L.length * 2 := by
  induction L with
  | nil => rfl
  | cons p r ih =>
    have : flatL (p :: r) = [.string (Ba p.1), .string (Ba p.2)] ++ flatL r := by simp [flatL]
    rw [this, List.length_append, ih]
    simp
    omega
theorem flatL_one (L : List Lb) : ∀ u ∈ flatL L, u.oneCell' = true := by
  intro u hu
  unfold flatL at hu
  obtain ⟨p, hp, hu⟩ := List.mem_flatMap.1 hu
  simp only [List.mem_cons, List.not_mem_nil, or_false] at hu
  rcases hu with rfl | rfl <;> rfl
theorem flatL_cells {w : World} {g : Nat} : ∀ (L : List Lb) (o : Nat), (∀ (i : Nat) (p : Lb), L[i]? = some p → w.cell? ⟨g, o + i * 2, none⟩ = some (.string (Ba p.1)) ∧ w.cell? ⟨g, o + i * 2 + 1, none⟩ = some (.string (Ba p.2))) →
    ∀ (j : Nat) (u : Value), (flatL L)[j]? = some u → w.cell? ⟨g, o + j, none⟩ = some u
  | [], o, _, j, u, hj => by simp [flatL] at hj
  | q :: r, o, h, j, u, hj => by
    have e : flatL (q :: r) = [.string (Ba q.1), .string (Ba q.2)] ++ flatL r := by simp [flatL]
    obtain ⟨h1, h2⟩ := h 0 q rfl
    rw [e] at hj
    match j, hj with
    | 0, hj => simp at hj; subst hj; simpa using h1
    | 1, hj => simp at hj; subst hj; simpa using h2
    | j + 2, hj =>
      have hj' : (flatL r)[j]? = some u := by
        rw [List.getElem?_append_right (by simp)] at hj
        simpa using hj
      have := flatL_cells r (o + 2) (fun i p hp => by
        obtain ⟨a, b⟩ := h (i + 1) p (by simpa using hp)
        rw [show o + (i + 1) * 2 = o + 2 + i * 2 by omega] at a b
        exact ⟨a, b⟩) j u hj'
      rw [show o + (j + 2) = o + 2 + j by omega]
      exact this
set_option maxHeartbeats 2000000 in
theorem copyL_any (v : Value) (l : List Lb) (w : World) (hv : Labs w v l) (hg : GoodV v) (hl : l.length * 32 ≤ 140737488355328) :
    Calls Tryz.prog 11 #[v] w fun e w' => ∃ u, e = .returned u ∧ OwnL w.heap.size w' u l ∧ Below w.heap.size w w' := by
  obtain ⟨i0, hi, hz0, hz1, hz2⟩ := info_parts info_label
  have H1 : Hid (∀ u ∈ flatL l, u.oneCell' = true) := flatL_one l
  have HLn : Hid ((flatL l).length = l.length * 2) := flatL_len l
  have hsh : v = .slice none 0 0 ∧ l = [] ∨ ∃ ad c, v = .slice (some ad) l.length c ∧ ∀ (j : Nat) (u : Value), (flatL l)[j]? = some u → w.cell? (ad.add j) = some u := by
    rcases hv with ⟨rfl, p, c, rfl⟩ | ⟨g, o, cap, rfl, h1, h2, h3, h4⟩
    · rcases hg with hg | ⟨ad, n, c', hg⟩
      · exact Or.inl ⟨hg, rfl⟩
      · injection hg with a b c
        subst a b c
        exact Or.inr ⟨ad, _, rfl, fun j u hj => by simp [flatL] at hj⟩
    · refine Or.inr ⟨⟨g, o, none⟩, cap, rfl, fun j u hj => ?_⟩
      rw [Addr.add_lit]
      exact flatL_cells l o h4 j u hj
  clear hv hg
  rcases hsh with ⟨rfl, rfl⟩ | ⟨ad, c, rfl, hcs⟩
  · clear HLn H1
    go_enter Tryz.func11, Tryz.ntmps11
    go_wp2_with (at_builtin; refine wpList_append_own_none rfl _ _ 23 rfl w.heap.size 31 i0 2 Tryz.underlying23 hi _ _ _ rfl (World.ownsRow_nil _ _ _ _) rfl ?_)
    go_ret
    exact ⟨_, rfl, World.ownsRow_nil _ _ _ _, Below.refl _ _⟩
  · have HCs : Hid (∀ (j : Nat) (u : Value), (flatL l)[j]? = some u → w.cell? (ad.add j) = some u) := hcs
    have HO : Hid (∀ w' u, w'.ownsRow w.heap.size 31 2 u l.length (flatL l) → OwnL w.heap.size w' u l) := fun _ _ h => h
    clear hcs
    generalize hfl : flatL l = fl at *
    clear hfl
    generalize hn : l.length = nl at *
    clear hn
    go_enter Tryz.func11, Tryz.ntmps11
    go_wp2_with (at_builtin; refine wpList_append_own _ rfl _ _ 23 rfl w.heap.size 31 i0 (.agg #[.string ⟨#[]⟩, .string ⟨#[]⟩]) 2 32 Tryz.underlying23 hi hz0 hz1 hz2 rfl (by decide) _ _ _ rfl (World.ownsRow_nil _ _ _ _) ad nl c fl rfl HLn.out HCs.out H1.out (by unfold maxLen; omega) (by omega) (Nat.le_refl _) ?_)
    intro v' w3 hown' hgrow _
    have HR : Hid (OwnL w.heap.size w3 v' l) := HO.out _ _ hown'
    have HB : Hid (Below w.heap.size w w3) := (Below.refl w.heap.size w).grown hgrow (Nat.le_refl _) (fun b hb => by simp [Value.ownBlock] at hb)
    clear hown' hgrow
    go_wp2_with fail
    go_ret
    exact ⟨v', rfl, HR.out, HB.out⟩
theorem OwnL.good {B : Nat} {w : World} {v : Value} {l : List Lb} (h : OwnL B w v l) : GoodV v := by
  obtain ⟨_, ⟨rfl, _⟩ | ⟨g, cap, cur, rfl, _⟩⟩ := h
  · exact Or.inl rfl
  · exact Or.inr ⟨_, _, _, rfl⟩
/-- the texts of a part, as texts answers them -/
abbrev tv (r : Rq) (g : Nat) : Value := .slice (some ⟨g, 0, none⟩) r.2.2.length (r.2.2.length + 2)
def LV (L : List (Rq × Nat)) : List (Rq × Value) := L.map fun p => (p.1, tv p.1 p.2)
theorem LV_len (L : List (Rq × Nat)) : (LV L).length = L.length := by simp [LV]
theorem LV_snoc (L : List (Rq × Nat)) (r : Rq) (g : Nat) : LV (L ++ [(r, g)]) = LV L ++ [(r, tv r g)] := by simp [LV]
theorem LV_map (L : List (Rq × Nat)) : (LV L).map (·.1) = L.map (·.1) := by simp [LV]
def InR (B : Nat) (w : World) (v : Value) (L : List (Rq × Nat)) : Prop := w.ownsRow B 35 3 v L.length (flatR (LV L)) ∧ ∀ p ∈ L, RowM B w p.2 p.1.2.2
theorem inR_nil (B : Nat) (w : World) : InR B w (.slice none 0 0) [] := ⟨World.ownsRow_nil _ _ _ _, fun p hp => by cases hp⟩
theorem InR.below {B : Nat} {w w' : World} {v : Value} {L : List (Rq × Nat)} (h : InR B w v L) (hb : Below w.heap.size w w') : InR B w' v L := ⟨owns_below h.1 hb, fun p hp => (h.2 p hp).below hb⟩
theorem InR.reqs {B : Nat} {w : World} {v : Value} {L : List (Rq × Nat)} (h : InR B w v L) : Reqs w v (L.map (·.1)) := by
  rw [← LV_map]
  refine reqs_of_owns (by rw [LV_len]; exact h.1) fun p hp => ?_
  obtain ⟨q, hq, rfl⟩ := List.mem_map.1 hp
  exact (h.2 q hq).strs
theorem InR.good {B : Nat} {w : World} {v : Value} {L : List (Rq × Nat)} (h : InR B w v L) : GoodV v := by
  obtain ⟨⟨_, ⟨rfl, _⟩ | ⟨g, cap, cur, rfl, _⟩⟩, _⟩ := h
  · exact Or.inl rfl
  · exact Or.inr ⟨_, _, _, rfl⟩
theorem InR.snoc {B : Nat} {w w' : World} {v v' : Value} {L : List (Rq × Nat)} {r : Rq} {g : Nat} (h : InR B w v L) (hg : RowM B w g r.2.2) (hb : w.grownBy w' v.ownBlock) (ho : w'.ownsRow B 35 3 v' (L.length + 1) (flatR (LV L) ++ [.string (Ba r.1), .int .i64 r.2.1, tv r g])) : InR B w' v' (L ++ [(r, g)]) := by
  refine ⟨?_, fun p hp => ?_⟩
  · rw [LV_snoc, flatR_snoc, List.length_append]
    exact ho
  · have hk : ∀ (g : Nat) (zs : List Bs), RowM B w g zs → RowM B w' g zs := fun g zs hm => World.ownsRow.kept hm hb (rows_apart hm h.1 (by decide))
    rcases List.mem_append.1 hp with hp | hp
    · exact hk _ _ (h.2 p hp)
    · simp only [List.mem_singleton] at hp
      subst hp
      exact hk _ _ hg
end Go.Proofs.YtgaopmdpcjcooaaGreatDoor
/- Rows whose texts are spoilt: what stays. -/
namespace Go.Proofs.YtgaopmdpcjcooaaGreatDoor
open Go.RowKit
set_option linter.unusedVariables false
set_option linter.unusedSimpArgs false
def KeptT (t : TypeId) (w w' : World) : Prop := ∀ (c : Nat) (cur : Array Value), w.heap[c]? = some (Obj.cells cur t (0, 0)) → w'.heap[c]? = w.heap[c]?
theorem KeptT.refl (t : TypeId) (w : World) : KeptT t w w := fun _ _ _ => rfl
theorem KeptT.trans {t : TypeId} {a b c : World} (h : KeptT t a b) (g : KeptT t b c) : KeptT t a c := fun x cur hx => by
  have h1 := h x cur hx
  rw [g x cur (by rw [h1]; exact hx), h1]
theorem KeptT.of_grown {t : TypeId} {w w' : World} {g : Nat} (h : w.grownBy w' (some g)) {cur0 : Array Value} {t0 : TypeId} (hg : w.heap[g]? = some (.cells cur0 t0 (0, 0))) (hne : t0 ≠ t) : KeptT t w w' := fun c cur hc => by
  refine h.block c (lt_of_block hc) (fun e => ?_)
  injection e with e
  subst e
  rw [hg] at hc
  injection hc with hc
  injection hc with _ h3 _
  exact hne h3
theorem OwnL.keptT {B : Nat} {w w' : World} {v : Value} {l : List Lb} (h : OwnL B w v l) (hk : KeptT 31 w w') : OwnL B w' v l := by
  obtain ⟨hl, h | ⟨g, cap, cur, e, hB, hg, r⟩⟩ := h
  · exact ⟨hl, Or.inl h⟩
  · exact ⟨hl, Or.inr ⟨g, cap, cur, e, hB, by rw [hk g cur hg]; exact hg, r⟩⟩
def Sp1 (B : Nat) (w : World) (u : Value) : Prop := u = .slice none 0 0 ∨ ∃ h n d, u = .slice (some ⟨h, 0, none⟩) n d ∧ n ≤ d ∧ d ≤ maxLen ∧ B ≤ h ∧ RowS w h d
theorem RowS.lt {w : World} {g d : Nat} (h : RowS w g d) : g < w.heap.size := by
  obtain ⟨cur, hc, _⟩ := h
  exact lt_of_block hc
theorem RowS.other {w w' : World} {g d : Nat} (h : RowS w g d) (he : w'.heap[g]? = w.heap[g]?) : RowS w' g d := by
  obtain ⟨cur, hc, hs⟩ := h
  exact ⟨cur, by rw [he]; exact hc, hs⟩
theorem spoilU_any (B : Nat) (u : Value) (w : World) (h : Sp1 B w u) (hB : B ≤ w.heap.size) :
    Calls Tryz.prog 17 #[u] w fun e w' => e = .returned (.tuple #[]) ∧ (∀ u', Sp1 B w u' → Sp1 B w' u') ∧ KeptT 35 w w' ∧ KeptT 31 w w' ∧ Below B w w' := by
  rcases h with rfl | ⟨h, n, d, rfl, hn, hd, hb, hr⟩
  · refine (spoil_nil w).mono ?_
    rintro e w' ⟨rfl, rfl⟩
    exact ⟨rfl, fun _ h => h, KeptT.refl _ _, KeptT.refl _ _, Below.refl _ _⟩
  · refine (spoil_any h n d w hr hn hd).mono ?_
    rintro e w' ⟨rfl, hr', hgr⟩
    obtain ⟨cur0, hc0, hs0⟩ := hr
    refine ⟨rfl, fun u' hu' => ?_, KeptT.of_grown hgr hc0 (by decide), KeptT.of_grown hgr hc0 (by decide), (Below.refl B w).grown hgr hB (fun k e => by injection e with e; omega)⟩
    rcases hu' with rfl | ⟨h2, n2, d2, rfl, hn2, hd2, hb2, hr2⟩
    · exact Or.inl rfl
    · refine Or.inr ⟨h2, n2, d2, rfl, hn2, hd2, hb2, ?_⟩
      by_cases e : h2 = h
      · subst e
        obtain ⟨cur2, hc2, hs2⟩ := hr2
        rw [hc0] at hc2
        injection hc2 with hc2
        injection hc2 with e1 _ _
        subst e1
        rw [← hs2, hs0]
        exact hr'
      · exact hr2.other (hgr.block _ hr2.lt (fun e' => by injection e' with e'; exact e e'))
/-- parts whose texts may be spoilt, from the k-th on -/
def SpR (B : Nat) (w : World) (p : Option Addr) (c k : Nat) (L : List (Rq × Value)) : Prop := ∀ i q, k ≤ i → L[i]? = some q → ∃ g, p = some ⟨g, 0, none⟩ ∧ L.length ≤ c ∧ B ≤ g ∧ (∃ cur, w.heap[g]? = some (Obj.cells cur 35 (0, 0)) ∧ L.length * 3 ≤ cur.size) ∧ w.cell? ⟨g, i * 3 + 2, none⟩ = some q.2 ∧ Sp1 B w q.2
theorem SpR.next {B : Nat} {w : World} {p : Option Addr} {c k : Nat} {L : List (Rq × Value)} (h : SpR B w p c k L) : SpR B w p c (k + 1) L := fun i q hi hq => h i q (by omega) hq
theorem SpR.spoil {B : Nat} {w w' : World} {p : Option Addr} {c k : Nat} {L : List (Rq × Value)} (h : SpR B w p c k L) (h1 : ∀ u, Sp1 B w u → Sp1 B w' u) (h2 : KeptT 35 w w') : SpR B w' p c k L := by
  intro i q hi hq
  obtain ⟨g, hp, hc, hB, ⟨cur, hcu, hs⟩, hcell, hsp⟩ := h i q hi hq
  have hcu' : w'.heap[g]? = some (.cells cur 35 (0, 0)) := by rw [h2 g cur hcu]; exact hcu
  refine ⟨g, hp, hc, hB, ⟨cur, hcu', hs⟩, ?_, h1 _ hsp⟩
  rw [cell_of_row _ _ _ _ _ _ hcu'] 
  rw [cell_of_row _ _ _ _ _ _ hcu] at hcell
  exact hcell
theorem Sp1.set {B : Nat} {w : World} {u x : Value} {g j : Nat} {cur : Array Value} (h : Sp1 B w u) (hg : w.heap[g]? = some (Obj.cells cur 35 (0, 0))) : Sp1 B (w.setCell ⟨g, j, none⟩ x) u := by
  rcases h with rfl | ⟨h2, n2, d2, rfl, hn2, hd2, hb2, hr2⟩
  · exact Or.inl rfl
  · refine Or.inr ⟨h2, n2, d2, rfl, hn2, hd2, hb2, hr2.other (heap_setCell_other _ _ _ _ (fun e => ?_))⟩
    obtain ⟨cur2, hc2, _⟩ := hr2
    have e : h2 = g := by first | exact e | exact e.symm
    subst e
    rw [hg] at hc2
    injection hc2 with hc2
    injection hc2 with _ h3 _
    exact absurd h3 (by decide)
theorem SpR.store {B : Nat} {w : World} {g : Nat} {c k : Nat} {L : List (Rq × Value)} {j : Nat} {x : Value} (h : SpR B w (some ⟨g, 0, none⟩) c k L) (hj : j < k * 3) : SpR B (w.setCell ⟨g, j, none⟩ x) (some ⟨g, 0, none⟩) c k L := by
  intro i q hi hq
  obtain ⟨g', hp, hc, hB, ⟨cur, hcu, hs⟩, hcell, hsp⟩ := h i q hi hq
  have e : g = g' := by injection hp with hp; injection hp
  subst e
  refine ⟨g, rfl, hc, hB, ⟨_, heap_setCell_same w g j _ _ _ hcu, by simpa using hs⟩, ?_, hsp.set hcu⟩
  rw [cell_of_row _ _ _ _ _ _ (heap_setCell_same w g j _ _ _ hcu)]
  rw [cell_of_row _ _ _ _ _ _ hcu] at hcell
  rw [← hcell]
  have : j ≠ i * 3 + 2 := by omega
  simp [this]
theorem set_kept {B : Nat} {w : World} {g j : Nat} {x : Value} {cur : Array Value} (hg : w.heap[g]? = some (Obj.cells cur 35 (0, 0))) (hB : B ≤ g) : KeptT 31 w (w.setCell ⟨g, j, none⟩ x) ∧ Below B w (w.setCell ⟨g, j, none⟩ x) := by
  have hgr : w.grownBy (w.setCell ⟨g, j, none⟩ x) (some g) := ⟨rfl, rfl, rfl, by simp [World.setCell], fun c _ hb => heap_setCell_other _ _ _ _ (fun e => hb (by rw [e]))⟩
  exact ⟨KeptT.of_grown hgr hg (by decide), (Below.refl B w).grown hgr (by have := lt_of_block hg; omega) (fun k e => by injection e with e; omega)⟩
theorem store3 {B : Nat} {w : World} {g : Nat} {c k : Nat} {L : List (Rq × Value)} {cur : Array Value} (h : SpR B w (some ⟨g, 0, none⟩) c k L) (hg : w.heap[g]? = some (Obj.cells cur 35 (0, 0))) (hB : B ≤ g) (x0 x1 x2 : Value) :
    SpR B (((w.setCell ⟨g, k * 3, none⟩ x0).setCell ⟨g, k * 3 + 1, none⟩ x1).setCell ⟨g, k * 3 + 2, none⟩ x2) (some ⟨g, 0, none⟩) c (k + 1) L ∧ KeptT 31 w (((w.setCell ⟨g, k * 3, none⟩ x0).setCell ⟨g, k * 3 + 1, none⟩ x1).setCell ⟨g, k * 3 + 2, none⟩ x2) ∧ Below B w (((w.setCell ⟨g, k * 3, none⟩ x0).setCell ⟨g, k * 3 + 1, none⟩ x1).setCell ⟨g, k * 3 + 2, none⟩ x2) := by
  have g1 := heap_setCell_same w g (k * 3) _ _ x0 hg
  have g2 := heap_setCell_same (w.setCell ⟨g, k * 3, none⟩ x0) g (k * 3 + 1) _ _ x1 g1
  obtain ⟨a1, b1⟩ := set_kept (B := B) (j := k * 3) (x := x0) hg hB
  obtain ⟨a2, b2⟩ := set_kept (B := B) (j := k * 3 + 1) (x := x1) g1 hB
  obtain ⟨a3, b3⟩ := set_kept (B := B) (j := k * 3 + 2) (x := x2) g2 hB
  exact ⟨((h.next.store (by omega)).store (by omega)).store (by omega), (a1.trans a2).trans a3, (b1.trans b2).trans b3⟩
theorem sp_of_own {B : Nat} {w : World} {p : Option Addr} {n c : Nat} {L : List (Rq × Value)} (h : w.ownsRow B 35 3 (.slice p n c) L.length (flatR L)) (hs : ∀ q ∈ L, Sp1 B w q.2) : SpR B w p c 0 L := by
  intro i q _ hq
  have hi : i < L.length := (List.getElem?_eq_some_iff.1 hq).1
  have ho := owns_at h
  obtain ⟨_, ⟨h1, h2⟩ | ⟨g, cap, cur, e, hB, hg, hc, hm, hsz, ht⟩⟩ := h
  · omega
  · rcases ho with ⟨h1, h2⟩ | ⟨g', cap', e', hB', hg', hc', hm', hcell⟩
    · omega
    · have e1 : p = some ⟨g, 0, none⟩ := by injection e
      have e2 : c = cap := by injection e
      have e3 : p = some ⟨g', 0, none⟩ := by injection e'
      subst e1 e2
      have e4 : g = g' := by injection e3 with e3; injection e3
      subst e4
      exact ⟨g, rfl, hc, hB, ⟨cur, hg, by rw [hsz]; exact Nat.mul_le_mul_right _ hc⟩, hcell _ _ (flatR_at L i q hq).2.2, hs q (List.mem_of_getElem? hq)⟩
theorem InR.sp {B : Nat} {w : World} {p : Option Addr} {n c : Nat} {L : List (Rq × Nat)} (h : InR B w (.slice p n c) L) : SpR B w p c 0 (LV L) := by
  refine sp_of_own (n := n) (by rw [LV_len]; exact h.1) fun q hq => ?_
  obtain ⟨x, hx, rfl⟩ := List.mem_map.1 hq
  have hm := h.2 x hx
  have hlen := hm.cell.2.2.2.2
  refine Or.inr ⟨_, _, _, rfl, by omega, hlen, ?_, hm.rowS⟩
  rcases hm.2 with ⟨h1, _⟩ | ⟨g', cap, cur, he, hB, _⟩
  · cases h1
  · have e1 : x.2 = g' := by injection he with h1; injection h1 with h1; injection h1
    omega
theorem PartsN.sp {B : Nat} {w : World} {p : Option Addr} {n c : Nat} {l : List Rq} (h : PartsN B w (.slice p n c) l) : ∃ L : List (Rq × Value), L.map (·.1) = l ∧ SpR B w p c 0 L := by
  obtain ⟨L, h1, h2, h3⟩ := h
  refine ⟨L, h1, sp_of_own h3 fun q hq => ?_⟩
  obtain ⟨_, ⟨h1, h2⟩ | ⟨g, cap, cur, e, hB, hg, hc, hm, hsz, ht⟩⟩ := h2 q hq
  · exact Or.inl h1
  · exact Or.inr ⟨g, _, cap, e, hc, hm, hB, cur, hg, by rw [hsz]; omega⟩
end Go.Proofs.YtgaopmdpcjcooaaGreatDoor
