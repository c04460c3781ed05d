/- Several texts in one: PtrLaws, Laid, At, PtrSays2, PtrErrs. -/
import Derived.Test.YthdgfehfoidnbabGreatDoorM12
import Derived.Test.YthdgfehfoidnbabGreatDoorM09
import Derived.Lib.LaidTab
import Derived.MakeChecks
import Derived.Test.YthdgfehfoidnbabGreatDoorM11
import Derived.LaidSub
import Derived.LaidLaws
/- Plain facts for the laws of pointers: what is there, put there, changes nothing. -/
namespace Go.Proofs.YthdgfehfoidnbabGreatDoor
open Go.RowKit
set_option linter.unusedVariables false
set_option linter.unusedSimpArgs false
theorem putR_there {N : Nat} {D c G : J N} {L : List Bs} (hr : Rise N D) (h : getP N D L = some c) : putR N D L G = .ok (setP N D L (fun m => lift N m G)) := by
  unfold putR
  by_cases hL : L = []
  · rw [if_pos hL]
    subst hL
    have e : setP N D [] (fun m => lift N m G) = lift N N G := by cases N <;> rfl
    rw [e, lift_self]
  · rw [if_neg hL]
    obtain ⟨M, s, rfl⟩ : ∃ M s, L = M ++ [s] := ⟨L.dropLast, L.getLast hL, (List.dropLast_concat_getLast hL).symm⟩
    rw [List.dropLast_concat]
    have e : (M ++ [s]).getLast?.getD [] = s := by simp
    rw [e]
    exact change_put _ s M N D c hr h
theorem putR_same {N : Nat} {D c : J N} {L : List Bs} (hr : Rise N D) (h : getP N D L = some c) : putR N D L c = .ok D := by
  rw [putR_there hr h, set_get L N D c _ hr h]
  intro m c0 hm e
  show lift N m c = c0
  rw [← e, lift_lift _ _ _ _ (Nat.le_trans (depth_bound m c0) hm), lift_self]
theorem read_one : read [49] = .ok (leaf 10 (some (Sum.inr (Sum.inl 1)))) := by kernel_rfl
theorem steps_a : stepsE [47, 97] = .ok [[97]] := by kernel_rfl
theorem getP_leaf {N : Nat} (l : Leaf) (s : Bs) (r : List Bs) : getP N (leaf N l) (s :: r) = none := by
  cases N with
  | zero => rfl
  | succ n => rfl
theorem getA_one {N : Nat} : getA N [49] [47, 97] = #[.string ByteArray.empty, .int .i64 7] := by
  unfold getA
  rw [rd20_ok read_one, lift_leaf]
  simp only [steps_a, getP_leaf]
/-- what Get answers, in one form -/
theorem getA_cases (N : Nat) (hN : 20 ≤ N) (doc p : Bs) : (∃ er : Nat, er ≠ 0 ∧ er < 100 ∧ getA N doc p = #[.string ByteArray.empty, .int .i64 er]) ∨ ∃ D L c, rd20 N doc = .ok D ∧ stepsE p = .ok L ∧ getP N D L = some c ∧ Told20 N c ∧ getA N doc p = #[.string ⟨(tell N c).toArray⟩, .int .i64 0] := by
  unfold getA
  cases hd : rd20 N doc with
  | error e =>
    refine Or.inl ⟨e, ?_, ?_, rfl⟩
    · unfold rd20 at hd
      cases hr : read doc with
      | error e' =>
        rw [hr] at hd
        cases hd
        exact read_err hr
      | ok j => rw [hr] at hd; cases hd
    · unfold rd20 at hd
      cases hr : read doc with
      | error e' =>
        rw [hr] at hd
        cases hd
        rcases read_isErr hr with rfl | rfl | rfl | rfl <;> decide
      | ok j => rw [hr] at hd; cases hd
  | ok D =>
    simp only []
    cases hs : stepsE p with
    | error e =>
      refine Or.inl ⟨e, ?_, ?_, rfl⟩
      · unfold stepsE at hs
        split at hs
        · cases hs
        · split at hs
          · cases hs; decide
          · split at hs
            · cases hs; decide
            · cases hs
      · unfold stepsE at hs
        split at hs
        · cases hs
        · split at hs
          · cases hs; decide
          · split at hs
            · cases hs; decide
            · cases hs
    | ok L =>
      simp only []
      cases hg : getP N D L with
      | none => exact Or.inl ⟨7, by decide, by decide, rfl⟩
      | some c =>
        have hT := (rd20_told hN hd).get hg
        exact Or.inr ⟨D, L, c, rfl, rfl, hg, hT, hT.told⟩
theorem rd20_read {N : Nat} {doc : Bs} {D : J N} (hN : 20 ≤ N) (h : rd20 N doc = .ok D) : ∃ j, read doc = .ok j ∧ tell 10 j = tell N D := by
  unfold rd20 at h
  cases hr : read doc with
  | error e => rw [hr] at h; cases h
  | ok j =>
    rw [hr] at h
    have e : lift 10 N j = D := by
      have h' : Except.ok (lift 10 N j) = (Except.ok D : Except Nat (J N)) := h
      exact Except.ok.inj h'
    subst e
    exact ⟨j, rfl, (lift_said 10 N j (Nat.le_trans (depth_bound 10 j) (by omega))).1.symm⟩
end Go.Proofs.YthdgfehfoidnbabGreatDoor
/- The table of powers of ten out of what is laid; the laws' own canon at every text. -/
namespace Go.Proofs.YthdgfehfoidnbabGreatDoor
open Go.RowKit
set_option linter.unusedVariables false
set_option linter.unusedSimpArgs false
/-- the table stands third on the list -/
theorem tabIs_of_third {P : Program} {W : World} {name : String} {k : IntKind} {zs : List Int} {x y : String × DataW Unit} {rest : List (String × DataW Unit)} {g : Nat} {t e : TypeId} {n : Nat}
    (hg : P.globalNamed name = some g) (hty : (P.globals[g]?).map (·.type) = some t) (ht : P.underlying t = some (.array n e)) (he : P.underlying e = some (.int k)) (hce : P.cellsOf e = 1) (hct : P.cellsOf t = n)
    (h : laidMet P (x :: y :: (name, Lib.tabData k zs) :: rest) W) : Lib.TabIs P W name k zs := by
  obtain ⟨ps, ⟨_, _, _, _, _, _, _, _, _, _, ⟨_, _, _, _, _, _, _, _, _, _, ⟨g', t', cs, fuel, p, q, hg', ht', hvar, hd, _, _⟩, _⟩, _⟩, _⟩ := h
  obtain rfl := Option.some.inj (hg.symm.trans hg')
  obtain rfl := Option.some.inj (hty.symm.trans ht')
  unfold Lib.TabIs
  rw [hvar, ← Lib.cells_of_tab ht he hce hct hd]
theorem tab_of_laid {x y : String × DataW Unit} {rest : List (String × DataW Unit)} {W : World} (hn : ((x :: y :: ("internal/strconv.uint64pow10", Lib.tabData .u64 Lib.pow10Tab) :: rest).all fun x => x.2.handleName?.isNone) = true)
    (h : laidMetH Tryz.prog (x :: y :: ("internal/strconv.uint64pow10", Lib.tabData .u64 Lib.pow10Tab) :: rest) W) : Tab W.heap.size W := by
  rw [Go.MakeChecks.laidMetH_plain _ _ _ hn] at h
  exact Lib.tabBelow_of_tabIs (tabIs_of_third (P := Tryz.prog) (g := 3) (t := 163) (e := 146) (n := 20) (by kernel_rfl) (by kernel_rfl) Tryz.underlying163 Tryz.underlying146 (by kernel_rfl) (by kernel_rfl) h)
theorem keepCanon_any (t : ByteArray) (w : World) (hs : t.size ≤ maxLen) (hT : Tab w.heap.size w) :
    Calls Tryz.prog 8 #[.string t] w fun e w' => (match read t.data.toList with
      | .error _ => e = .returned (.tuple #[.string ByteArray.empty, .bool false])
      | .ok j => e = .returned (.tuple #[.string ⟨(tell 10 j).toArray⟩, .bool true])) ∧ Below w.heap.size w w' := by
  have hC := canon_any t w hs hT
  cases hr : read t.data.toList with
  | error er =>
    have HC : Hid (Calls Tryz.prog 22 #[.string t] w fun e w' => e = .returned (.tuple #[.string ByteArray.empty, .int .i64 er]) ∧ Below w.heap.size w w') := by
      refine hC.mono ?_
      rintro e w1 ⟨rfl, b1⟩
      exact ⟨by rw [canonE, hr], b1⟩
    have her : er ≠ 0 := read_err hr
    have hbe : ((er : Int) == 0) = false := by rw [beq_eq_false_iff_ne]; omega
    clear hC hr hT
    go_enter Tryz.func8, Tryz.ntmps8
    go_wp2_with fail
    refine Calls.mono HC.out ?_
    rintro e w1 ⟨rfl, b1⟩
    have HB1 : Hid (Below w.heap.size w w1) := b1
    clear b1
    go_wp2_with fail
    go_ret2
    exact ⟨rfl, HB1.out⟩
  | ok j =>
    have HC : Hid (Calls Tryz.prog 22 #[.string t] w fun e w' => e = .returned (.tuple #[.string ⟨(tell 10 j).toArray⟩, .int .i64 0]) ∧ Below w.heap.size w w') := by
      refine hC.mono ?_
      rintro e w1 ⟨rfl, b1⟩
      exact ⟨by rw [canonE, hr], b1⟩
    clear hC hr hT
    simp only []
    generalize (⟨(tell 10 j).toArray⟩ : ByteArray) = tx at *
    go_enter Tryz.func8, Tryz.ntmps8
    go_wp2_with fail
    refine Calls.mono HC.out ?_
    rintro e w1 ⟨rfl, b1⟩
    have HB1 : Hid (Below w.heap.size w w1) := b1
    clear b1
    go_wp2_with fail
    go_ret2
    exact ⟨rfl, HB1.out⟩
end Go.Proofs.YthdgfehfoidnbabGreatDoor
/- Contracts over this translation of the calls of package json, at texts of which it is known what they are read as. -/
namespace Go.Proofs.YthdgfehfoidnbabGreatDoor
open Go.RowKit
set_option linter.unusedVariables false
set_option linter.unusedSimpArgs false
theorem ba_of {a : ByteArray} {x : Bs} (h : a.data.toList = x) : (⟨x.toArray⟩ : ByteArray) = a := by
  subst h
  cases a
  simp
/-- one call, from whatever was made since, answers this -/
def Says (w : World) (f : Nat) (args : Array Value) (v : Value) : Prop := ∀ w1, Below w.heap.size w w1 → Calls Tryz.prog f args w1 fun e w' => e = .returned v ∧ Below w1.heap.size w1 w'
theorem Says.mono {w : World} {f : Nat} {args : Array Value} {v u : Value} (h : Says w f args v) (e : v = u) : Says w f args u := e ▸ h
theorem canon_ok {t u : ByteArray} {x : Bs} {j : J 10} {w : World} (hT : Tab w.heap.size w) (hs : t.size ≤ maxLen) (hx : t.data.toList = x) (hr : read x = .ok j) (hu : u.data.toList = tell 10 j) :
    Says w 22 #[.string t] (.tuple #[.string u, .int .i64 0]) := by
  intro w1 hb
  have h := canon_any t w1 hs ((hT.below hb).mono hb.size)
  rw [hx] at h
  refine h.mono ?_
  rintro e w2 ⟨rfl, b2⟩
  refine ⟨?_, b2⟩
  rw [canonE, hr]
  simp only []
  rw [ba_of hu]
theorem canon_err {t : ByteArray} {x : Bs} {er : Nat} {w : World} (hT : Tab w.heap.size w) (hs : t.size ≤ maxLen) (hx : t.data.toList = x) (hr : read x = .error er) :
    Says w 22 #[.string t] (.tuple #[.string ByteArray.empty, .int .i64 er]) := by
  intro w1 hb
  have h := canon_any t w1 hs ((hT.below hb).mono hb.size)
  rw [hx] at h
  refine h.mono ?_
  rintro e w2 ⟨rfl, b2⟩
  refine ⟨?_, b2⟩
  rw [canonE, hr]
theorem size_ok {t : ByteArray} {x : Bs} {j : J 10} {w : World} (hs : t.size ≤ maxLen) (hx : t.data.toList = x) (hr : read x = .ok j) :
    Says w 13 #[.string t] (.tuple #[.int .i64 (nodes 10 j), .int .i64 (depth 10 j), .int .i64 0]) := by
  intro w1 hb
  have h := size_any t w1 hs
  rw [hx] at h
  refine h.mono ?_
  rintro e w2 ⟨rfl, b2⟩
  refine ⟨?_, b2⟩
  rw [sizeE, hr]
theorem keep_ok {t u : ByteArray} {x : Bs} {j : J 10} {w : World} (hT : Tab w.heap.size w) (hs : t.size ≤ maxLen) (hx : t.data.toList = x) (hr : read x = .ok j) (hu : u.data.toList = tell 10 j) :
    Says w 8 #[.string t] (.tuple #[.string u, .bool true]) := by
  intro w1 hb
  have h := keepCanon_any t w1 hs ((hT.below hb).mono hb.size)
  rw [hx, hr] at h
  simp only [] at h
  rw [ba_of hu] at h
  exact h
theorem keep_err {t : ByteArray} {x : Bs} {er : Nat} {w : World} (hT : Tab w.heap.size w) (hs : t.size ≤ maxLen) (hx : t.data.toList = x) (hr : read x = .error er) :
    Says w 8 #[.string t] (.tuple #[.string ByteArray.empty, .bool false]) := by
  intro w1 hb
  have h := keepCanon_any t w1 hs ((hT.below hb).mono hb.size)
  rw [hx, hr] at h
  exact h
end Go.Proofs.YthdgfehfoidnbabGreatDoor
/- Contracts over this translation of the calls of package ptr, at texts of which it is known what they are read as. -/
namespace Go.Proofs.YthdgfehfoidnbabGreatDoor
open Go.RowKit
set_option linter.unusedVariables false
set_option linter.unusedSimpArgs false
theorem get_says (N : Nat) (hN : 20 ≤ N) {doc p : ByteArray} {x y : Bs} {v : Array Value} {w : World} (hE : Env w) (hd : doc.size ≤ 8000000) (hp : p.size ≤ 8000000) (hx : doc.data.toList = x) (hy : p.data.toList = y) (hv : getA N x y = v) :
    Says w 6 #[.string doc, .string p] (.tuple v) := by
  intro w1 hb
  subst hx hy hv
  exact get_any N hN doc p w1 hd hp (hE.below hb)
theorem put_says (N : Nat) (hN : 20 ≤ N) {doc p v : ByteArray} {D G : J N} {L : List Bs} {w : World} (hE : Env w) (hd : doc.size ≤ 8000000) (hp : p.size ≤ 8000000) (hv : v.size ≤ 8000000) (h1 : rd20 N doc.data.toList = .ok D) (h2 : stepsE p.data.toList = .ok L) (h3 : rd20 N v.data.toList = .ok G) (hF : ∀ R, putR N D L G = .ok R → Fine N R) :
    Says w 7 #[.string doc, .string p, .string v] (.tuple (madeA N (putR N D L G))) := by
  intro w1 hb
  have e : putA N doc.data.toList p.data.toList v.data.toList = madeA N (putR N D L G) := by
    unfold putA
    rw [h1]
    simp only [h2, h3]
  rw [← e]
  refine putTop_any N hN doc p v w1 hd hp hv (hE.below hb) ?_
  intro D' L' G' R e1 e2 e3 e4
  rw [h1] at e1
  rw [h2] at e2
  rw [h3] at e3
  cases e1
  cases e2
  cases e3
  exact hF R e4
theorem one_says (N : Nat) (hN : 20 ≤ N) {w : World} (hE : Env w) : Says w 6 #[.string ⟨#[49]⟩, .string ⟨#[47, 97]⟩] (.tuple #[.string ByteArray.empty, .int .i64 7]) :=
  get_says N hN (x := [49]) (y := [47, 97]) hE (by show 1 ≤ _; omega) (by show 2 ≤ _; omega) rfl rfl getA_one
theorem size_arr (l : Bs) : (⟨l.toArray⟩ : ByteArray).size = l.length := by simp [ByteArray.size]
end Go.Proofs.YthdgfehfoidnbabGreatDoor
/- The library's two errors out of what is laid. -/
namespace Go.Proofs.YthdgfehfoidnbabGreatDoor
open Go.RowKit
set_option linter.unusedVariables false
set_option linter.unusedSimpArgs false
theorem iface_of_one {P : Program} {W : World} {name nm : String} {d : DataW Unit} {g : Nat} {t : TypeId} {ms : Array (String × TypeId)} (hg : P.globalNamed name = some g) (hty : (P.globals[g]?).map (·.type) = some t) (ht : P.underlying t = some (.interface ms))
    (h : laidMet P [(name, .iface nm d)] W) : g < W.heap.size ∧ ∃ u v, W.cell? ⟨g, 0, none⟩ = some (.iface u v) := by
  obtain ⟨ps, ⟨g', t', cs, fuel, p, q, hg', ht', hvar, hd, _, _⟩, _⟩ := h
  obtain rfl := Option.some.inj (hg.symm.trans hg')
  obtain rfl := Option.some.inj (hty.symm.trans ht')
  obtain ⟨fuel', u, v, hcs, _, _⟩ := iface_of_trod ht hd
  unfold World.var? at hvar
  rw [hg] at hvar
  simp only [Option.bind_some] at hvar
  cases hh : W.heap[g]? with
  | none => rw [hh] at hvar; cases hvar
  | some o =>
    rw [hh] at hvar
    cases o with
    | cells c ty fr =>
      simp only [Option.some.injEq] at hvar
      subst hvar
      refine ⟨(Array.getElem?_eq_some_iff.1 hh).1, u, v, ?_⟩
      rw [cell_of_row _ _ _ _ _ _ hh]
      have : c = #[.iface u v] := by
        apply Array.toList_inj.1
        rw [hcs]
      rw [this]
      rfl
    | _ => cases hvar
theorem errs_of {l : List (String × DataW Unit)} {n1 n2 : String} {d1 d2 : DataW Unit} {W : World} (hn : (l.all fun x => x.2.handleName?.isNone) = true) (h1 : l.filter (fun x => x.1 == "strconv.ErrSyntax") = [("strconv.ErrSyntax", .iface n1 d1)]) (h2 : l.filter (fun x => x.1 == "strconv.ErrRange") = [("strconv.ErrRange", .iface n2 d2)])
    (h : laidMetH Tryz.prog l W) : Errs W := by
  rw [Go.MakeChecks.laidMetH_plain _ _ _ hn] at h
  have a := h.filter (fun x => x.1 == "strconv.ErrSyntax")
  have b := h.filter (fun x => x.1 == "strconv.ErrRange")
  rw [h1] at a
  rw [h2] at b
  obtain ⟨a1, u, v, a2⟩ := iface_of_one (P := Tryz.prog) (g := 1) (t := 103) (by kernel_rfl) (by kernel_rfl) Tryz.underlying103 a
  obtain ⟨b1, u', v', b2⟩ := iface_of_one (P := Tryz.prog) (g := 2) (t := 103) (by kernel_rfl) (by kernel_rfl) Tryz.underlying103 b
  exact ⟨_, _, ⟨a1, a2, Or.inr ⟨_, _, rfl⟩⟩, b1, b2, Or.inr ⟨_, _, rfl⟩⟩
end Go.Proofs.YthdgfehfoidnbabGreatDoor
