/- Contracts over this translation: the document's flaws: add, says, space, names, first. -/
import Derived.Test.YtnjjlnhchfoigaaGrNames
import Derived.Test.YtnjjlnhchfoigaaGrRfName
import Derived.Test.YtnjjlnhchfoigaaGrFlat
import Derived.Deep.AppendLies
namespace Go.Proofs.Ytnjjlnhchfoigaa
open Go.RowKit
set_option linter.unusedVariables false
set_option linter.unusedSimpArgs false
theorem info_errno : (Try.prog.info? 28).map (fun i => (i.zero, i.size, i.bytes)) = some (some (.int .i64 0), 1, 8) := by kernel_rfl
def headE (l : List Int) : Int := l.headD 0
theorem head_snoc {l : List Int} (h : ∀ x ∈ l, x ≠ 0) (x : Int) : headE (l ++ [x]) = orE (headE l) x := by
  cases l with
  | nil => rfl
  | cons y r => exact (orE_l (h y (by simp))).symm
/-- flaws in the box b: the first is e, there are at most n; the blocks of av are none of theirs -/
def FlAt (B : Nat) (w : World) (b : Nat) (e : Int) (n : Nat) (av : Nat → Prop) : Prop :=
  B ≤ b ∧ ∃ (v : Value) (l : List Int), w.heap[b]? = some (.cells #[v] 58 (0, 0)) ∧ w.ownsRow B 28 1 v l.length (l.map fun x => .int .i64 x) ∧ v.ownBlock ≠ some b ∧ l.length ≤ n ∧ headE l = e ∧ (∀ x ∈ l, x ≠ 0) ∧
    ∀ k, av k → k < w.heap.size ∧ k ≠ b ∧ v.ownBlock ≠ some k
theorem FlAt.below {B : Nat} {w w' : World} {b : Nat} {e : Int} {n : Nat} {av : Nat → Prop} (h : FlAt B w b e n av) (hb : Below w.heap.size w w') : FlAt B w' b e n av := by
  obtain ⟨h0, v, l, h1, h2, h3, h4, h5, h6, h7⟩ := h
  refine ⟨h0, v, l, (hb.block b (lt_of_block h1)).trans h1, own_belowG h2 hb, h3, h4, h5, h6, fun k hk => ?_⟩
  obtain ⟨a, c⟩ := h7 k hk
  exact ⟨Nat.lt_of_lt_of_le a hb.size, c⟩
theorem FlAt.more {B : Nat} {w : World} {b : Nat} {e : Int} {n m : Nat} {av : Nat → Prop} (h : FlAt B w b e n av) (hm : n ≤ m) : FlAt B w b e m av := by
  obtain ⟨h0, v, l, h1, h2, h3, h4, h5⟩ := h
  exact ⟨h0, v, l, h1, h2, h3, Nat.le_trans h4 hm, h5⟩
theorem FlAt.lt {B : Nat} {w : World} {b : Nat} {e : Int} {n : Nat} {av : Nat → Prop} (h : FlAt B w b e n av) : b < w.heap.size := by
  obtain ⟨h0, v, l, h1, _⟩ := h
  exact lt_of_block h1
/-- a new block is none of theirs -/
theorem FlAt.also {B : Nat} {w : World} {b : Nat} {e : Int} {n : Nat} {av : Nat → Prop} (h : FlAt B w b e n av) (o : Obj) : FlAt B (w.alloc o) b e n (fun k => av k ∨ k = w.heap.size) := by
  have hb : Below w.heap.size w (w.alloc o) := (Below.refl _ _).alloc (Nat.le_refl _) _
  obtain ⟨h0, v, l, h1, h2, h3, h4, h5, h6, h7⟩ := h
  refine ⟨h0, v, l, (hb.block b (lt_of_block h1)).trans h1, own_belowG h2 hb, h3, h4, h5, h6, fun k hk => ?_⟩
  rcases hk with hk | rfl
  · obtain ⟨a, c⟩ := h7 k hk
    exact ⟨Nat.lt_of_lt_of_le a hb.size, c⟩
  · refine ⟨by simp, fun e => ?_, fun e => ?_⟩
    · have := lt_of_block h1; omega
    · have := (World.ownsRow.lt h2 _ e).2; omega
theorem FlAt.less {B : Nat} {w : World} {b : Nat} {e : Int} {n : Nat} {av av' : Nat → Prop} (h : FlAt B w b e n av) (ha : ∀ k, av' k → av k) : FlAt B w b e n av' := by
  obtain ⟨h0, v, l, h1, h2, h3, h4, h5, h6, h7⟩ := h
  exact ⟨h0, v, l, h1, h2, h3, h4, h5, h6, fun k hk => h7 k (ha k hk)⟩
/-- what stays: all below B, and the blocks of av -/
structure Kp (B : Nat) (av : Nat → Prop) (w w' : World) : Prop where
  bel : Below B w w'
  kept : ∀ k, av k → k < w.heap.size → w'.heap[k]? = w.heap[k]?
theorem Kp.trans {B : Nat} {av : Nat → Prop} {a b c : World} (h : Kp B av a b) (g : Kp B av b c) : Kp B av a c :=
  ⟨h.bel.trans g.bel, fun k hk hlt => (g.kept k hk (Nat.lt_of_lt_of_le hlt h.bel.size)).trans (h.kept k hk hlt)⟩
theorem Kp.of_below {B : Nat} {av : Nat → Prop} {w w' : World} (h : Below w.heap.size w w') (hB : B ≤ w.heap.size) : Kp B av w w' := ⟨h.mono hB, fun k _ hlt => h.block k hlt⟩
theorem Kp.less {B : Nat} {av av' : Nat → Prop} {w w' : World} (h : Kp B av w w') (ha : ∀ k, av' k → av k) : Kp B av' w w' := ⟨h.bel, fun k hk => h.kept k (ha k hk)⟩
theorem set_grownG (w : World) (b i : Nat) (v : Value) : w.grownBy (w.setCell ⟨b, i, none⟩ v) (some b) :=
  ⟨rfl, rfl, rfl, by simp [World.setCell], fun k _ hb => heap_setCell_other _ _ _ _ (fun e => hb (by rw [e]))⟩
theorem one1I {x : Int} : ∀ u ∈ [Value.int .i64 x], u.oneCell' = true := by
  intro u hu
  rw [List.mem_singleton.1 hu]; rfl
theorem new1I {w : World} {b : Nat} {x : Value} {t : TypeId} (hb : b = w.heap.size) : ∀ (j : Nat) (u : Value), [x][j]? = some u → (w.alloc (.cells #[x] t)).cell? ((⟨b, 0, none⟩ : Addr).add j) = some u := by
  subst hb
  intro j u hj
  match j, hj with
  | 0, hj => simp at hj; subst hj; simp [Addr.add]
theorem fl_new {B n : Nat} {w w5 : World} {b g cap : Nat} {av : Nat → Prop} {v : Value} {l : List Int} {x e : Int} (h0 : B ≤ b) (h1 : w.heap[b]? = some (.cells #[v] 58 (0, 0))) (h2 : w.ownsRow B 28 1 v l.length (l.map fun x => .int .i64 x)) (h3 : v.ownBlock ≠ some b) (h4 : l.length ≤ n) (h5 : headE l = e) (h6 : ∀ x ∈ l, x ≠ 0)
    (h7 : ∀ k, av k → k < w.heap.size ∧ k ≠ b ∧ v.ownBlock ≠ some k) (hx : x ≠ 0) (hgr : (w.alloc (.cells #[.int .i64 x] 28)).grownBy w5 v.ownBlock)
    (hown : w5.ownsRow B 28 1 (.slice (some ⟨g, 0, none⟩) (l.length + 1) cap) (l.length + 1) ((l.map fun x => .int .i64 x) ++ [.int .i64 x]))
    (hl : v.ownBlock = some g ∨ g = (w.alloc (.cells #[.int .i64 x] 28)).heap.size) :
    FlAt B (w5.setCell ⟨b, 0, none⟩ (.slice (some ⟨g, 0, none⟩) (l.length + 1) cap)) b (orE e x) (n + 1) av ∧ Kp B av w (w5.setCell ⟨b, 0, none⟩ (.slice (some ⟨g, 0, none⟩) (l.length + 1) cap)) := by
  have hsz : (w.alloc (.cells #[.int .i64 x] 28)).heap.size = w.heap.size + 1 := by simp
  have hbl : b < w.heap.size := lt_of_block h1
  have hA : Below w.heap.size w (w.alloc (.cells #[.int .i64 x] 28)) := (Below.refl _ _).alloc (Nat.le_refl _) _
  have hk5 : ∀ k, k < w.heap.size → v.ownBlock ≠ some k → w5.heap[k]? = w.heap[k]? := fun k hk hv => (hgr.block k (by omega) (fun e => hv e.symm)).trans (hA.block k hk)
  have hgb : g ≠ b := by
    rcases hl with hl | hl
    · intro e; subst e; exact h3 hl
    · omega
  have hb5 : w5.heap[b]? = some (.cells #[v] 58 (0, 0)) := (hk5 b hbl h3).trans h1
  have hs5 : w.heap.size ≤ w5.heap.size := by have := hgr.size; omega
  refine ⟨⟨h0, _, l ++ [x], heap_setCell_same w5 b 0 _ _ _ hb5, ?_, fun e => hgb (Option.some.inj e), by simp; omega, ?_, ?_, fun k hk => ?_⟩, ⟨?_, fun k hk hlt => ?_⟩⟩
  · rw [List.length_append, List.map_append]
    exact World.ownsRow.kept hown (set_grownG _ _ _ _) (Or.inr (fun e => hgb (Option.some.inj e)))
  · rw [head_snoc h6, h5]
  · intro y hy
    rcases List.mem_append.1 hy with hy | hy
    · exact h6 y hy
    · rw [List.mem_singleton.1 hy]; exact hx
  · obtain ⟨a1, a2, a3⟩ := h7 k hk
    refine ⟨by simp [World.setCell]; omega, a2, fun e => ?_⟩
    have e' : g = k := Option.some.inj e
    subst e'
    rcases hl with hl | hl
    · exact a3 hl
    · omega
  · have hB5 : Below B w w5 := (hA.mono (by omega)).grown hgr (by omega) (fun k hk => (World.ownsRow.lt h2 k hk).1)
    exact hB5.setCell h0 _
  · obtain ⟨a1, a2, a3⟩ := h7 k hk
    rw [heap_setCell_other _ _ _ _ (fun e => a2 e)]
    exact hk5 k hlt a3
set_option maxRecDepth 100000 in
set_option maxHeartbeats 4000000 in
theorem add_any (B b : Nat) (e x : Int) (n : Nat) (av : Nat → Prop) (bad : Bool) (w : World) (h : FlAt B w b e n av) (hn : n ≤ 10000000000000) :
    Calls Try.prog 24 #[.pointer (some ⟨b, 0, none⟩), .bool bad, .int .i64 x] w fun r w' => r = .returned (.tuple #[]) ∧ FlAt B w' b (orE e (ifE bad x)) (n + 1) av ∧ Kp B av w w' := by
  obtain ⟨i0, hi, hz0, hz1, hz2⟩ := info_parts info_errno
  cases bad with
  | false =>
    have HX : Hid (orE e (ifE false x) = e) := by show orE e 0 = e; unfold orE; split <;> simp_all
    have HF : Hid (FlAt B w b e (n + 1) av) := h.more (by omega)
    clear h
    go_enter Try.func24, Try.ntmps24
    go_wp2_with fail
    go_end0
    exact ⟨rfl, by rw [HX.out]; exact HF.out, Kp.of_below (Below.refl _ _) (by have := HF.out.lt; have := HF.out.1; omega)⟩
  | true =>
    by_cases hx : x = 0
    · have HX : Hid (orE e (ifE true x) = e) := by show orE e x = e; rw [hx]; unfold orE; split <;> simp_all
      have HF : Hid (FlAt B w b e (n + 1) av) := h.more (by omega)
      have hb : (x != 0) = false := by simp [hx]
      clear h hx
      go_enter Try.func24, Try.ntmps24
      go_wp2_with fail
      go_end0
      exact ⟨rfl, by rw [HX.out]; exact HF.out, Kp.of_below (Below.refl _ _) (by have := HF.out.lt; have := HF.out.1; omega)⟩
    · have hb : (x != 0) = true := by simpa using hx
      obtain ⟨h0, v, l, h1, h2, h3, h4, h5, h6, h7⟩ := h
      have HX : Hid (x ≠ 0) := hx
      have hc : w.cell? ⟨b, 0, none⟩ = some v := by rw [cell_of_row _ _ _ _ _ _ h1]; rfl
      have hf : w.frozen? ⟨b, 0, none⟩ = false := frozen_of_row _ _ _ _ _ h1
      have hbl := lt_of_block h1
      have HO : Hid (w.ownsRow B 28 1 v l.length (l.map fun x => .int .i64 x)) := h2
      have hBs : B ≤ w.heap.size := by omega
      have hll : l.length ≤ 10000000000000 := by omega
      have HFin : Hid (∀ w5 g cap, (w.alloc (.cells #[.int .i64 x] 28)).grownBy w5 v.ownBlock → w5.ownsRow B 28 1 (.slice (some ⟨g, 0, none⟩) (l.length + 1) cap) (l.length + 1) ((l.map fun x => .int .i64 x) ++ [.int .i64 x]) → (v.ownBlock = some g ∨ g = (w.alloc (.cells #[.int .i64 x] 28)).heap.size) →
          FlAt B (w5.setCell ⟨b, 0, none⟩ (.slice (some ⟨g, 0, none⟩) (l.length + 1) cap)) b (orE e x) (n + 1) av ∧ Kp B av w (w5.setCell ⟨b, 0, none⟩ (.slice (some ⟨g, 0, none⟩) (l.length + 1) cap))) := fun w5 g cap a1 a2 a3 => fl_new h0 h1 h2 h3 h4 h5 h6 h7 hx a1 a2 a3
      have HFz : Hid (∀ w5, (w.alloc (.cells #[.int .i64 x] 28)).grownBy w5 v.ownBlock → w5.frozen? ⟨b, 0, none⟩ = false ∧ w5.cell? ⟨b, 0, none⟩ = some v) := fun w5 hgr => by
        have hA : Below w.heap.size w (w.alloc (.cells #[.int .i64 x] 28)) := (Below.refl _ _).alloc (Nat.le_refl _) _
        have : w5.heap[b]? = some (.cells #[v] 58 (0, 0)) := ((hgr.block b (by simp; omega) (fun e => h3 e.symm)).trans (hA.block b hbl)).trans h1
        exact ⟨frozen_of_row _ _ _ _ _ this, by rw [cell_of_row _ _ _ _ _ _ this]; rfl⟩
      clear h0 h1 h2 h3 h4 h5 h6 h7 hx
      generalize (l.map fun x => Value.int .i64 x) = xs at *
      generalize l.length = ll at *
      go_enter Try.func24, Try.ntmps24
      go_wp2_with (at_builtin; refine wpList_append_lies _ rfl _ _ 58 rfl B 28 i0 (.int .i64 0) 1 8 Try.underlying58 hi hz0 hz1 hz2 rfl (by decide) _ _ _ rfl (HO.out.alloc _) ⟨w.heap.size, 0, none⟩ 1 1 [.int .i64 x] rfl rfl (new1I rfl) one1I (by decide) (by unfold maxLen; omega) (by omega) (by simp; omega) _ rfl ?_)
      intro g cap w5 hown hgr hlies hgl
      obtain ⟨hfz, hcz⟩ := HFz.out w5 hgr
      have HD : Hid (FlAt B (w5.setCell ⟨b, 0, none⟩ (.slice (some ⟨g, 0, none⟩) (ll + 1) cap)) b (orE e x) (n + 1) av ∧ Kp B av w (w5.setCell ⟨b, 0, none⟩ (.slice (some ⟨g, 0, none⟩) (ll + 1) cap))) := HFin.out w5 g cap hgr hown (hlies.imp id (fun h => h.trans (by simp)))
      clear hown hgr hlies HFz HFin HO hc hf
      go_wp2_with fail
      go_end0
      exact ⟨rfl, HD.out.1, HD.out.2⟩
end Go.Proofs.Ytnjjlnhchfoigaa
