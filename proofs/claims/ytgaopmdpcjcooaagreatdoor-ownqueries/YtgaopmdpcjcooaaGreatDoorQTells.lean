/- Contract over this translation: query.tellParts. -/
import Derived.Test.YtgaopmdpcjcooaaGreatDoorQTellP
import Derived.Test.YtgaopmdpcjcooaaGreatDoorQBuildS
import Derived.Test.YtgaopmdpcjcooaaGreatDoorQCheck
namespace Go.Proofs.YtgaopmdpcjcooaaGreatDoor
open Go.RowKit
set_option linter.unusedVariables false
set_option linter.unusedSimpArgs false
theorem at_below {B b : Nat} {p : Value} {bs : List Value} {w w' : World} (h : Lib.BuilderAt 82 5 B b p bs w) (hb : Below w.heap.size w w') : Lib.BuilderAt 82 5 B b p bs w' := by
  obtain ⟨hB, v, hbk, hown, hne⟩ := h
  refine ⟨hB, v, by rw [hb.block b (lt_of_block hbk)]; exact hbk, hown.kept (row := none) ⟨hb.os, hb.tape, hb.output, hb.size, fun k hk _ => hb.block k hk⟩ ?_, hne⟩
  by_cases e : v.ownBlock = none
  · exact Or.inl e
  · exact Or.inr e
theorem IsB.below {B b : Nat} {bs : List Value} {w w' : World} (h : IsB B b bs w) (hb : Below w.heap.size w w') : IsB B b bs w' := by
  rcases h with h | h
  · exact Or.inl (at_below h hb)
  · exact Or.inr (at_below h hb)
theorem kI_l64 {s : Bs} (h : kI s = 0) : s.length ≤ 64 := by
  by_cases c : s.length ≤ 64
  · exact c
  · have : kI s = 2 := keyI_large (s := ⟨s.toArray⟩) (by have := ba_size s; unfold Ba at this; omega)
    omega
theorem vI_l64 {s : Bs} (h : vI s = 0) : s.length ≤ 64 := by
  by_cases c : s.length ≤ 64
  · exact c
  · have hs := ba_size s
    unfold Ba at hs
    have : vI s = 2 := by
      unfold vI valI
      rw [if_pos (by omega)]
    omega
/-- parts that Check lets be: they are not great -/
def Small (l : List Rq) : Prop := l.length ≤ 8 ∧ ∀ r ∈ l, r.1.length ≤ 64 ∧ r.2.2.length ≤ 8 ∧ ∀ x ∈ r.2.2, x.length ≤ 64
theorem small_of {l : List Rq} (h : chkI l = 0) : Small l := by
  obtain ⟨h1, h2⟩ := chk_ok.1 h
  refine ⟨h1, fun r hr => ?_⟩
  obtain ⟨k1, k2, k3, k4⟩ := part_ok.1 (h2 r hr)
  exact ⟨kI_l64 k1, k3, fun x hx => vI_l64 (k4 x hx)⟩
/-- the first parts, told -/
def accT (l : List Rq) : Nat → Bs
  | 0 => []
  | k + 1 => accT l k ++ (if 0 < k then [44] else []) ++ ((l[k]?).map tellP).getD []
theorem accT_next {l : List Rq} {k : Nat} (hk : k < l.length) : accT l (k + 1) = accT l k ++ (if 0 < k then [44] else []) ++ tellP l[k] := by
  rw [accT, List.getElem?_eq_getElem hk]
  rfl
theorem accT_len {l : List Rq} (h : Small l) : ∀ k, k ≤ l.length → (accT l k).length ≤ k * 701
  | 0, _ => by simp [accT]
  | k + 1, hk => by
    have ih := accT_len h k (by omega)
    obtain ⟨a, b, c⟩ := h.2 l[k] (List.getElem_mem _)
    have := tellP_len a b c
    rw [accT_next (by omega)]
    simp only [List.length_append]
    split
    · simp only [List.length_cons, List.length_nil]; omega
    · simp only [List.length_nil]; omega
def tellAll (l : List Rq) : Bs := accT l l.length
theorem cells_snoc (a b : Bs) : Lib.byteCells (a ++ b) = Lib.byteCells a ++ Lib.byteCells b := by simp [Lib.byteCells]
theorem str_cells (a : Bs) : Lib.strCells (Ba a) = Lib.byteCells a := by simp [Lib.strCells, Lib.byteCells, Ba]
theorem box3h {w : World} {g : Nat} {a b c : Value} {t : TypeId} (h : w.heap[g]? = some (.cells #[a, b, c] t (0, 0))) : w.cell? ⟨g, 0, none⟩ = some a ∧ w.cell? ⟨g, 1, none⟩ = some b ∧ w.cell? ⟨g, 2, none⟩ = some c := by
  rw [Lib.cell_of_heap h, Lib.cell_of_heap h, Lib.cell_of_heap h]
  exact ⟨rfl, rfl, rfl⟩
set_option maxRecDepth 100000 in
set_option maxHeartbeats 4000000 in
theorem tells_any (v : Value) (l : List Rq) (w : World) (hv : Reqs w v l) (hs : Small l) :
    Calls Tryz.prog 29 #[v] w fun e w' => e = .returned (.string (Ba (tellAll l))) ∧ Below w.heap.size w w' := by
  obtain ⟨p, c, rfl, hn, hcell⟩ := hv.open
  have HC : Hid (∀ k (hk : k < l.length), ∃ g o q d, p = some ⟨g, o, none⟩ ∧ l.length ≤ c ∧ ∀ w1, Below w.heap.size w w1 → w1.cell? ⟨g, o + k * 3, none⟩ = some (.string (Ba l[k].1)) ∧ w1.cell? ⟨g, o + k * 3 + 1, none⟩ = some (.int .i64 l[k].2.1) ∧ w1.cell? ⟨g, o + k * 3 + 2, none⟩ = some (.slice q l[k].2.2.length d) ∧
      Calls Tryz.prog 53 #[.agg #[.string (Ba l[k].1), .int .i64 l[k].2.1, .slice q l[k].2.2.length d]] w1 fun e w' => e = .returned (.string (Ba (tellP l[k]))) ∧ Below w1.heap.size w1 w') := by
    intro k hk
    obtain ⟨g, o, q, d, h1, h2, h3⟩ := hcell k hk
    refine ⟨g, o, q, d, h1, h2, fun w1 hb => ?_⟩
    obtain ⟨c1, c2, c3, c4⟩ := h3 w1 hb
    obtain ⟨a1, a2, a3⟩ := hs.2 l[k] (List.getElem_mem hk)
    exact ⟨c1, c2, c3, tellPart_any l[k] _ w1 c4 a1 a2 a3⟩
  have HLen : Hid (∀ k, k ≤ l.length → (accT l k).length ≤ 8 * 701) := fun k hk => by
    have := accT_len hs k hk
    have := hs.1
    have : k * 701 ≤ 8 * 701 := Nat.mul_le_mul_right _ (by omega)
    show _ ≤ _
    omega
  have HPl : Hid (∀ k (hk : k < l.length), (tellP l[k]).length ≤ 700) := fun k hk => by
    obtain ⟨a1, a2, a3⟩ := hs.2 l[k] (List.getElem_mem hk)
    exact tellP_len a1 a2 a3
  have HB0 : Hid (Below w.heap.size w (w.alloc (.cells #[.pointer none, .slice none 0 0] 82))) := (Below.refl _ _).alloc (Nat.le_refl _) _
  have HI0 : Hid (IsB w.heap.size w.heap.size (Lib.byteCells (accT l 0)) (w.alloc (.cells #[.pointer none, .slice none 0 0] 82))) := Lib.fresh_isBuilder 82 5 w
  have HEnd : Hid (accT l l.length = tellAll l) := rfl
  clear hcell hv hs
  unfold maxLen at hn
  go_enter Tryz.func29, Tryz.ntmps29
  go_wp2_with fail
  go_loopw [8] (fun i wr => ∃ k : Nat, k ≤ l.length ∧ i = .int .i64 k ∧ IsB w.heap.size w.heap.size (Lib.byteCells (accT l k)) wr ∧ Below w.heap.size w wr) (fun i _ => l.length - (intOf i).toNat)
  case atStart => exact ⟨0, Nat.zero_le _, rfl, HI0.out, HB0.out⟩
  case round =>
    obtain ⟨k, hk, rfl, hib, hbel⟩ := hrel
    have HI : Hid (IsB w.heap.size w.heap.size (Lib.byteCells (accT l k)) wr) := hib
    have HB : Hid (Below w.heap.size w wr) := hbel
    clear hib hbel
    by_cases hlt : k < l.length
    · obtain ⟨g, o, q, d, rfl, hlc, hc0⟩ := HC.out k hlt
      obtain ⟨c1, c2, c3, _⟩ := hc0 wr HB.out
      have HP : Hid (∀ w2, Below w.heap.size w w2 → Calls Tryz.prog 53 #[.agg #[.string (Ba l[k].1), .int .i64 l[k].2.1, .slice q l[k].2.2.length d]] w2 fun e w' => e = .returned (.string (Ba (tellP l[k]))) ∧ Below w2.heap.size w2 w') := fun w2 hb => (hc0 w2 hb).2.2.2
      have hT := accT_next hlt
      have hpl := HPl.out k hlt
      have hal := HLen.out k hk
      clear hc0
      generalize han : accT l (k + 1) = an at *
      have HAn : Hid (accT l (k + 1) = an) := han
      clear han
      generalize accT l k = ak at *
      generalize tellP l[k] = tp at *
      generalize l[k] = x at c1 c2 c3 HP
      obtain ⟨xk, xd, xv⟩ := x
      dsimp only at c1 c2 c3 HP
      generalize xv.length = nv at *
      generalize Ba xk = sk at *
      have hA : Below wr.heap.size wr (wr.alloc (.cells #[.string sk, .int .i64 xd, .slice q nv d] 35)) := (Below.refl _ _).alloc (Nat.le_refl _) _
      have HBa : Hid (Below w.heap.size w (wr.alloc (.cells #[.string sk, .int .i64 xd, .slice q nv d] 35))) := HB.out.trans (hA.mono HB.out.size)
      have HIa : Hid (IsB w.heap.size w.heap.size (Lib.byteCells ak) (wr.alloc (.cells #[.string sk, .int .i64 xd, .slice q nv d] 35))) := HI.out.below hA
      have HNa : Hid ((wr.alloc (.cells #[.string sk, .int .i64 xd, .slice q nv d] 35)).heap[wr.heap.size]? = some (.cells #[.string sk, .int .i64 xd, .slice q nv d] 35 (0, 0))) := heap_alloc_new wr _
      have HSa : Hid (wr.heap.size ≤ (wr.alloc (.cells #[.string sk, .int .i64 xd, .slice q nv d] 35)).heap.size) := hA.size
      have hsz := HB.out.size
      have HNe : Hid (w.heap.size < wr.heap.size) := by
        show _ < _
        rcases HI.out with h | h
        · exact h.lt
        · exact h.lt
      clear hA HI
      by_cases h0 : 0 < k
      · have h0I : (0 : Int) < (k : Int) := by omega
        rw [if_pos h0] at hT
        have HW : Hid (_) := wbyte_any w.heap.size w.heap.size (Lib.byteCells ak) 44 _ HIa.out (by rw [Lib.byteCells_length]; omega) HBa.out.size
        go_wp2_with fail
        refine Calls.mono HW.out ?_
        rintro e w2 ⟨rfl, hi2, b2, hk2⟩
        have HxB : Hid (Below w.heap.size w w2) := HBa.out.trans b2
        have HxI : Hid (IsB w.heap.size w.heap.size (Lib.byteCells (ak ++ [44])) w2) := by
          show IsB _ _ _ _
          rw [cells_snoc]
          exact hi2
        have HxN : Hid (w2.heap[wr.heap.size]? = some (.cells #[.string sk, .int .i64 xd, .slice q nv d] 35 (0, 0))) := hk2 _ _ HNa.out (fun e => by have := HNe.out; injection e with e; omega) (fun c fz e => by injection e with _ e; exact absurd e (by decide))
        clear hi2 b2 hk2 HW
        obtain ⟨k0, k1, k2⟩ := box3h HxN.out
        have HT1 : Hid (_) := HP.out _ HxB.out
        go_wp2_with fail
        refine Calls.mono HT1.out ?_
        rintro e w3 ⟨rfl, b3⟩
        have HB3 : Hid (Below w.heap.size w w3) := HxB.out.trans (b3.mono HxB.out.size)
        have HS3 : Hid (_) := wstr_any w.heap.size w.heap.size (Lib.byteCells (ak ++ [44])) (Ba tp) w3 (HxI.out.below b3) (by rw [Lib.byteCells_length, ba_size]; rw [List.length_append]; simp only [List.length_cons, List.length_nil]; omega) HB3.out.size
        clear b3 k0 k1 k2
        go_wp2_with fail
        refine Calls.mono HS3.out ?_
        rintro e w4 ⟨rfl, hi4, b4, _⟩
        have HB4 : Hid (Below w.heap.size w w4) := HB3.out.trans b4
        have HI4 : Hid (IsB w.heap.size w.heap.size (Lib.byteCells an) w4) := by
          show IsB _ _ _ _
          rw [hT, cells_snoc, ← str_cells tp]
          exact hi4
        clear hi4 b4 HS3
        go_wp2_with fail
        go_roundw
        case rel => exact ⟨k + 1, by omega, by go_num, by rw [HAn.out]; exact HI4.out, HB4.out⟩
        case measure => simp [intOf]; omega
      · have h0I : decide ((0 : Int) < (k : Int)) = false := by simp; omega
        rw [if_neg h0, List.append_nil] at hT
        have HxB : Hid (_) := HBa.out
        have HxI : Hid (IsB w.heap.size w.heap.size (Lib.byteCells ak) (wr.alloc (.cells #[.string sk, .int .i64 xd, .slice q nv d] 35))) := HIa.out
        have HxN : Hid (_) := HNa.out
        obtain ⟨k0, k1, k2⟩ := box3h HxN.out
        have HT1 : Hid (_) := HP.out _ HxB.out
        go_wp2_with fail
        refine Calls.mono HT1.out ?_
        rintro e w3 ⟨rfl, b3⟩
        have HB3 : Hid (Below w.heap.size w w3) := HxB.out.trans (b3.mono HxB.out.size)
        have HS3 : Hid (_) := wstr_any w.heap.size w.heap.size (Lib.byteCells ak) (Ba tp) w3 (HxI.out.below b3) (by rw [Lib.byteCells_length, ba_size];   omega) HB3.out.size
        clear b3 k0 k1 k2
        go_wp2_with fail
        refine Calls.mono HS3.out ?_
        rintro e w4 ⟨rfl, hi4, b4, _⟩
        have HB4 : Hid (Below w.heap.size w w4) := HB3.out.trans b4
        have HI4 : Hid (IsB w.heap.size w.heap.size (Lib.byteCells an) w4) := by
          show IsB _ _ _ _
          rw [hT, cells_snoc, ← str_cells tp]
          exact hi4
        clear hi4 b4 HS3
        go_wp2_with fail
        go_roundw
        case rel => exact ⟨k + 1, by omega, by go_num, by rw [HAn.out]; exact HI4.out, HB4.out⟩
        case measure => simp [intOf]; omega
    · have hke : k = l.length := by omega
      have HS : Hid (Calls Tryz.prog 54 #[.pointer (some ⟨w.heap.size, 0, none⟩)] wr fun e w' => e = .returned (.string (Ba (tellAll l))) ∧ Below w.heap.size wr w') := by
        have h := HI.out
        rw [hke, HEnd.out] at h
        exact Tryz.Builder_String_any w.heap.size w.heap.size (tellAll l) wr h HB.out.size
      clear hke
      go_wp2_with fail
      refine Calls.mono HS.out ?_
      rintro e w5 ⟨rfl, b5⟩
      have HB5 : Hid (Below w.heap.size w w5) := HB.out.trans b5
      clear b5
      go_wp2_with fail
      go_ret
      exact ⟨rfl, HB5.out⟩
end Go.Proofs.YtgaopmdpcjcooaaGreatDoor
