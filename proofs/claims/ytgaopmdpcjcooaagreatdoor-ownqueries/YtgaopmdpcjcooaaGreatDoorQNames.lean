/- Contracts over this translation: query.keysOf, query.madeVals; lists of texts of one's own, sorted, each once. -/
import Derived.Test.YtgaopmdpcjcooaaGreatDoorQRows
import Derived.Test.YtgaopmdpcjcooaaGreatDoorShelf
import Derived.Lib.RowBridge
namespace Go.Proofs.YtgaopmdpcjcooaaGreatDoor
open Go.RowKit Go.Sort
set_option linter.unusedVariables false
set_option linter.unusedSimpArgs false
theorem row_world {w w' : World} {k blk off : Nat} {d0 d : Array (List UInt8)} {os : Array Obj} (h0 : Holds encStr w blk off d0) (hs : d.size = d0.size) (hb : blk < w.heap.size) (e : w' = grow (putRow encStr (Sort.ahead w k) blk off d) os) :
    w.grownBy w' (some blk) ∧ Holds encStr w' blk off d := by
  subst e
  refine ⟨⟨rfl, rfl, rfl, by simp [grow, putRow, mapBlock, Sort.ahead], fun c hc hne => ?_⟩, ?_⟩
  · have hne' : ¬ blk = c := fun e => hne (by rw [e])
    rw [heap_grow_old _ _ (by rw [size_putRow]; exact hc)]
    simp only [putRow, mapBlock, Sort.ahead, Array.getElem?_modify, if_neg hne']
  · have h1 : Holds encStr (putRow encStr (Sort.ahead w k) blk off d) blk off d := holds_putRow encStr _ blk off d0 d (holds_ahead encStr w k blk off d0 h0) hs
    intro j hj
    obtain ⟨a, b⟩ := h1 j hj
    have hlt : blk < (putRow encStr (Sort.ahead w k) blk off d).heap.size := by rw [size_putRow]; exact hb
    refine ⟨by rw [cell?_grow _ _ _ hlt]; exact a, ?_⟩
    rw [World.frozen?_of_block (w := putRow encStr (Sort.ahead w k) blk off d) (a := ⟨blk, off + j, none⟩) (heap_grow_old _ _ hlt)]
    exact b
/-- a list of texts of one's own, from block B on -/
def OwnN (B : Nat) (w : World) (v : Value) (l : List Bs) : Prop := w.ownsRow B 9 1 v l.length (l.map fun s => .string (Ba s))
theorem ownN_snoc {B : Nat} {w : World} {v : Value} {l : List Bs} {x : Bs} (h : w.ownsRow B 9 1 v (l.length + 1) ((l.map fun s => .string (Ba s)) ++ [.string (Ba x)])) : OwnN B w v (l ++ [x]) := by
  unfold OwnN
  rw [List.length_append, List.map_append]
  exact h
/-- a list of texts that may be sorted -/
def HoldsL (B : Nat) (w : World) (v : Value) (L : List Bs) : Prop := ∃ p cap, v = .slice p L.length cap ∧ L.length ≤ cap ∧ cap ≤ maxLen ∧ (L = [] ∨ ∃ g, p = some ⟨g, 0, none⟩ ∧ B ≤ g ∧ g < w.heap.size ∧ Holds encStr w g 0 L.toArray)
theorem OwnN.holds {B : Nat} {w : World} {v : Value} {L : List Bs} (h : OwnN B w v L) : HoldsL B w v L := by
  obtain ⟨hl, ⟨rfl, h0⟩ | ⟨g, cap, cur, rfl, hB, hg, hc, hm, hs, ht⟩⟩ := h
  · have : L = [] := List.eq_nil_of_length_eq_zero h0
    subst this
    exact ⟨none, 0, rfl, Nat.le_refl _, Nat.zero_le _, Or.inl rfl⟩
  · refine ⟨_, cap, rfl, hc, hm, Or.inr ⟨g, rfl, hB, lt_of_block hg, fun j hj => ⟨?_, frozen_of_row _ _ _ _ _ hg⟩⟩⟩
    have hj' : j < L.length := by simpa using hj
    rw [Nat.zero_add, cell_of_row _ _ _ _ _ _ hg]
    have h1 : (cur.toList.take (L.length * 1))[j]? = some (.string (Ba L[j])) := by rw [ht]; simp [hj']
    rw [List.getElem?_take, if_pos (by omega), Array.getElem?_toList] at h1
    rw [h1]
    simp [encStr, hj', Ba]
theorem HoldsL.strs {B : Nat} {w : World} {v : Value} {L : List Bs} (h : HoldsL B w v L) : Strs w v L := by
  obtain ⟨p, cap, rfl, hc, hm, rfl | ⟨g, rfl, hB, hg, hH⟩⟩ := h
  · exact Or.inl ⟨rfl, _, _, rfl⟩
  · refine Or.inr ⟨g, 0, cap, rfl, hc, hm, hg, fun i s hi => ?_⟩
    obtain ⟨hlt, he⟩ := List.getElem?_eq_some_iff.1 hi
    have := (hH i (by simpa using hlt)).1
    rw [this]
    simp [encStr, hlt, he, Ba]
theorem HoldsL.form {B : Nat} {w : World} {v : Value} {L : List Bs} (h : HoldsL B w v L) : ∃ p cap, v = .slice p L.length cap := by
  obtain ⟨p, cap, rfl, _⟩ := h
  exact ⟨p, cap, rfl⟩
theorem sortN_any {B : Nat} {w : World} {v : Value} {L : List Bs} (h : HoldsL B w v L) (hB : B ≤ w.heap.size) (hL : L.length ≤ 100000) : Calls Tryz.prog 61 #[v] w fun e w' => e = .returned (.tuple #[]) ∧ HoldsL B w' v (sortB L) ∧ Below B w w' := by
  obtain ⟨p, cap, rfl, hc, hm, h⟩ := h
  have hsl : (sortB L).length = L.length := by unfold sortB; simp
  rcases h with rfl | ⟨g, rfl, hBg, hg, hH⟩
  · refine (Tryz.slices_Sort_string_none p cap w).mono ?_
    rintro e w' ⟨rfl, rfl⟩
    have e0 : sortB ([] : List Bs) = [] := by simp [sortB]
    exact ⟨rfl, ⟨p, cap, by rw [e0], by rw [e0]; exact hc, hm, Or.inl e0⟩, Below.refl _ _⟩
  · refine (Tryz.slices_Sort_string g 0 cap L w hH hg (by omega)).mono ?_
    rintro e w' ⟨rfl, k, os, he⟩
    have he' : w' = grow (putRow encStr (Sort.ahead w k) g 0 (sortB L).toArray) os := he
    obtain ⟨h1, h2⟩ := row_world hH (by simp [hsl]) hg he'
    refine ⟨rfl, ⟨_, cap, by rw [hsl], by rw [hsl]; exact hc, hm, Or.inr ⟨g, rfl, hBg, Nat.lt_of_lt_of_le hg h1.size, h2⟩⟩, ?_⟩
    exact (Below.refl B w).grown h1 hB (fun k e => by cases e; exact hBg)
theorem compact_le (L : List Bs) : (Lib.compact L).length ≤ L.length := by
  unfold Lib.compact Lib.compactUpTo
  rw [List.length_map]
  exact Nat.le_trans (List.length_filter_le _ _) (by simp)
theorem compN_any {B : Nat} {w : World} {v : Value} {L : List Bs} (h : HoldsL B w v L) (hB : B ≤ w.heap.size) : Calls Tryz.prog 62 #[v] w fun e w' => ∃ v', e = .returned v' ∧ HoldsL B w' v' (Lib.compact L) ∧ Below B w w' := by
  obtain ⟨p, cap, rfl, hc, hm, h⟩ := h
  have hcl := compact_le L
  rcases h with rfl | ⟨g, rfl, hBg, hg, hH⟩
  · refine (Tryz.slices_Compact_string_empty p cap w).mono ?_
    rintro e w' ⟨rfl, rfl⟩
    have e0 : Lib.compact ([] : List Bs) = [] := List.eq_nil_of_length_eq_zero (Nat.le_zero.1 hcl)
    exact ⟨_, rfl, ⟨p, cap, by rw [e0]; rfl, by rw [e0]; exact Nat.zero_le _, hm, Or.inl e0⟩, Below.refl _ _⟩
  · refine (Tryz.slices_Compact_string g 0 cap L w hH (by unfold maxLen at hm; omega) hc).mono ?_
    rintro e w' ⟨rfl, k, he⟩
    have he' : w' = grow (putRow encStr (Sort.ahead w k) g 0 (Lib.compact L ++ List.replicate (L.length - (Lib.compact L).length) []).toArray) #[] := by rw [grow_empty]; exact he
    obtain ⟨h1, h2⟩ := row_world hH (by simp; omega) hg he'
    refine ⟨_, rfl, ⟨_, cap, rfl, by omega, hm, Or.inr ⟨g, rfl, hBg, Nat.lt_of_lt_of_le hg h1.size, fun j hj => ?_⟩⟩, (Below.refl B w).grown h1 hB (fun k e => by cases e; exact hBg)⟩
    have hj' : j < (Lib.compact L).length := by simpa using hj
    obtain ⟨a, b⟩ := h2 j (by simp; omega)
    refine ⟨?_, b⟩
    rw [a]
    simp [hj', List.getElem?_append_left hj']
theorem one1 {a : ByteArray} : ∀ u ∈ [Value.string a], u.oneCell' = true := by
  intro u hu
  simp only [List.mem_singleton] at hu
  subst hu
  rfl
theorem keys_step {l : List Rq} {k : Nat} (hk : k < l.length) : (l.take (k + 1)).map (·.1) = (l.take k).map (·.1) ++ [l[k].1] := by
  rw [List.take_succ_eq_append_getElem hk, List.map_append]
  rfl
set_option maxRecDepth 100000 in
set_option maxHeartbeats 4000000 in
theorem keysOf_any (v : Value) (l : List Rq) (w : World) (hv : Reqs w v l) (hL : l.length ≤ 1000) :
    Calls Tryz.prog 33 #[v] w fun e w' => ∃ u, e = .returned u ∧ Strs w' u (keysP l) ∧ Below w.heap.size w w' := by
  obtain ⟨i0, hi, hz0, hz1, hz2⟩ := info_parts info_str
  obtain ⟨p, c, rfl, hn, hcell⟩ := hv.open
  have HC : Hid (∀ k (hk : k < l.length), ∃ g o q d, p = some ⟨g, o, none⟩ ∧ l.length ≤ c ∧ ∀ w1, Below w.heap.size w w1 → w1.cell? ⟨g, o + k * 3, none⟩ = some (.string (Ba l[k].1)) ∧ w1.cell? ⟨g, o + k * 3 + 1, none⟩ = some (.int .i64 l[k].2.1) ∧ w1.cell? ⟨g, o + k * 3 + 2, none⟩ = some (.slice q l[k].2.2.length d)) := fun k hk => by
    obtain ⟨g, o, q, d, h1, h2, h3⟩ := hcell k hk
    exact ⟨g, o, q, d, h1, h2, fun w1 hb => ⟨(h3 w1 hb).1, (h3 w1 hb).2.1, (h3 w1 hb).2.2.1⟩⟩
  have HEnd : Hid (∀ k, l.length ≤ k → (l.take k).map (·.1) = l.map (·.1)) := fun k hk => by rw [List.take_of_length_le hk]
  clear hcell hv
  unfold maxLen at hn
  go_enter Tryz.func33, Tryz.ntmps33
  go_wp2_with fail
  go_loopw [3, 8] (fun x i wr => ∃ (k : Nat) (L : List Bs), k ≤ l.length ∧ i = .int .i64 k ∧ L = (l.take k).map (·.1) ∧ L.length = k ∧ OwnN w.heap.size wr x L ∧ Below w.heap.size w wr) (fun _ i _ => l.length - (intOf i).toNat)
  case atStart => exact ⟨0, [], Nat.zero_le _, rfl, rfl, rfl, World.ownsRow_nil _ _ _ _, Below.refl _ _⟩
  case round =>
    obtain ⟨k, L, hk, rfl, hm, hLk, hown, hbel⟩ := hrel
    have HM : Hid (L = (l.take k).map (·.1)) := hm
    have HLk : Hid (L.length = k) := hLk
    have HLe : L.length ≤ k := by omega
    have HO : Hid (OwnN w.heap.size wr u3 L) := hown
    have HB : Hid (Below w.heap.size w wr) := hbel
    have hBr := hbel.size
    clear hm hown hbel hLk
    by_cases hlt : k < l.length
    · obtain ⟨g, o, q, d, rfl, hlc, hc0⟩ := HC.out k hlt
      obtain ⟨c1, c2, c3⟩ := hc0 wr HB.out
      have HB2 : Hid (Below w.heap.size w (wr.alloc (.cells #[.string (Ba l[k].1), .int .i64 l[k].2.1, .slice q l[k].2.2.length d] 35))) := HB.out.alloc HB.out.size _
      have HO2 : Hid ((wr.alloc (.cells #[.string (Ba l[k].1), .int .i64 l[k].2.1, .slice q l[k].2.2.length d] 35)).ownsRow w.heap.size 9 1 u3 L.length (L.map fun s => .string (Ba s))) := HO.out.alloc _
      have HM2 : Hid (L ++ [l[k].1] = (l.take (k + 1)).map (·.1)) := by show _ = _; rw [keys_step hlt, HM.out]
      clear hc0
      generalize l[k] = y at *
      obtain ⟨yk, yd, yv⟩ := y
      dsimp only at *
      generalize yv.length = nv at *
      have hs1 : (wr.alloc (.cells #[.string (Ba yk), .int .i64 yd, .slice q nv d] 35)).heap.size = wr.heap.size + 1 := by simp
      go_wp2_with (at_builtin; refine wpList_append_own _ rfl _ _ 33 rfl w.heap.size 9 i0 (.string ⟨#[]⟩) 1 16 Tryz.underlying33 hi hz0 hz1 hz2 rfl (by decide) _ _ _ rfl (HO2.out.alloc _) ⟨wr.heap.size + 1, 0, none⟩ 1 1 [.string (Ba yk)] rfl rfl (new1 hs1.symm) one1 (by unfold maxLen; omega) (by omega) (by simp; omega) ?_)
      intro v' w3 hown' hgrow _
      have HO3 : Hid (OwnN w.heap.size w3 v' (L ++ [yk])) := ownN_snoc hown'
      have HB3 : Hid (Below w.heap.size w w3) := (HB2.out.alloc HB2.out.size _).grown hgrow (by simp; omega) (fun b hb => (World.ownsRow.lt HO.out b hb).1)
      clear hown' hgrow
      go_wp2_with fail
      go_roundw
      case rel => exact ⟨k + 1, L ++ [yk], by omega, by go_num, HM2.out, by rw [List.length_append, HLk.out]; rfl, HO3.out, HB3.out⟩
      case measure => simp [intOf]; omega
    · have he := HEnd.out k (by omega)
      have HH : Hid (HoldsL w.heap.size wr u3 L) := HO.out.holds
      have HLL : Hid (L = l.map (·.1)) := by show _ = _; rw [HM.out, he]
      clear he HM HLk
      have HS : Hid (Calls Tryz.prog 61 #[u3] wr fun e w' => e = .returned (.tuple #[]) ∧ HoldsL w.heap.size w' u3 (sortB L) ∧ Below w.heap.size wr w') := sortN_any HH.out hBr (by omega)
      go_wp2_with fail
      refine Calls.mono HS.out ?_
      rintro e w1 ⟨rfl, h1, b1⟩
      have HB1 : Hid (Below w.heap.size w w1) := HB.out.trans b1
      have HCm : Hid (Calls Tryz.prog 62 #[u3] w1 fun e w' => ∃ v', e = .returned v' ∧ HoldsL w.heap.size w' v' (Lib.compact (sortB L)) ∧ Below w.heap.size w1 w') := compN_any h1 HB1.out.size
      clear h1 b1
      go_wp2_with fail
      refine Calls.mono HCm.out ?_
      rintro e w2 ⟨v2, rfl, h2, b2⟩
      have HB2 : Hid (Below w.heap.size w w2) := HB1.out.trans b2
      have HSt : Hid (Strs w2 v2 (keysP l)) := by
        have := h2.strs
        rw [HLL.out] at this
        exact this
      clear h2 b2
      go_wp2_with fail
      go_ret
      exact ⟨v2, rfl, HSt.out, HB2.out⟩
theorem made_new (w : World) : OwnN w.heap.size (w.alloc (.cells #[.string ⟨#[]⟩] 9)) (.slice (some ⟨w.heap.size, 0, none⟩) 1 1) [[]] :=
  ⟨rfl, Or.inr ⟨w.heap.size, 1, #[.string ⟨#[]⟩], rfl, Nat.le_refl _, heap_alloc_new _ _, Nat.le_refl _, by decide, rfl, rfl⟩⟩
theorem made_succ (k : Nat) : madeP (k + 1) = madeP k ++ [dig2 k] := by
  unfold madeP
  rw [List.range_succ, List.map_append]
  rfl
theorem made_len (k : Nat) : (madeP k).length = k + 1 := by simp [madeP]
set_option maxRecDepth 100000 in
set_option maxHeartbeats 4000000 in
theorem made_any (n : Nat) (w : World) (hn : n ≤ 100) :
    Calls Tryz.prog 66 #[.int .i64 n] w fun e w' => ∃ u, e = .returned u ∧ Strs w' u (madeP n) ∧ Below w.heap.size w w' := by
  obtain ⟨i0, hi, hz0, hz1, hz2⟩ := info_parts info_str
  have HI : Hid (∀ k w1, k < n → Calls Tryz.prog 88 #[.int .i64 (k : Nat)] w1 fun e w' => e = .returned (.string (Ba (dig2 k))) ∧ w1 = w') := fun k w1 h => by
    have := Tryz.strconv_Itoa_small k (by omega) w1
    rw [dig2_eq (by omega)] at this
    exact this.mono fun e w' ⟨he, hw⟩ => ⟨he, hw.symm⟩
  have HO0 : Hid (OwnN w.heap.size (w.alloc (.cells #[.string ⟨#[]⟩] 9)) (.slice (some ⟨w.heap.size, 0, none⟩) 1 1) (madeP 0)) := made_new w
  have HB0 : Hid (Below w.heap.size w (w.alloc (.cells #[.string ⟨#[]⟩] 9))) := (Below.refl _ _).alloc (Nat.le_refl _) _
  go_enter Tryz.func66, Tryz.ntmps66
  go_wp2_with fail
  go_loopw [3, 7] (fun x i wr => ∃ (k : Nat), k ≤ n ∧ i = .int .i64 k ∧ OwnN w.heap.size wr x (madeP k) ∧ Below w.heap.size w wr) (fun _ i _ => n - (intOf i).toNat)
  case atStart => exact ⟨0, Nat.zero_le _, rfl, HO0.out, HB0.out⟩
  case round =>
    obtain ⟨k, hk, rfl, hown, hbel⟩ := hrel
    have HO : Hid (OwnN w.heap.size wr u3 (madeP k)) := hown
    have HB : Hid (Below w.heap.size w wr) := hbel
    have hBr := hbel.size
    have hlen := made_len k
    clear hown hbel
    by_cases hlt : k < n
    · have HIk := HI.out k wr hlt
      have HIk' : Hid (Calls Tryz.prog 88 #[.int .i64 (k : Nat)] wr fun e w' => e = .returned (.string (Ba (dig2 k))) ∧ wr = w') := HIk
      have HOr : Hid (wr.ownsRow w.heap.size 9 1 u3 (k + 1) ((madeP k).map fun s => .string (Ba s))) := by
        have := HO.out
        unfold OwnN at this
        rw [hlen] at this
        exact this
      have HSuc : Hid (madeP (k + 1) = madeP k ++ [dig2 k]) := made_succ k
      have HLen : Hid ((madeP k).length = k + 1) := hlen
      clear HIk hlen
      generalize dig2 k = y at *
      go_wp2_with fail
      refine Calls.mono HIk'.out ?_
      rintro e w1 ⟨rfl, rfl⟩
      go_wp2_with (at_builtin; refine wpList_append_own _ rfl _ _ 33 rfl w.heap.size 9 i0 (.string ⟨#[]⟩) 1 16 Tryz.underlying33 hi hz0 hz1 hz2 rfl (by decide) _ _ _ rfl (HOr.out.alloc _) ⟨wr.heap.size, 0, none⟩ 1 1 [.string (Ba y)] rfl rfl (new1 rfl) one1 (by unfold maxLen; omega) (by omega) (by simp; omega) ?_)
      intro v' w3 hown' hgrow _
      have HO3 : Hid (OwnN w.heap.size w3 v' (madeP (k + 1))) := by
        show OwnN _ _ _ _
        rw [HSuc.out]
        refine ownN_snoc ?_
        rw [HLen.out]
        exact hown'
      have HB3 : Hid (Below w.heap.size w w3) := (HB.out.alloc HB.out.size _).grown hgrow (by simp; omega) (fun b hb => (World.ownsRow.lt HOr.out b hb).1)
      clear hown' hgrow
      go_wp2_with fail
      go_roundw
      case rel => exact ⟨k + 1, by omega, by go_num, HO3.out, HB3.out⟩
      case measure => simp [intOf]; omega
    · have HH : Hid (Strs wr u3 (madeP n)) := by
        have := HO.out.holds.strs
        rw [show k = n by omega] at this
        exact this
      go_wp2_with fail
      go_ret
      exact ⟨u3, rfl, HH.out, HB.out⟩
end Go.Proofs.YtgaopmdpcjcooaaGreatDoor
