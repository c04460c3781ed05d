/- Contracts over this translation: what was made is told; a text is read, with room; what is known of what was read. -/
import Derived.Test.YtjcdklbimaclkaaDoorTop
import Derived.Test.YtjcdklbimaclkaaDoorMeasure
import Derived.Test.YtjcdklbimaclkaaDoorDocErr
import Derived.Test.YtjcdklbimaclkaaDoorDocToldL
import Derived.Test.YtjcdklbimaclkaaDoorMrgMeet
namespace Go.Proofs.YtjcdklbimaclkaaDoor
open Go.RowKit
set_option linter.unusedVariables false
set_option linter.unusedSimpArgs false
abbrev S0 (w : World) (n : Nat) (j : J n) (v : Value) : Prop := St (fun _ => False) w n j v
theorem St.s0 {av : Nat → Prop} {w : World} {n : Nat} {j : J n} {v : Value} (h : St av w n j v) : S0 w n j v := h.mono (fun c _ hf => hf.elim)
theorem St.on {av : Nat → Prop} {w w' : World} {n : Nat} {j : J n} {v : Value} (h : St av w n j v) (hb : Below w.heap.size w w') : St av w' n j v := h.step hb.size (fun c hc _ => hb.block c hc)
theorem size_of (l : Bs) : (⟨l.toArray⟩ : ByteArray).size = l.length := by simp [ByteArray.size]
/-- what is told of a value -/
def toldE (n : Nat) (j : J n) : Array Value :=
  if 10 < depth n j then #[.string ByteArray.empty, .int .i64 4]
  else if 200 < nodes n j then #[.string ByteArray.empty, .int .i64 2]
  else if 2000 < (tell n j).length then #[.string ByteArray.empty, .int .i64 2]
  else #[.string ⟨(tell n j).toArray⟩, .int .i64 0]
/-- a value that may be told: what it holds is not too great to be looked at -/
structure Fine (n : Nat) (j : J n) : Prop where
  fit : Fit n j
  nodes : nodes n j ≤ 100000
  depth : depth n j ≤ 100000
  len : (tell n j).length ≤ 100000000
set_option maxRecDepth 100000 in
set_option maxHeartbeats 2000000 in
theorem tellJ_any (n : Nat) (j : J n) (v : Value) (w : World) (hSt : S0 w n j v) (hF : Fine n j) (hT : Tab w.heap.size w) :
    Calls Tryd.prog 12 #[v] w fun e w' => e = .returned (.tuple (toldE n j)) ∧ Below w.heap.size w w' := by
  have HM : Hid (Calls Tryd.prog 20 #[v] w fun e w' => e = .returned (.agg #[.int .i64 (nodes n j), .int .i64 (depth n j), .int .i64 (lens n j)]) ∧ Below w.heap.size w w') := measure_ok n _ j v w hSt hF.nodes hF.depth (Nat.le_trans (lens_le n j) hF.len)
  have HX : Hid (∀ w1, Below w.heap.size w w1 → Calls Tryd.prog 21 #[v] w1 fun e w' => e = .returned (.string ⟨(tell n j).toArray⟩) ∧ Below w1.heap.size w1 w') := fun w1 hb =>
    text_any n _ j v w1 (hSt.on hb) hF.fit ((hT.below hb).mono hb.size) hF.len
  have HE : Hid (toldE n j = if 10 < depth n j then #[.string ByteArray.empty, .int .i64 4] else if 200 < nodes n j then #[.string ByteArray.empty, .int .i64 2] else if 2000 < (tell n j).length then #[.string ByteArray.empty, .int .i64 2] else #[.string ⟨(tell n j).toArray⟩, .int .i64 0]) := rfl
  have hn1 := hF.nodes
  have hd1 := hF.depth
  have hsz : (⟨(tell n j).toArray⟩ : ByteArray).size = (tell n j).length := size_of _
  have hlen := hF.len
  have hbl := lens_le n j
  clear hSt hF hT
  generalize toldE n j = res at *
  generalize nodes n j = nn at *
  generalize depth n j = dd at *
  generalize lens n j = bb at *
  generalize (tell n j).length = ll at *
  generalize (⟨(tell n j).toArray⟩ : ByteArray) = tx at *
  go_enter Tryd.func12, Tryd.ntmps12
  go_wp2_with fail
  refine Calls.mono HM.out ?_
  rintro e w1 ⟨rfl, b1⟩
  have hxa : (w1.alloc (.cells #[.int .i64 nn, .int .i64 dd, .int .i64 bb] 45)).heap[w1.heap.size]? = some (.cells #[.int .i64 nn, .int .i64 dd, .int .i64 bb] 45 (0, 0)) := heap_alloc_new w1 _
  have x0 : (w1.alloc (.cells #[.int .i64 nn, .int .i64 dd, .int .i64 bb] 45)).cell? ⟨w1.heap.size, 0, none⟩ = some (.int .i64 nn) := by rw [cell_of_row _ _ _ _ _ _ hxa]; rfl
  have x1 : (w1.alloc (.cells #[.int .i64 nn, .int .i64 dd, .int .i64 bb] 45)).cell? ⟨w1.heap.size, 1, none⟩ = some (.int .i64 dd) := by rw [cell_of_row _ _ _ _ _ _ hxa]; rfl
  have x2 : (w1.alloc (.cells #[.int .i64 nn, .int .i64 dd, .int .i64 bb] 45)).cell? ⟨w1.heap.size, 2, none⟩ = some (.int .i64 bb) := by rw [cell_of_row _ _ _ _ _ _ hxa]; rfl
  have HBa : Hid (Below w.heap.size w (w1.alloc (.cells #[.int .i64 nn, .int .i64 dd, .int .i64 bb] 45))) := b1.alloc b1.size _
  clear hxa b1
  by_cases h10 : 10 < dd
  · have hI : (10 : Int) < (dd : Int) := by omega
    have HR : Hid (res = #[.string ByteArray.empty, .int .i64 4]) := by show _ = _; rw [HE.out, if_pos h10]
    go_wp2_with fail
    go_ret2
    exact ⟨by rw [HR.out]; rfl, HBa.out⟩
  · have hI : ¬ (10 : Int) < (dd : Int) := by omega
    by_cases h200 : 200 < nn
    · have hI2 : (200 : Int) < (nn : Int) := by omega
      have HR : Hid (res = #[.string ByteArray.empty, .int .i64 2]) := by show _ = _; rw [HE.out, if_neg h10, if_pos h200]
      go_wp2_with fail
      go_ret2
      exact ⟨by rw [HR.out]; rfl, HBa.out⟩
    · have hI2 : ¬ (200 : Int) < (nn : Int) := by omega
      have HR0 : Hid (res = if 2000 < ll then #[.string ByteArray.empty, .int .i64 2] else #[.string tx, .int .i64 0]) := by show _ = _; rw [HE.out, if_neg h10, if_neg h200]
      clear h10 h200
      by_cases hbb : 2000 < bb
      · have hI4 : (2000 : Int) < (bb : Int) := by omega
        have HR : Hid (res = #[.string ByteArray.empty, .int .i64 2]) := by show _ = _; rw [HR0.out, if_pos (by omega)]
        go_wp2_with fail
        go_ret2
        exact ⟨by rw [HR.out]; rfl, HBa.out⟩
      · have hI4 : ¬ (2000 : Int) < (bb : Int) := by omega
        go_wp2_with fail
        generalize w1.alloc (.cells #[.int .i64 nn, .int .i64 dd, .int .i64 bb] 45) = wa at *
        refine Calls.mono (HX.out _ HBa.out) ?_
        rintro e w2 ⟨rfl, b2⟩
        have HB2 : Hid (Below w.heap.size w w2) := HBa.out.trans (b2.mono HBa.out.size)
        clear b2 x0 x1 x2
        by_cases h2000 : 2000 < ll
        · have hI3 : (2000 : Int) < (tx.size : Int) := by omega
          have HR : Hid (res = #[.string ByteArray.empty, .int .i64 2]) := by show _ = _; rw [HR0.out, if_pos h2000]
          go_wp2_with fail
          go_ret2
          exact ⟨by rw [HR.out]; rfl, HB2.out⟩
        · have hI3 : ¬ (2000 : Int) < (tx.size : Int) := by omega
          have HR : Hid (res = #[.string tx, .int .i64 0]) := by show _ = _; rw [HR0.out, if_neg h2000]
          go_wp2_with fail
          go_ret2
          exact ⟨by rw [HR.out]; rfl, HB2.out⟩
/-- a text read as a value, with room -/
def rd20 (N : Nat) (s : Bs) : Except Nat (J N) := (read s).map (lift 10 N)
theorem rd20_err {N : Nat} {s : Bs} {e : Nat} (h : read s = .error e) : rd20 N s = .error e := by unfold rd20; rw [h]; rfl
theorem rd20_ok {N : Nat} {s : Bs} {j : J 10} (h : read s = .ok j) : rd20 N s = .ok (lift 10 N j) := by unfold rd20; rw [h]; rfl
theorem st_lift {av : Nat → Prop} {w : World} : ∀ (n m : Nat) (j : J n) (v : Value), depth n j ≤ m → St av w n j v → St av w m (lift n m j) v
  | 0, m, l, v, _, h => by
    have e : v = leafV l := h
    subst e
    exact st_leaf av w m l
  | _ + 1, m, Sum.inl l, v, _, h => by
    have e : v = leafV l := h
    subst e
    exact st_leaf av w m l
  | n + 1, 0, Sum.inr (Sum.inl xs), v, hd, h => by
    have h1 : 1 + maxOf (xs.map (depth n)) ≤ 0 := hd
    omega
  | n + 1, 0, Sum.inr (Sum.inr fs), v, hd, h => by
    have h1 : 1 + maxOf (fs.map fun f => depth n f.2) ≤ 0 := hd
    omega
  | n + 1, m + 1, Sum.inr (Sum.inl xs), v, hd, h => by
    rcases h with ⟨rfl, rfl⟩ | ⟨g, cap, vs, hv, hl, hc, hm, hg, hlt, hcell, hel⟩
    · exact Or.inl ⟨rfl, rfl⟩
    · refine Or.inr ⟨g, cap, vs, by rw [hv, List.length_map], by rw [hl, List.length_map], by rw [List.length_map]; exact hc, hm, hg, hlt, hcell, fun i x u hx hu => ?_⟩
      rw [List.getElem?_map] at hx
      obtain ⟨y, hy, rfl⟩ := Option.map_eq_some_iff.1 hx
      exact st_lift n m y u (deep_item hd y (List.mem_of_getElem? hy)) (hel i y u hy hu)
  | n + 1, m + 1, Sum.inr (Sum.inr fs), v, hd, h => by
    rcases h with ⟨rfl, rfl⟩ | ⟨g, cap, vs, hv, hl, hc, hm, hg, hlt, hcell, hel⟩
    · exact Or.inl ⟨rfl, rfl⟩
    · refine Or.inr ⟨g, cap, vs, by rw [hv, List.length_map], by rw [hl, List.length_map], by rw [List.length_map]; exact hc, hm, hg, hlt, fun i f u hf hu => ?_, fun i f u hf hu => ?_⟩
      · rw [List.getElem?_map] at hf
        obtain ⟨y, hy, rfl⟩ := Option.map_eq_some_iff.1 hf
        exact hcell i y u hy hu
      · rw [List.getElem?_map] at hf
        obtain ⟨y, hy, rfl⟩ := Option.map_eq_some_iff.1 hf
        exact st_lift n m y.2 u (deep_field hd y (List.mem_of_getElem? hy)) (hel i y u hy hu)
set_option maxRecDepth 100000 in
set_option maxHeartbeats 2000000 in
theorem read20_any (N : Nat) (hN : 20 ≤ N) (t : ByteArray) (w : World) (hs : t.size ≤ maxLen) :
    Calls Tryd.prog 11 #[.string t] w fun e w' => Below w.heap.size w w' ∧ ((∃ er : Nat, rd20 N t.data.toList = .error er ∧ er ≠ 0 ∧ er < 100 ∧ e = .returned (.tuple #[.nilIface, .int .i64 er])) ∨ ∃ (D : J N) (T : TypeId) (x : Value), rd20 N t.data.toList = .ok D ∧ e = .returned (.tuple #[.iface T x, .int .i64 0]) ∧ S0 w' N D (.iface T x)) := by
  refine (read_any t w hs).mono ?_
  rintro e w1 ⟨b1, h1⟩
  refine ⟨b1, ?_⟩
  rcases h1 with ⟨er, hr, h2, h3, rfl⟩ | ⟨j, v, hr, rfl, ⟨T, x, rfl⟩, hst⟩
  · exact Or.inl ⟨er, rd20_err hr, h2, h3, rfl⟩
  · exact Or.inr ⟨lift 10 N j, T, x, rd20_ok hr, rfl, st_lift 10 N j _ (Nat.le_trans (depth_bound 10 j) (by omega)) hst.s0⟩
/-- within the limits of documents -/
structure Told20 (N : Nat) (D : J N) : Prop where
  good : Good N D
  nodes : nodes N D ≤ 200
  depth : depth N D ≤ 10
  len : (tell N D).length ≤ 2000
theorem rd20_told {N : Nat} (hN : 20 ≤ N) {s : Bs} {D : J N} (h : rd20 N s = .ok D) : Told20 N D := by
  unfold rd20 at h
  cases hr : read s with
  | error e => rw [hr] at h; cases h
  | ok j =>
    rw [hr] at h
    have e : lift 10 N j = D := by
      have h' : Except.ok (lift 10 N j) = (Except.ok D : Except Nat (J N)) := h
      exact Except.ok.inj h'
    subst e
    have hs := lift_said 10 N j (Nat.le_trans (depth_bound 10 j) (by omega))
    have h1 := read_size hr
    have h2 := read_short hr
    exact ⟨good_lift _ _ _ (read_good hr), by rw [hs.2.1]; omega, by rw [hs.2.2.1]; omega, by rw [hs.1]; omega⟩
theorem Told20.fine {N : Nat} {D : J N} (h : Told20 N D) : Fine N D := ⟨fit_of_good _ _ h.good, by have := h.nodes; omega, by have := h.depth; omega, by have := h.len; omega⟩
theorem Told20.told {N : Nat} {D : J N} (h : Told20 N D) : toldE N D = #[.string ⟨(tell N D).toArray⟩, .int .i64 0] := by
  unfold toldE
  rw [if_neg (by have := h.depth; omega), if_neg (by have := h.nodes; omega), if_neg (by have := h.len; omega)]
/-- what is told is read as it was -/
theorem Told20.again {N : Nat} {D : J N} (hN : 20 ≤ N) (h : Told20 N D) : rd20 N (tell N D) = .ok D := by
  rw [rd20_ok (read_told h.good h.nodes h.depth h.len), lift_lift _ _ _ _ h.depth, lift_self]
theorem toldE_form (n : Nat) (j : J n) : ∃ (s : ByteArray) (er : Nat), toldE n j = #[.string s, .int .i64 er] := by
  unfold toldE
  split
  · exact ⟨_, 4, rfl⟩
  · split
    · exact ⟨_, 2, rfl⟩
    · split
      · exact ⟨_, 2, rfl⟩
      · exact ⟨_, 0, rfl⟩
end Go.Proofs.YtjcdklbimaclkaaDoor
