/- Contracts over this translation: what was made is told; a document and a pointer are read; the last step apart. -/
import Derived.Test.YthdgfehfoidnbabGreatDoorPtrChangeP
import Derived.Test.YthdgfehfoidnbabGreatDoorSizeAny
namespace Go.Proofs.YthdgfehfoidnbabGreatDoor
open Go.RowKit
set_option linter.unusedVariables false
set_option linter.unusedSimpArgs false
/-- what is told of a value -/
def toldE (n : Nat) (j : J n) : Array Value :=
  if 10 < depth n j then #[.string ByteArray.empty, .int .i64 4]
  else if 200 < nodes n j then #[.string ByteArray.empty, .int .i64 2]
  else if 2000 < (tell n j).length then #[.string ByteArray.empty, .int .i64 2]
  else #[.string ⟨(tell n j).toArray⟩, .int .i64 0]
/-- a value that may be told: what it holds is not too great to be looked at -/
structure Fine (n : Nat) (j : J n) : Prop where
  fit : Fit n j
  nodes : nodes n j ≤ 100000
  depth : depth n j ≤ 100000
  len : (tell n j).length ≤ 100000000
set_option maxRecDepth 100000 in
set_option maxHeartbeats 2000000 in
theorem tellJ_any (n : Nat) (j : J n) (v : Value) (w : World) (hSt : S0 w n j v) (hF : Fine n j) (hT : Tab w.heap.size w) :
    Calls Tryz.prog 16 #[v] w fun e w' => e = .returned (.tuple (toldE n j)) ∧ Below w.heap.size w w' := by
  have HM : Hid (Calls Tryz.prog 29 #[v] w fun e w' => e = .returned (.agg #[.int .i64 (nodes n j), .int .i64 (depth n j)]) ∧ Below w.heap.size w w') := measure_ok n _ j v w hSt hF.nodes hF.depth
  have HX : Hid (∀ w1, Below w.heap.size w w1 → Calls Tryz.prog 32 #[v] w1 fun e w' => e = .returned (.string ⟨(tell n j).toArray⟩) ∧ Below w1.heap.size w1 w') := fun w1 hb =>
    text_any n _ j v w1 (hSt.on hb) hF.fit ((hT.below hb).mono hb.size) hF.len
  have HE : Hid (toldE n j = if 10 < depth n j then #[.string ByteArray.empty, .int .i64 4] else if 200 < nodes n j then #[.string ByteArray.empty, .int .i64 2] else if 2000 < (tell n j).length then #[.string ByteArray.empty, .int .i64 2] else #[.string ⟨(tell n j).toArray⟩, .int .i64 0]) := rfl
  have hn1 := hF.nodes
  have hd1 := hF.depth
  have hsz : (⟨(tell n j).toArray⟩ : ByteArray).size = (tell n j).length := size_of _
  have hlen := hF.len
  clear hSt hF hT
  generalize toldE n j = res at *
  generalize nodes n j = nn at *
  generalize depth n j = dd at *
  generalize (tell n j).length = ll at *
  generalize (⟨(tell n j).toArray⟩ : ByteArray) = tx at *
  go_enter Tryz.func16, Tryz.ntmps16
  go_wp2_with fail
  refine Calls.mono HM.out ?_
  rintro e w1 ⟨rfl, b1⟩
  have hxa : (w1.alloc (.cells #[.int .i64 nn, .int .i64 dd] 54)).heap[w1.heap.size]? = some (.cells #[.int .i64 nn, .int .i64 dd] 54 (0, 0)) := heap_alloc_new w1 _
  have x0 : (w1.alloc (.cells #[.int .i64 nn, .int .i64 dd] 54)).cell? ⟨w1.heap.size, 0, none⟩ = some (.int .i64 nn) := by rw [cell_of_row _ _ _ _ _ _ hxa]; rfl
  have x1 : (w1.alloc (.cells #[.int .i64 nn, .int .i64 dd] 54)).cell? ⟨w1.heap.size, 1, none⟩ = some (.int .i64 dd) := by rw [cell_of_row _ _ _ _ _ _ hxa]; rfl
  have HBa : Hid (Below w.heap.size w (w1.alloc (.cells #[.int .i64 nn, .int .i64 dd] 54))) := b1.alloc b1.size _
  clear hxa b1
  by_cases h10 : 10 < dd
  · have hI : (10 : Int) < (dd : Int) := by omega
    have HR : Hid (res = #[.string ByteArray.empty, .int .i64 4]) := by show _ = _; rw [HE.out, if_pos h10]
    go_wp2_with fail
    go_ret2
    exact ⟨by rw [HR.out]; rfl, HBa.out⟩
  · have hI : ¬ (10 : Int) < (dd : Int) := by omega
    by_cases h200 : 200 < nn
    · have hI2 : (200 : Int) < (nn : Int) := by omega
      have HR : Hid (res = #[.string ByteArray.empty, .int .i64 2]) := by show _ = _; rw [HE.out, if_neg h10, if_pos h200]
      go_wp2_with fail
      go_ret2
      exact ⟨by rw [HR.out]; rfl, HBa.out⟩
    · have hI2 : ¬ (200 : Int) < (nn : Int) := by omega
      have HR0 : Hid (res = if 2000 < ll then #[.string ByteArray.empty, .int .i64 2] else #[.string tx, .int .i64 0]) := by show _ = _; rw [HE.out, if_neg h10, if_neg h200]
      clear h10 h200
      go_wp2_with fail
      generalize w1.alloc (.cells #[.int .i64 nn, .int .i64 dd] 54) = wa at *
      refine Calls.mono (HX.out _ HBa.out) ?_
      rintro e w2 ⟨rfl, b2⟩
      have HB2 : Hid (Below w.heap.size w w2) := HBa.out.trans (b2.mono HBa.out.size)
      clear b2 x0 x1
      by_cases h2000 : 2000 < ll
      · have hI3 : (2000 : Int) < (tx.size : Int) := by omega
        have HR : Hid (res = #[.string ByteArray.empty, .int .i64 2]) := by show _ = _; rw [HR0.out, if_pos h2000]
        go_wp2_with fail
        go_ret2
        exact ⟨by rw [HR.out]; rfl, HB2.out⟩
      · have hI3 : ¬ (2000 : Int) < (tx.size : Int) := by omega
        have HR : Hid (res = #[.string tx, .int .i64 0]) := by show _ = _; rw [HR0.out, if_neg h2000]
        go_wp2_with fail
        go_ret2
        exact ⟨by rw [HR.out]; rfl, HB2.out⟩
/-- a text read as a value, with room -/
def rd20 (N : Nat) (s : Bs) : Except Nat (J N) := (read s).map (lift 10 N)
theorem rd20_err {N : Nat} {s : Bs} {e : Nat} (h : read s = .error e) : rd20 N s = .error e := by unfold rd20; rw [h]; rfl
theorem rd20_ok {N : Nat} {s : Bs} {j : J 10} (h : read s = .ok j) : rd20 N s = .ok (lift 10 N j) := by unfold rd20; rw [h]; rfl
/-- what is known of what was read of a document and a pointer -/
def DocPost (N : Nat) (doc p : Bs) (w : World) (e : Ending) (w' : World) : Prop :=
  Below w.heap.size w w' ∧ ((∃ er : Nat, rd20 N doc = .error er ∧ er ≠ 0 ∧ er < 100 ∧ e = .returned (.tuple #[.nilIface, .slice none 0 0, .int .i64 er])) ∨
    (∃ (D : J N) (er : Nat), rd20 N doc = .ok D ∧ stepsE p = .error er ∧ er ≠ 0 ∧ er < 100 ∧ e = .returned (.tuple #[.nilIface, .slice none 0 0, .int .i64 er])) ∨
    ∃ (D : J N) (L : List Bs) (T : TypeId) (x : Value) (q : Option Addr) (cap : Nat), rd20 N doc = .ok D ∧ stepsE p = .ok L ∧ e = .returned (.tuple #[.iface T x, .slice q L.length cap, .int .i64 0]) ∧ S0 w' N D (.iface T x) ∧ Strs w' (.slice q L.length cap) L)
theorem st_lift {av : Nat → Prop} {w : World} : ∀ (n m : Nat) (j : J n) (v : Value), depth n j ≤ m → St av w n j v → St av w m (lift n m j) v
  | 0, m, l, v, _, h => by
    have e : v = leafV l := h
    subst e
    exact st_leaf av w m l
  | _ + 1, m, Sum.inl l, v, _, h => by
    have e : v = leafV l := h
    subst e
    exact st_leaf av w m l
  | n + 1, 0, Sum.inr (Sum.inl xs), v, hd, h => by
    have h1 : 1 + maxOf (xs.map (depth n)) ≤ 0 := hd
    omega
  | n + 1, 0, Sum.inr (Sum.inr fs), v, hd, h => by
    have h1 : 1 + maxOf (fs.map fun f => depth n f.2) ≤ 0 := hd
    omega
  | n + 1, m + 1, Sum.inr (Sum.inl xs), v, hd, h => by
    rcases h with ⟨rfl, rfl⟩ | ⟨g, cap, vs, hv, hl, hc, hm, hg, hlt, hcell, hel⟩
    · exact Or.inl ⟨rfl, rfl⟩
    · refine Or.inr ⟨g, cap, vs, by rw [hv, List.length_map], by rw [hl, List.length_map], by rw [List.length_map]; exact hc, hm, hg, hlt, hcell, fun i x u hx hu => ?_⟩
      rw [List.getElem?_map] at hx
      obtain ⟨y, hy, rfl⟩ := Option.map_eq_some_iff.1 hx
      exact st_lift n m y u (deep_item hd y (List.mem_of_getElem? hy)) (hel i y u hy hu)
  | n + 1, m + 1, Sum.inr (Sum.inr fs), v, hd, h => by
    rcases h with ⟨rfl, rfl⟩ | ⟨g, cap, vs, hv, hl, hc, hm, hg, hlt, hcell, hel⟩
    · exact Or.inl ⟨rfl, rfl⟩
    · refine Or.inr ⟨g, cap, vs, by rw [hv, List.length_map], by rw [hl, List.length_map], by rw [List.length_map]; exact hc, hm, hg, hlt, fun i f u hf hu => ?_, fun i f u hf hu => ?_⟩
      · rw [List.getElem?_map] at hf
        obtain ⟨y, hy, rfl⟩ := Option.map_eq_some_iff.1 hf
        exact hcell i y u hy hu
      · rw [List.getElem?_map] at hf
        obtain ⟨y, hy, rfl⟩ := Option.map_eq_some_iff.1 hf
        exact st_lift n m y.2 u (deep_field hd y (List.mem_of_getElem? hy)) (hel i y u hy hu)
set_option maxRecDepth 100000 in
set_option maxHeartbeats 2000000 in
theorem read20_any (N : Nat) (hN : 20 ≤ N) (t : ByteArray) (w : World) (hs : t.size ≤ 8000000) :
    Calls Tryz.prog 17 #[.string t] w fun e w' => Below w.heap.size w w' ∧ ((∃ er : Nat, rd20 N t.data.toList = .error er ∧ er ≠ 0 ∧ er < 100 ∧ e = .returned (.tuple #[.nilIface, .int .i64 er])) ∨ ∃ (D : J N) (T : TypeId) (x : Value), rd20 N t.data.toList = .ok D ∧ e = .returned (.tuple #[.iface T x, .int .i64 0]) ∧ S0 w' N D (.iface T x)) := by
  refine (read_any t w (by unfold maxLen; omega)).mono ?_
  rintro e w1 ⟨b1, h1⟩
  refine ⟨b1, ?_⟩
  rcases h1 with ⟨er, hr, h2, h3, rfl⟩ | ⟨j, v, hr, rfl, ⟨T, x, rfl⟩, hst⟩
  · exact Or.inl ⟨er, rd20_err hr, h2, h3, rfl⟩
  · exact Or.inr ⟨lift 10 N j, T, x, rd20_ok hr, rfl, st_lift 10 N j _ (Nat.le_trans (depth_bound 10 j) (by omega)) hst.s0⟩
set_option maxRecDepth 100000 in
set_option maxHeartbeats 2000000 in
theorem readDoc_any (N : Nat) (hN : 20 ≤ N) (doc p : ByteArray) (w : World) (hd' : doc.size ≤ 8000000) (hp : p.size ≤ 8000000) (hE : Env w) :
    Calls Tryz.prog 14 #[.string doc, .string p] w (DocPost N doc.data.toList p.data.toList w) := by
  have HE : Hid (Env w) := hE
  clear hE
  go_enter Tryz.func14, Tryz.ntmps14
  go_wp2_with fail
  refine (read20_any N hN doc w hd').mono ?_
  rintro e w1 ⟨b1, h1⟩
  have HB1 : Hid (Below w.heap.size w w1) := b1
  clear b1
  rcases h1 with ⟨er, h2, h3, h4, rfl⟩ | ⟨D, T, x, h2, rfl, h3⟩
  · have HR : Hid (rd20 N doc.data.toList = .error er) := h2
    have hbe : ((er : Int) != 0) = true := by rw [bne_iff_ne]; omega
    clear h2
    go_wp2_with fail
    exact bodyPost_ret (v := .tuple #[.nilIface, .slice none 0 0, .int .i64 er]) (by simp [results, Tryz.results14, go_sem]) rfl ⟨HB1.out, Or.inl ⟨er, HR.out, h3, h4, rfl⟩⟩
  · have HR : Hid (rd20 N doc.data.toList = .ok D) := h2
    have HS : Hid (S0 w1 N D (.iface T x)) := h3
    clear h2 h3
    go_wp2_with fail
    refine (steps_any p w1 hp (HE.out.below HB1.out).room).mono ?_
    rintro e w2 ⟨b2, h2⟩
    have HB2 : Hid (Below w.heap.size w w2) := HB1.out.trans (b2.mono HB1.out.size)
    have HS2 : Hid (S0 w2 N D (.iface T x)) := HS.out.on b2
    clear b2
    rcases h2 with ⟨er, h2, h3, h4, rfl⟩ | ⟨L, v, h2, rfl, h3⟩
    · have HR2 : Hid (stepsE p.data.toList = .error er) := h2
      have hbe : ((er : Int) != 0) = true := by rw [bne_iff_ne]; omega
      clear h2
      go_wp2_with fail
      exact bodyPost_ret (v := .tuple #[.nilIface, .slice none 0 0, .int .i64 er]) (by simp [results, Tryz.results14, go_sem]) rfl ⟨HB2.out, Or.inr (Or.inl ⟨D, er, HR.out, HR2.out, h3, h4, rfl⟩)⟩
    · have HR2 : Hid (stepsE p.data.toList = .ok L) := h2
      have hq : ∃ q cap, v = .slice q L.length cap := by
        rcases h3 with ⟨rfl, q, c, h⟩ | ⟨g, o, cap, h, _⟩
        · exact ⟨q, c, h⟩
        · exact ⟨_, _, h⟩
      obtain ⟨q, cap, rfl⟩ := hq
      have HL : Hid (Strs w2 (.slice q L.length cap) L) := h3
      clear h2 h3
      go_wp2_with fail
      exact bodyPost_ret (v := .tuple #[.iface T x, .slice q L.length cap, .int .i64 0]) (by simp [results, Tryz.results14, go_sem]) rfl ⟨HB2.out, Or.inr (Or.inr ⟨D, L, T, x, q, cap, HR.out, HR2.out, rfl, HS2.out, HL.out⟩)⟩
end Go.Proofs.YthdgfehfoidnbabGreatDoor
