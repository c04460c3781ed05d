/- Several texts in one: PtrTell, DocToldL, PtrSub, PtrGet, PtrPutTop. -/
import Derived.Test.YthdgfehfoidnbabGreatDoorM11
import Derived.Test.YthdgfehfoidnbabGreatDoorM03
/- Contracts over this translation: what was made is told; a document and a pointer are read; the last step apart. -/
namespace Go.Proofs.YthdgfehfoidnbabGreatDoor
open Go.RowKit
set_option linter.unusedVariables false
set_option linter.unusedSimpArgs false
/-- what is told of a value -/
def toldE (n : Nat) (j : J n) : Array Value :=
  if 10 < depth n j then #[.string ByteArray.empty, .int .i64 4]
  else if 200 < nodes n j then #[.string ByteArray.empty, .int .i64 2]
  else if 2000 < (tell n j).length then #[.string ByteArray.empty, .int .i64 2]
  else #[.string ⟨(tell n j).toArray⟩, .int .i64 0]
/-- a value that may be told: what it holds is not too great to be looked at -/
structure Fine (n : Nat) (j : J n) : Prop where
  fit : Fit n j
  nodes : nodes n j ≤ 100000
  depth : depth n j ≤ 100000
  len : (tell n j).length ≤ 100000000
set_option maxRecDepth 100000 in
set_option maxHeartbeats 2000000 in
theorem tellJ_any (n : Nat) (j : J n) (v : Value) (w : World) (hSt : S0 w n j v) (hF : Fine n j) (hT : Tab w.heap.size w) :
    Calls Tryz.prog 16 #[v] w fun e w' => e = .returned (.tuple (toldE n j)) ∧ Below w.heap.size w w' := by
  have HM : Hid (Calls Tryz.prog 29 #[v] w fun e w' => e = .returned (.agg #[.int .i64 (nodes n j), .int .i64 (depth n j)]) ∧ Below w.heap.size w w') := measure_ok n _ j v w hSt hF.nodes hF.depth
  have HX : Hid (∀ w1, Below w.heap.size w w1 → Calls Tryz.prog 32 #[v] w1 fun e w' => e = .returned (.string ⟨(tell n j).toArray⟩) ∧ Below w1.heap.size w1 w') := fun w1 hb =>
    text_any n _ j v w1 (hSt.on hb) hF.fit ((hT.below hb).mono hb.size) hF.len
  have HE : Hid (toldE n j = if 10 < depth n j then #[.string ByteArray.empty, .int .i64 4] else if 200 < nodes n j then #[.string ByteArray.empty, .int .i64 2] else if 2000 < (tell n j).length then #[.string ByteArray.empty, .int .i64 2] else #[.string ⟨(tell n j).toArray⟩, .int .i64 0]) := rfl
  have hn1 := hF.nodes
  have hd1 := hF.depth
  have hsz : (⟨(tell n j).toArray⟩ : ByteArray).size = (tell n j).length := size_of _
  have hlen := hF.len
  clear hSt hF hT
  generalize toldE n j = res at *
  generalize nodes n j = nn at *
  generalize depth n j = dd at *
  generalize (tell n j).length = ll at *
  generalize (⟨(tell n j).toArray⟩ : ByteArray) = tx at *
  go_enter Tryz.func16, Tryz.ntmps16
  go_wp2_with fail
  refine Calls.mono HM.out ?_
  rintro e w1 ⟨rfl, b1⟩
  have hxa : (w1.alloc (.cells #[.int .i64 nn, .int .i64 dd] 54)).heap[w1.heap.size]? = some (.cells #[.int .i64 nn, .int .i64 dd] 54 (0, 0)) := heap_alloc_new w1 _
  have x0 : (w1.alloc (.cells #[.int .i64 nn, .int .i64 dd] 54)).cell? ⟨w1.heap.size, 0, none⟩ = some (.int .i64 nn) := by rw [cell_of_row _ _ _ _ _ _ hxa]; rfl
  have x1 : (w1.alloc (.cells #[.int .i64 nn, .int .i64 dd] 54)).cell? ⟨w1.heap.size, 1, none⟩ = some (.int .i64 dd) := by rw [cell_of_row _ _ _ _ _ _ hxa]; rfl
  have HBa : Hid (Below w.heap.size w (w1.alloc (.cells #[.int .i64 nn, .int .i64 dd] 54))) := b1.alloc b1.size _
  clear hxa b1
  by_cases h10 : 10 < dd
  · have hI : (10 : Int) < (dd : Int) := by omega
    have HR : Hid (res = #[.string ByteArray.empty, .int .i64 4]) := by show _ = _; rw [HE.out, if_pos h10]
    go_wp2_with fail
    go_ret2
    exact ⟨by rw [HR.out]; rfl, HBa.out⟩
  · have hI : ¬ (10 : Int) < (dd : Int) := by omega
    by_cases h200 : 200 < nn
    · have hI2 : (200 : Int) < (nn : Int) := by omega
      have HR : Hid (res = #[.string ByteArray.empty, .int .i64 2]) := by show _ = _; rw [HE.out, if_neg h10, if_pos h200]
      go_wp2_with fail
      go_ret2
      exact ⟨by rw [HR.out]; rfl, HBa.out⟩
    · have hI2 : ¬ (200 : Int) < (nn : Int) := by omega
      have HR0 : Hid (res = if 2000 < ll then #[.string ByteArray.empty, .int .i64 2] else #[.string tx, .int .i64 0]) := by show _ = _; rw [HE.out, if_neg h10, if_neg h200]
      clear h10 h200
      go_wp2_with fail
      generalize w1.alloc (.cells #[.int .i64 nn, .int .i64 dd] 54) = wa at *
      refine Calls.mono (HX.out _ HBa.out) ?_
      rintro e w2 ⟨rfl, b2⟩
      have HB2 : Hid (Below w.heap.size w w2) := HBa.out.trans (b2.mono HBa.out.size)
      clear b2 x0 x1
      by_cases h2000 : 2000 < ll
      · have hI3 : (2000 : Int) < (tx.size : Int) := by omega
        have HR : Hid (res = #[.string ByteArray.empty, .int .i64 2]) := by show _ = _; rw [HR0.out, if_pos h2000]
        go_wp2_with fail
        go_ret2
        exact ⟨by rw [HR.out]; rfl, HB2.out⟩
      · have hI3 : ¬ (2000 : Int) < (tx.size : Int) := by omega
        have HR : Hid (res = #[.string tx, .int .i64 0]) := by show _ = _; rw [HR0.out, if_neg h2000]
        go_wp2_with fail
        go_ret2
        exact ⟨by rw [HR.out]; rfl, HB2.out⟩
/-- a text read as a value, with room -/
def rd20 (N : Nat) (s : Bs) : Except Nat (J N) := (read s).map (lift 10 N)
theorem rd20_err {N : Nat} {s : Bs} {e : Nat} (h : read s = .error e) : rd20 N s = .error e := by unfold rd20; rw [h]; rfl
theorem rd20_ok {N : Nat} {s : Bs} {j : J 10} (h : read s = .ok j) : rd20 N s = .ok (lift 10 N j) := by unfold rd20; rw [h]; rfl
/-- what is known of what was read of a document and a pointer -/
def DocPost (N : Nat) (doc p : Bs) (w : World) (e : Ending) (w' : World) : Prop :=
  Below w.heap.size w w' ∧ ((∃ er : Nat, rd20 N doc = .error er ∧ er ≠ 0 ∧ er < 100 ∧ e = .returned (.tuple #[.nilIface, .slice none 0 0, .int .i64 er])) ∨
    (∃ (D : J N) (er : Nat), rd20 N doc = .ok D ∧ stepsE p = .error er ∧ er ≠ 0 ∧ er < 100 ∧ e = .returned (.tuple #[.nilIface, .slice none 0 0, .int .i64 er])) ∨
    ∃ (D : J N) (L : List Bs) (T : TypeId) (x : Value) (q : Option Addr) (cap : Nat), rd20 N doc = .ok D ∧ stepsE p = .ok L ∧ e = .returned (.tuple #[.iface T x, .slice q L.length cap, .int .i64 0]) ∧ S0 w' N D (.iface T x) ∧ Strs w' (.slice q L.length cap) L)
theorem st_lift {av : Nat → Prop} {w : World} : ∀ (n m : Nat) (j : J n) (v : Value), depth n j ≤ m → St av w n j v → St av w m (lift n m j) v
  | 0, m, l, v, _, h => by
    have e : v = leafV l := h
    subst e
    exact st_leaf av w m l
  | _ + 1, m, Sum.inl l, v, _, h => by
    have e : v = leafV l := h
    subst e
    exact st_leaf av w m l
  | n + 1, 0, Sum.inr (Sum.inl xs), v, hd, h => by
    have h1 : 1 + maxOf (xs.map (depth n)) ≤ 0 := hd
    omega
  | n + 1, 0, Sum.inr (Sum.inr fs), v, hd, h => by
    have h1 : 1 + maxOf (fs.map fun f => depth n f.2) ≤ 0 := hd
    omega
  | n + 1, m + 1, Sum.inr (Sum.inl xs), v, hd, h => by
    rcases h with ⟨rfl, rfl⟩ | ⟨g, cap, vs, hv, hl, hc, hm, hg, hlt, hcell, hel⟩
    · exact Or.inl ⟨rfl, rfl⟩
    · refine Or.inr ⟨g, cap, vs, by rw [hv, List.length_map], by rw [hl, List.length_map], by rw [List.length_map]; exact hc, hm, hg, hlt, hcell, fun i x u hx hu => ?_⟩
      rw [List.getElem?_map] at hx
      obtain ⟨y, hy, rfl⟩ := Option.map_eq_some_iff.1 hx
      exact st_lift n m y u (deep_item hd y (List.mem_of_getElem? hy)) (hel i y u hy hu)
  | n + 1, m + 1, Sum.inr (Sum.inr fs), v, hd, h => by
    rcases h with ⟨rfl, rfl⟩ | ⟨g, cap, vs, hv, hl, hc, hm, hg, hlt, hcell, hel⟩
    · exact Or.inl ⟨rfl, rfl⟩
    · refine Or.inr ⟨g, cap, vs, by rw [hv, List.length_map], by rw [hl, List.length_map], by rw [List.length_map]; exact hc, hm, hg, hlt, fun i f u hf hu => ?_, fun i f u hf hu => ?_⟩
      · rw [List.getElem?_map] at hf
        obtain ⟨y, hy, rfl⟩ := Option.map_eq_some_iff.1 hf
        exact hcell i y u hy hu
      · rw [List.getElem?_map] at hf
        obtain ⟨y, hy, rfl⟩ := Option.map_eq_some_iff.1 hf
        exact st_lift n m y.2 u (deep_field hd y (List.mem_of_getElem? hy)) (hel i y u hy hu)
set_option maxRecDepth 100000 in
set_option maxHeartbeats 2000000 in
theorem read20_any (N : Nat) (hN : 20 ≤ N) (t : ByteArray) (w : World) (hs : t.size ≤ 8000000) :
    Calls Tryz.prog 17 #[.string t] w fun e w' => Below w.heap.size w w' ∧ ((∃ er : Nat, rd20 N t.data.toList = .error er ∧ er ≠ 0 ∧ er < 100 ∧ e = .returned (.tuple #[.nilIface, .int .i64 er])) ∨ ∃ (D : J N) (T : TypeId) (x : Value), rd20 N t.data.toList = .ok D ∧ e = .returned (.tuple #[.iface T x, .int .i64 0]) ∧ S0 w' N D (.iface T x)) := by
  refine (read_any t w (by unfold maxLen; omega)).mono ?_
  rintro e w1 ⟨b1, h1⟩
  refine ⟨b1, ?_⟩
  rcases h1 with ⟨er, hr, h2, h3, rfl⟩ | ⟨j, v, hr, rfl, ⟨T, x, rfl⟩, hst⟩
  · exact Or.inl ⟨er, rd20_err hr, h2, h3, rfl⟩
  · exact Or.inr ⟨lift 10 N j, T, x, rd20_ok hr, rfl, st_lift 10 N j _ (Nat.le_trans (depth_bound 10 j) (by omega)) hst.s0⟩
set_option maxRecDepth 100000 in
set_option maxHeartbeats 2000000 in
theorem readDoc_any (N : Nat) (hN : 20 ≤ N) (doc p : ByteArray) (w : World) (hd' : doc.size ≤ 8000000) (hp : p.size ≤ 8000000) (hE : Env w) :
    Calls Tryz.prog 14 #[.string doc, .string p] w (DocPost N doc.data.toList p.data.toList w) := by
  have HE : Hid (Env w) := hE
  clear hE
  go_enter Tryz.func14, Tryz.ntmps14
  go_wp2_with fail
  refine (read20_any N hN doc w hd').mono ?_
  rintro e w1 ⟨b1, h1⟩
  have HB1 : Hid (Below w.heap.size w w1) := b1
  clear b1
  rcases h1 with ⟨er, h2, h3, h4, rfl⟩ | ⟨D, T, x, h2, rfl, h3⟩
  · have HR : Hid (rd20 N doc.data.toList = .error er) := h2
    have hbe : ((er : Int) != 0) = true := by rw [bne_iff_ne]; omega
    clear h2
    go_wp2_with fail
    exact bodyPost_ret (v := .tuple #[.nilIface, .slice none 0 0, .int .i64 er]) (by simp [results, Tryz.results14, go_sem]) rfl ⟨HB1.out, Or.inl ⟨er, HR.out, h3, h4, rfl⟩⟩
  · have HR : Hid (rd20 N doc.data.toList = .ok D) := h2
    have HS : Hid (S0 w1 N D (.iface T x)) := h3
    clear h2 h3
    go_wp2_with fail
    refine (steps_any p w1 hp (HE.out.below HB1.out).room).mono ?_
    rintro e w2 ⟨b2, h2⟩
    have HB2 : Hid (Below w.heap.size w w2) := HB1.out.trans (b2.mono HB1.out.size)
    have HS2 : Hid (S0 w2 N D (.iface T x)) := HS.out.on b2
    clear b2
    rcases h2 with ⟨er, h2, h3, h4, rfl⟩ | ⟨L, v, h2, rfl, h3⟩
    · have HR2 : Hid (stepsE p.data.toList = .error er) := h2
      have hbe : ((er : Int) != 0) = true := by rw [bne_iff_ne]; omega
      clear h2
      go_wp2_with fail
      exact bodyPost_ret (v := .tuple #[.nilIface, .slice none 0 0, .int .i64 er]) (by simp [results, Tryz.results14, go_sem]) rfl ⟨HB2.out, Or.inr (Or.inl ⟨D, er, HR.out, HR2.out, h3, h4, rfl⟩)⟩
    · have HR2 : Hid (stepsE p.data.toList = .ok L) := h2
      have hq : ∃ q cap, v = .slice q L.length cap := by
        rcases h3 with ⟨rfl, q, c, h⟩ | ⟨g, o, cap, h, _⟩
        · exact ⟨q, c, h⟩
        · exact ⟨_, _, h⟩
      obtain ⟨q, cap, rfl⟩ := hq
      have HL : Hid (Strs w2 (.slice q L.length cap) L) := h3
      clear h2 h3
      go_wp2_with fail
      exact bodyPost_ret (v := .tuple #[.iface T x, .slice q L.length cap, .int .i64 0]) (by simp [results, Tryz.results14, go_sem]) rfl ⟨HB2.out, Or.inr (Or.inr ⟨D, L, T, x, q, cap, HR.out, HR2.out, rfl, HS2.out, HL.out⟩)⟩
end Go.Proofs.YthdgfehfoidnbabGreatDoor
/- Plain facts: what is told of a value is read as just that value, wherever there is room. -/
namespace Go.Proofs.YthdgfehfoidnbabGreatDoor
set_option linter.unusedVariables false
set_option linter.unusedSimpArgs false
/-- what comes of reading what is told, at whatever depth and count -/
def ToldL (n : Nat) (j : J n) (m k : Nat) (r : Bs) : Prop :=
  (value m k (tell n j ++ r) = .ok (lift n m j, k + nodes n j, r) ∧ k + nodes n j ≤ 200 ∧ depth n j ≤ m) ∨
    (value m k (tell n j ++ r) = .error 2 ∧ 200 < k + nodes n j) ∨ (value m k (tell n j ++ r) = .error 4 ∧ m < depth n j)
def ToldLAt (n : Nat) : Prop := ∀ (j : J n), Good n j → ∀ (m k : Nat) (r : Bs), noDigit r → k ≤ 200 → ToldL n j m k r
theorem leaf_value (m k : Nat) (l : Leaf) (h : GoodLeaf l) (r : Bs) (hr : noDigit r) (hk : k ≤ 200) : (value m k (tellLeaf l ++ r) = .ok (leaf m l, k + 1, r) ∧ k + 1 ≤ 200 ∧ 0 ≤ m) ∨ (value m k (tellLeaf l ++ r) = .error 2 ∧ 200 < k + 1) ∨ (value m k (tellLeaf l ++ r) = .error 4 ∧ m < 0) := by
  obtain ⟨hl, ho, hb, h91, h123⟩ := leafE_tell l h r hr
  have hv := value_first (m := m) (k := k) hb ho
  have hsk := skip_not hb
  by_cases h200 : 200 ≤ k
  · exact Or.inr (Or.inl ⟨hv.1 h200, by omega⟩)
  · have e : beginE m k (skip (tellLeaf l ++ r)) = 0 := by
      rw [hsk]
      unfold beginE
      rw [if_neg (by simpa using ho), if_neg h200, if_neg]
      rintro ⟨_, h1 | h1⟩
      · exact h91 h1
      · exact h123 h1
    have hval : value m k (tellLeaf l ++ r) = .ok (leaf m l, k + 1, r) := by
      cases m with
      | zero => rw [value, if_neg (by simp [e]), leafAt, hsk, hl]
      | succ m => rw [value, if_neg (by simp [e]), hsk, if_neg h91, if_neg h123, leafAt, hl]
    exact Or.inl ⟨hval, by omega, Nat.zero_le _⟩
theorem items_toldL {n : Nat} (ih : ToldLAt n) (m : Nat) (r : Bs) : ∀ (rest : List (J n)) (x : J n) (f : Nat) (s : List (J m)) (k : Nat), (∀ y ∈ x :: rest, Good n y) → rest.length < f → k ≤ 200 →
    RowTold m (rowGo 93 (oneItem (value m)) f s k (commas ((x :: rest).map (tell n)) ++ 93 :: r)) (fun s' => s' = s ++ (x :: rest).map (lift n m)) k ((x :: rest).map (nodes n)).sum (maxOf ((x :: rest).map (depth n))) r
  | [], x, 0, s, k, hG, hf, hk => by omega
  | [], x, f + 1, s, k, hG, hf, hk => by
    have h1 := ih x (hG x (by simp)) m k (93 :: r) (by show isDigit 93 = false; decide) hk
    have e : commas (([x] : List (J n)).map (tell n)) ++ 93 :: r = tell n x ++ 93 :: r := rfl
    rw [e]
    have em : (([x] : List (J n)).map (nodes n)).sum = nodes n x := by simp
    have ed : maxOf (([x] : List (J n)).map (depth n)) = depth n x := by simp [maxOf]
    rw [em, ed]
    rcases h1 with ⟨hv, h200, hm⟩ | ⟨hv, h200⟩ | ⟨hv, hm⟩
    · refine Or.inl ⟨s ++ [lift n m x], ?_, rfl, h200, hm⟩
      rw [rowGo, oneItem, hv]
      rfl
    · refine Or.inr (Or.inl ⟨?_, h200⟩)
      rw [rowGo, oneItem, hv]
    · refine Or.inr (Or.inr ⟨?_, hm⟩)
      rw [rowGo, oneItem, hv]
  | y :: rest, x, 0, s, k, hG, hf, hk => by omega
  | y :: rest, x, f + 1, s, k, hG, hf, hk => by
    have h1 := ih x (hG x (by simp)) m k (44 :: (commas ((y :: rest).map (tell n)) ++ 93 :: r)) (by show isDigit 44 = false; decide) hk
    have e : commas ((x :: y :: rest).map (tell n)) ++ 93 :: r = tell n x ++ 44 :: (commas ((y :: rest).map (tell n)) ++ 93 :: r) := by
      simp [commas]
    rw [e]
    have em : ((x :: y :: rest).map (nodes n)).sum = nodes n x + ((y :: rest).map (nodes n)).sum := by simp
    have ed : maxOf ((x :: y :: rest).map (depth n)) = max (depth n x) (maxOf ((y :: rest).map (depth n))) := rfl
    rw [em, ed]
    rcases h1 with ⟨hv, h200, hm⟩ | ⟨hv, h200⟩ | ⟨hv, hm⟩
    · have ih2 := items_toldL ih m r rest y f (s ++ [lift n m x]) (k + nodes n x) (fun z hz => hG z (by simp at hz ⊢; exact Or.inr hz)) (by simp at hf; omega) h200
      have hgo : rowGo 93 (oneItem (value m)) (f + 1) s k (tell n x ++ 44 :: (commas ((y :: rest).map (tell n)) ++ 93 :: r)) = rowGo 93 (oneItem (value m)) f (s ++ [lift n m x]) (k + nodes n x) (commas ((y :: rest).map (tell n)) ++ 93 :: r) := by
        rw [rowGo, oneItem, hv]
        rfl
      rw [hgo]
      rcases ih2 with ⟨s', hr, rfl, h4, h5⟩ | ⟨hr, h4⟩ | ⟨hr, h4⟩
      · refine Or.inl ⟨_, ?_, rfl, by omega, by omega⟩
        rw [hr]
        simp [Nat.add_assoc]
      · exact Or.inr (Or.inl ⟨hr, by omega⟩)
      · exact Or.inr (Or.inr ⟨hr, by omega⟩)
    · refine Or.inr (Or.inl ⟨?_, by omega⟩)
      rw [rowGo, oneItem, hv]
    · refine Or.inr (Or.inr ⟨?_, by omega⟩)
      rw [rowGo, oneItem, hv]
theorem told_listL {n : Nat} (ih : ToldLAt n) (xs : List (J n)) (hG : ∀ x ∈ xs, Good n x) (m k : Nat) (r : Bs) (hr : noDigit r) (hk : k ≤ 200) :
    ToldL (n + 1) (Sum.inr (Sum.inl xs)) m k r := by
  have et : tell (n + 1) (Sum.inr (Sum.inl xs)) = 91 :: (commas (xs.map (tell n)) ++ [93]) := rfl
  have en : nodes (n + 1) (Sum.inr (Sum.inl xs)) = 1 + (xs.map (nodes n)).sum := rfl
  have ed : depth (n + 1) (Sum.inr (Sum.inl xs)) = 1 + maxOf (xs.map (depth n)) := rfl
  have eX : tell (n + 1) (Sum.inr (Sum.inl xs)) ++ r = 91 :: (commas (xs.map (tell n)) ++ 93 :: r) := by rw [et]; simp
  unfold ToldL
  rw [eX, en, ed]
  have hv := value_first (m := m) (k := k) (r := 91 :: (commas (xs.map (tell n)) ++ 93 :: r)) rfl (by show (91 : UInt8) ∈ opens; decide)
  by_cases h200 : 200 ≤ k
  · exact Or.inr (Or.inl ⟨hv.1 h200, by omega⟩)
  cases m with
  | zero => exact Or.inr (Or.inr ⟨hv.2 (by omega) rfl (Or.inl rfl), by omega⟩)
  | succ m =>
    obtain ⟨hb, hsk⟩ := value_row (m := m) (k := k) (c := 91) (X := commas (xs.map (tell n)) ++ 93 :: r) (by omega) (Or.inl rfl)
    have hval : value (m + 1) k (91 :: (commas (xs.map (tell n)) ++ 93 :: r)) = match row 93 (oneItem (value m)) [] (k + 1) (91 :: (commas (xs.map (tell n)) ++ 93 :: r)) with
      | .error e => .error e
      | .ok (s, k', r') => .ok (Sum.inr (Sum.inl s), k', r') := by
      rw [value, if_neg (by simp [hb]), hsk, if_pos (show hd (91 :: (commas (xs.map (tell n)) ++ 93 :: r)) = 91 from rfl)]
      cases row 93 (oneItem (value m)) [] (k + 1) (91 :: (commas (xs.map (tell n)) ++ 93 :: r)) <;> rfl
    have hrow : RowTold m (row 93 (oneItem (value m)) [] (k + 1) (91 :: (commas (xs.map (tell n)) ++ 93 :: r))) (fun s' => s' = xs.map (lift n m)) (k + 1) (xs.map (nodes n)).sum (maxOf (xs.map (depth n))) r := by
      cases xs with
      | nil =>
        refine Or.inl ⟨[], ?_, rfl, by simp; omega, by simp [maxOf]⟩
        rfl
      | cons x rest =>
        have hh := tell_hd n x (hG x (by simp)) (match rest.map (tell n) with | [] => 93 :: r | _ :: _ => 44 :: (commas (rest.map (tell n)) ++ 93 :: r)) (by cases rest.map (tell n) <;> rfl)
        have eC : commas ((x :: rest).map (tell n)) ++ 93 :: r = tell n x ++ (match rest.map (tell n) with | [] => 93 :: r | _ :: _ => 44 :: (commas (rest.map (tell n)) ++ 93 :: r)) := commas_cons (tell n x) (rest.map (tell n)) (93 :: r)
        rw [← eC] at hh
        have hi := items_toldL ih m r rest x ((91 :: (commas ((x :: rest).map (tell n)) ++ 93 :: r)).length + 1) [] (k + 1) hG (by
          have := commas_ge ((x :: rest).map (tell n))
          simp only [List.length_map, List.length_cons, List.length_append] at this ⊢
          omega) (by omega)
        have hne : hd (commas ((x :: rest).map (tell n)) ++ 93 :: r) ≠ 93 := by
          intro e
          rw [e] at hh
          exact absurd hh.1 (by decide)
        have hgo : row 93 (oneItem (value m)) [] (k + 1) (91 :: (commas ((x :: rest).map (tell n)) ++ 93 :: r)) = rowGo 93 (oneItem (value m)) ((91 :: (commas ((x :: rest).map (tell n)) ++ 93 :: r)).length + 1) [] (k + 1) (commas ((x :: rest).map (tell n)) ++ 93 :: r) := by
          rw [row, List.tail_cons, skip_not hh.2, if_neg hne]
        rw [hgo]
        rcases hi with ⟨s', h1, rfl, h5, h6⟩ | h | h
        · exact Or.inl ⟨_, h1, by simp, h5, h6⟩
        · exact Or.inr (Or.inl h)
        · exact Or.inr (Or.inr h)
    rw [hval]
    rcases hrow with ⟨s', h1, rfl, h5, h6⟩ | ⟨h1, h5⟩ | ⟨h1, h5⟩
    · refine Or.inl ⟨?_, by omega, by omega⟩
      rw [h1]
      simp only [Nat.add_assoc]
      rfl
    · exact Or.inr (Or.inl ⟨by rw [h1], by omega⟩)
    · exact Or.inr (Or.inr ⟨by rw [h1], by omega⟩)
theorem fields_toldL {n : Nat} (ih : ToldLAt n) (m : Nat) (r : Bs) : ∀ (rest : List (Bs × J n)) (x : Bs × J n) (f : Nat) (s : List (Bs × J m)) (k : Nat), (∀ y ∈ x :: rest, (∀ c ∈ y.1, meant c = true) ∧ Good n y.2) → Rising (x :: rest) → (∀ g ∈ s, ∀ y ∈ x :: rest, less g.1 y.1 = true) → rest.length < f → k ≤ 200 →
    RowTold m (rowGo 125 (oneField (value m)) f s k (commas ((x :: rest).map (fieldT n)) ++ 125 :: r)) (fun s' => s' = s ++ (x :: rest).map (fun f => (f.1, lift n m f.2))) k ((x :: rest).map (fun f => nodes n f.2)).sum (maxOf ((x :: rest).map (fun f => depth n f.2))) r
  | [], x, 0, s, k, hG, hR, hs, hf, hk => by omega
  | [], x, f + 1, s, k, hG, hR, hs, hf, hk => by
    have hx := hG x (by simp)
    have h1 := ih x.2 hx.2 m k (125 :: r) (by show isDigit 125 = false; decide) hk
    have e : commas (([x] : List (Bs × J n)).map (fieldT n)) ++ 125 :: r = quote x.1 ++ 58 :: (tell n x.2 ++ 125 :: r) := by simp [commas, fieldT]
    have hn := nameE_told (X := tell n x.2 ++ 125 :: r) hx.1 (fun g hg => hs g hg x (by simp))
    rw [e]
    have em : (([x] : List (Bs × J n)).map (fun f => nodes n f.2)).sum = nodes n x.2 := by simp
    have ed : maxOf (([x] : List (Bs × J n)).map (fun f => depth n f.2)) = depth n x.2 := by simp [maxOf]
    rw [em, ed]
    rcases h1 with ⟨hv, h200, hm⟩ | ⟨hv, h200⟩ | ⟨hv, hm⟩
    · refine Or.inl ⟨s ++ [(x.1, lift n m x.2)], ?_, rfl, h200, hm⟩
      rw [rowGo, oneField, hn]
      simp only [hv]
      rw [insert_end_of (lift n m x.2) (fun g hg => hs g hg x (by simp))]
      rfl
    · refine Or.inr (Or.inl ⟨?_, h200⟩)
      rw [rowGo, oneField, hn]
      simp only [hv]
    · refine Or.inr (Or.inr ⟨?_, hm⟩)
      rw [rowGo, oneField, hn]
      simp only [hv]
  | y :: rest, x, 0, s, k, hG, hR, hs, hf, hk => by omega
  | y :: rest, x, f + 1, s, k, hG, hR, hs, hf, hk => by
    have hx := hG x (by simp)
    have h1 := ih x.2 hx.2 m k (44 :: (commas ((y :: rest).map (fieldT n)) ++ 125 :: r)) (by show isDigit 44 = false; decide) hk
    have e : commas ((x :: y :: rest).map (fieldT n)) ++ 125 :: r = quote x.1 ++ 58 :: (tell n x.2 ++ 44 :: (commas ((y :: rest).map (fieldT n)) ++ 125 :: r)) := by simp [commas, fieldT]
    have hn := nameE_told (X := tell n x.2 ++ 44 :: (commas ((y :: rest).map (fieldT n)) ++ 125 :: r)) hx.1 (fun g hg => hs g hg x (by simp))
    rw [e]
    have em : ((x :: y :: rest).map (fun f => nodes n f.2)).sum = nodes n x.2 + ((y :: rest).map (fun f => nodes n f.2)).sum := by simp
    have ed : maxOf ((x :: y :: rest).map (fun f => depth n f.2)) = max (depth n x.2) (maxOf ((y :: rest).map (fun f => depth n f.2))) := rfl
    rw [em, ed]
    have hR' := List.pairwise_cons.1 hR
    rcases h1 with ⟨hv, h200, hm⟩ | ⟨hv, h200⟩ | ⟨hv, hm⟩
    · have ih2 := fields_toldL ih m r rest y f (s ++ [(x.1, lift n m x.2)]) (k + nodes n x.2) (fun z hz => hG z (by simp at hz ⊢; exact Or.inr hz)) hR'.2 (fun g hg z hz => by
          rcases List.mem_append.1 hg with hg | hg
          · exact hs g hg z (by simp at hz ⊢; exact Or.inr hz)
          · have hg := List.mem_singleton.1 hg
            subst hg
            exact hR'.1 z hz) (by simp at hf; omega) h200
      have hgo : rowGo 125 (oneField (value m)) (f + 1) s k (quote x.1 ++ 58 :: (tell n x.2 ++ 44 :: (commas ((y :: rest).map (fieldT n)) ++ 125 :: r))) = rowGo 125 (oneField (value m)) f (s ++ [(x.1, lift n m x.2)]) (k + nodes n x.2) (commas ((y :: rest).map (fieldT n)) ++ 125 :: r) := by
        rw [rowGo, oneField, hn]
        simp only [hv]
        rw [insert_end_of (lift n m x.2) (fun g hg => hs g hg x (by simp))]
        rfl
      rw [hgo]
      rcases ih2 with ⟨s', hr, rfl, h4, h5⟩ | ⟨hr, h4⟩ | ⟨hr, h4⟩
      · refine Or.inl ⟨_, ?_, rfl, by omega, by omega⟩
        rw [hr]
        simp [Nat.add_assoc]
      · exact Or.inr (Or.inl ⟨hr, by omega⟩)
      · exact Or.inr (Or.inr ⟨hr, by omega⟩)
    · refine Or.inr (Or.inl ⟨?_, by omega⟩)
      rw [rowGo, oneField, hn]
      simp only [hv]
    · refine Or.inr (Or.inr ⟨?_, by omega⟩)
      rw [rowGo, oneField, hn]
      simp only [hv]
theorem told_objectL {n : Nat} (ih : ToldLAt n) (fs : List (Bs × J n)) (hR : Rising fs) (hG : ∀ f ∈ fs, (∀ c ∈ f.1, meant c = true) ∧ Good n f.2) (m k : Nat) (r : Bs) (hr : noDigit r) (hk : k ≤ 200) :
    ToldL (n + 1) (Sum.inr (Sum.inr fs)) m k r := by
  have et : tell (n + 1) (Sum.inr (Sum.inr fs)) = 123 :: (commas (fs.map (fieldT n)) ++ [125]) := rfl
  have en : nodes (n + 1) (Sum.inr (Sum.inr fs)) = 1 + (fs.map (fun f => nodes n f.2)).sum := rfl
  have ed : depth (n + 1) (Sum.inr (Sum.inr fs)) = 1 + maxOf (fs.map (fun f => depth n f.2)) := rfl
  have eX : tell (n + 1) (Sum.inr (Sum.inr fs)) ++ r = 123 :: (commas (fs.map (fieldT n)) ++ 125 :: r) := by rw [et]; simp
  unfold ToldL
  rw [eX, en, ed]
  have hv := value_first (m := m) (k := k) (r := 123 :: (commas (fs.map (fieldT n)) ++ 125 :: r)) rfl (by show (123 : UInt8) ∈ opens; decide)
  by_cases h200 : 200 ≤ k
  · exact Or.inr (Or.inl ⟨hv.1 h200, by omega⟩)
  cases m with
  | zero => exact Or.inr (Or.inr ⟨hv.2 (by omega) rfl (Or.inr rfl), by omega⟩)
  | succ m =>
    obtain ⟨hb, hsk⟩ := value_row (m := m) (k := k) (c := 123) (X := commas (fs.map (fieldT n)) ++ 125 :: r) (by omega) (Or.inr rfl)
    have hval : value (m + 1) k (123 :: (commas (fs.map (fieldT n)) ++ 125 :: r)) = match row 125 (oneField (value m)) [] (k + 1) (123 :: (commas (fs.map (fieldT n)) ++ 125 :: r)) with
      | .error e => .error e
      | .ok (s, k', r') => .ok (Sum.inr (Sum.inr s), k', r') := by
      rw [value, if_neg (by simp [hb]), hsk, if_neg (show ¬ hd (123 :: (commas (fs.map (fieldT n)) ++ 125 :: r)) = 91 from by show ¬ (123 : UInt8) = 91; decide), if_pos (show hd (123 :: (commas (fs.map (fieldT n)) ++ 125 :: r)) = 123 from rfl)]
      cases row 125 (oneField (value m)) [] (k + 1) (123 :: (commas (fs.map (fieldT n)) ++ 125 :: r)) <;> rfl
    have hrow : RowTold m (row 125 (oneField (value m)) [] (k + 1) (123 :: (commas (fs.map (fieldT n)) ++ 125 :: r))) (fun s' => s' = fs.map (fun f => (f.1, lift n m f.2))) (k + 1) (fs.map (fun f => nodes n f.2)).sum (maxOf (fs.map (fun f => depth n f.2))) r := by
      cases fs with
      | nil =>
        refine Or.inl ⟨[], ?_, rfl, by simp; omega, by simp [maxOf]⟩
        rfl
      | cons x rest =>
        have hi := fields_toldL ih m r rest x ((123 :: (commas ((x :: rest).map (fieldT n)) ++ 125 :: r)).length + 1) [] (k + 1) hG hR (fun g hg => by simp at hg) (by
          have := commas_ge ((x :: rest).map (fieldT n))
          simp only [List.length_map, List.length_cons, List.length_append] at this ⊢
          omega) (by omega)
        have hh : hd (commas ((x :: rest).map (fieldT n)) ++ 125 :: r) = 34 := by
          cases rest <;> rfl
        have hgo : row 125 (oneField (value m)) [] (k + 1) (123 :: (commas ((x :: rest).map (fieldT n)) ++ 125 :: r)) = rowGo 125 (oneField (value m)) ((123 :: (commas ((x :: rest).map (fieldT n)) ++ 125 :: r)).length + 1) [] (k + 1) (commas ((x :: rest).map (fieldT n)) ++ 125 :: r) := by
          rw [row, List.tail_cons, skip_not (by rw [hh]; rfl), if_neg (by rw [hh]; decide)]
        rw [hgo]
        rcases hi with ⟨s', h1, rfl, h5, h6⟩ | h | h
        · exact Or.inl ⟨_, h1, by simp, h5, h6⟩
        · exact Or.inr (Or.inl h)
        · exact Or.inr (Or.inr h)
    rw [hval]
    rcases hrow with ⟨s', h1, rfl, h5, h6⟩ | ⟨h1, h5⟩ | ⟨h1, h5⟩
    · refine Or.inl ⟨?_, by omega, by omega⟩
      rw [h1]
      simp only [Nat.add_assoc]
      rfl
    · exact Or.inr (Or.inl ⟨by rw [h1], by omega⟩)
    · exact Or.inr (Or.inr ⟨by rw [h1], by omega⟩)
theorem told_anyL : ∀ n, ToldLAt n
  | 0 => fun j h m k r hr hk => leaf_value m k j h r hr hk
  | n + 1 => fun j h m k r hr hk => by
    have ih := told_anyL n
    match j, h with
    | Sum.inl l, h => exact leaf_value m k l h r hr hk
    | Sum.inr (Sum.inl xs), h => exact told_listL ih xs h m k r hr hk
    | Sum.inr (Sum.inr fs), h => exact told_objectL ih fs h.1 h.2 m k r hr hk
/-- what is told of a value within the limits is read as that value -/
theorem read_told {n : Nat} {j : J n} (hg : Good n j) (hn : nodes n j ≤ 200) (hd' : depth n j ≤ 10) (hl : (tell n j).length ≤ 2000) : read (tell n j) = .ok (lift n 10 j) := by
  have h := told_anyL n j hg 10 0 [] noDigit_nil (by omega)
  unfold ToldL at h
  rw [List.append_nil] at h
  unfold read
  rw [if_neg (by omega)]
  rcases h with ⟨hv, h1, h2⟩ | ⟨hv, h1⟩ | ⟨hv, h1⟩
  · rw [hv]
    rfl
  · omega
  · omega
end Go.Proofs.YthdgfehfoidnbabGreatDoor
/- Plain facts: how great what steps lead to is; what is known of a value that was read. -/
namespace Go.Proofs.YthdgfehfoidnbabGreatDoor
set_option linter.unusedVariables false
set_option linter.unusedSimpArgs false
theorem commas_mem : ∀ (ts : List Bs) (t : Bs), t ∈ ts → t.length ≤ (commas ts).length
  | [], t, h => by simp at h
  | [x], t, h => by
    simp at h
    subst h
    exact Nat.le_refl _
  | x :: y :: r, t, h => by
    rcases List.mem_cons.1 h with rfl | h
    · simp [commas]
    · have := commas_mem (y :: r) t h
      simp only [commas, List.length_append, List.length_cons] at this ⊢
      omega
theorem len_child {n : Nat} {j : J (n + 1)} {s : Bs} {c : J n} (hr : Rise (n + 1) j) (h : childP j s = some c) : (tell n c).length ≤ (tell (n + 1) j).length ∧ depth n c + 1 ≤ depth (n + 1) j := by
  match j, hr, h with
  | Sum.inr (Sum.inl xs), hr, h =>
    obtain ⟨i, hi, hx⟩ := Option.bind_eq_some_iff.1 (show ((placeP s).bind fun i => xs[i]?) = some c from h)
    have hm := List.mem_of_getElem? hx
    have h1 := commas_mem (xs.map (tell n)) (tell n c) (List.mem_map.2 ⟨c, hm, rfl⟩)
    have h2 := maxOf_mem (xs.map (depth n)) (depth n c) (List.mem_map.2 ⟨c, hm, rfl⟩)
    refine ⟨?_, ?_⟩
    · show (tell n c).length ≤ (91 :: (commas (xs.map (tell n)) ++ [93])).length
      simp only [List.length_cons, List.length_append]
      omega
    · show depth n c + 1 ≤ 1 + maxOf (xs.map (depth n))
      omega
  | Sum.inr (Sum.inr fs), hr, h =>
    have hm := fieldAt_mem hr.1 h
    have h1 := commas_mem (fs.map fun f => quote f.1 ++ 58 :: tell n f.2) (quote s ++ 58 :: tell n c) (List.mem_map.2 ⟨(s, c), hm, rfl⟩)
    have h2 := maxOf_mem (fs.map fun f => depth n f.2) (depth n c) (List.mem_map.2 ⟨(s, c), hm, rfl⟩)
    refine ⟨?_, ?_⟩
    · show (tell n c).length ≤ (123 :: (commas (fs.map fun f => quote f.1 ++ 58 :: tell n f.2) ++ [125])).length
      simp only [List.length_cons, List.length_append] at h1 ⊢
      omega
    · show depth n c + 1 ≤ 1 + maxOf (fs.map fun f => depth n f.2)
      omega
/-- what steps lead to is no greater -/
theorem get_said : ∀ (l : List Bs) (n : Nat) (j c : J n), Good n j → getP n j l = some c → Good n c ∧ nodes n c ≤ nodes n j ∧ (tell n c).length ≤ (tell n j).length ∧ depth n c ≤ depth n j
  | [], n, j, c, hg, h => by
    have e : j = c := by cases n <;> exact Option.some.inj h
    subst e
    exact ⟨hg, Nat.le_refl _, Nat.le_refl _, Nat.le_refl _⟩
  | s :: r, 0, j, c, hg, h => by cases h
  | s :: r, n + 1, j, c, hg, h => by
    obtain ⟨c1, c2, h1, h2, rfl⟩ := getP_step h
    have hr := rise_of_good _ _ hg
    have ih := get_said r n c1 c2 (good_child hg h1) h2
    have hs := lift_said n (n + 1) c2 (Nat.le_trans (depth_bound n c2) (by omega))
    have hn := nodes_child hr h1
    have hl := len_child hr h1
    rw [hs.1, hs.2.1, hs.2.2.1]
    exact ⟨good_lift _ _ _ ih.1, by omega, by omega, by omega⟩
/-- within the limits of documents -/
structure Told20 (N : Nat) (D : J N) : Prop where
  good : Good N D
  nodes : nodes N D ≤ 200
  depth : depth N D ≤ 10
  len : (tell N D).length ≤ 2000
theorem rd20_told {N : Nat} (hN : 20 ≤ N) {s : Bs} {D : J N} (h : rd20 N s = .ok D) : Told20 N D := by
  unfold rd20 at h
  cases hr : read s with
  | error e => rw [hr] at h; cases h
  | ok j =>
    rw [hr] at h
    have e : lift 10 N j = D := by
      have h' : Except.ok (lift 10 N j) = (Except.ok D : Except Nat (J N)) := h
      exact Except.ok.inj h'
    subst e
    have hs := lift_said 10 N j (Nat.le_trans (depth_bound 10 j) (by omega))
    have h1 := read_size hr
    have h2 := read_short hr
    exact ⟨good_lift _ _ _ (read_good hr), by rw [hs.2.1]; omega, by rw [hs.2.2.1]; omega, by rw [hs.1]; omega⟩
theorem Told20.fine {N : Nat} {D : J N} (h : Told20 N D) : Fine N D := ⟨fit_of_good _ _ h.good, by have := h.nodes; omega, by have := h.depth; omega, by have := h.len; omega⟩
theorem Told20.told {N : Nat} {D : J N} (h : Told20 N D) : toldE N D = #[.string ⟨(tell N D).toArray⟩, .int .i64 0] := by
  unfold toldE
  rw [if_neg (by have := h.depth; omega), if_neg (by have := h.nodes; omega), if_neg (by have := h.len; omega)]
/-- what is told is read as it was -/
theorem Told20.again {N : Nat} {D : J N} (hN : 20 ≤ N) (h : Told20 N D) : rd20 N (tell N D) = .ok D := by
  rw [rd20_ok (read_told h.good h.nodes h.depth h.len), lift_lift _ _ _ _ h.depth, lift_self]
theorem Told20.get {N : Nat} {D c : J N} {l : List Bs} (h : Told20 N D) (hc : getP N D l = some c) : Told20 N c := by
  obtain ⟨h1, h2, h3, h4⟩ := get_said l N D c h.good hc
  have := h.nodes
  have := h.depth
  have := h.len
  exact ⟨h1, by omega, by omega, by omega⟩
theorem toldE_lift {m N : Nat} (c : J m) (h : m ≤ N) : toldE N (lift m N c) = toldE m c := by
  have hs := lift_said m N c (Nat.le_trans (depth_bound m c) h)
  unfold toldE
  rw [hs.1, hs.2.1, hs.2.2.1]
theorem fine_low {m N : Nat} (c : J m) (h : m ≤ N) (hF : Told20 N (lift m N c)) (hf : Fit m c) : Fine m c := by
  have hs := lift_said m N c (Nat.le_trans (depth_bound m c) h)
  have h1 := hF.nodes
  have h2 := hF.depth
  have h3 := hF.len
  rw [hs.2.1] at h1
  rw [hs.2.2.1] at h2
  rw [hs.1] at h3
  exact ⟨hf, by omega, by omega, by omega⟩
theorem fit_low : ∀ (m N : Nat) (c : J m), depth m c ≤ N → Fit N (lift m N c) → Fit m c
  | 0, N, l, _, h => by cases N <;> exact h
  | _ + 1, N, Sum.inl l, _, h => by cases N <;> exact h
  | m + 1, 0, Sum.inr (Sum.inl xs), hd, h => by
    have h1 : 1 + maxOf (xs.map (depth m)) ≤ 0 := hd
    omega
  | m + 1, 0, Sum.inr (Sum.inr fs), hd, h => by
    have h1 : 1 + maxOf (fs.map fun f => depth m f.2) ≤ 0 := hd
    omega
  | m + 1, N + 1, Sum.inr (Sum.inl xs), hd, h => fun x hx => fit_low m N x (deep_item hd x hx) (h _ (List.mem_map.2 ⟨x, hx, rfl⟩))
  | m + 1, N + 1, Sum.inr (Sum.inr fs), hd, h => fun f hf => fit_low m N f.2 (deep_field hd f hf) (h (f.1, lift m N f.2) (List.mem_map.2 ⟨f, hf, rfl⟩))
end Go.Proofs.YthdgfehfoidnbabGreatDoor
/- Contract over this translation of ptr.Get. -/
namespace Go.Proofs.YthdgfehfoidnbabGreatDoor
open Go.RowKit
set_option linter.unusedVariables false
set_option linter.unusedSimpArgs false
/-- what Get answers -/
def getA (N : Nat) (doc p : Bs) : Array Value :=
  match rd20 N doc with
  | .error e => #[.string ByteArray.empty, .int .i64 e]
  | .ok D => match stepsE p with
    | .error e => #[.string ByteArray.empty, .int .i64 e]
    | .ok L => match getP N D L with
      | none => #[.string ByteArray.empty, .int .i64 7]
      | some c => toldE N c
theorem toldE_form (n : Nat) (j : J n) : ∃ (s : ByteArray) (er : Nat), toldE n j = #[.string s, .int .i64 er] := by
  unfold toldE
  split
  · exact ⟨_, 4, rfl⟩
  · split
    · exact ⟨_, 2, rfl⟩
    · split
      · exact ⟨_, 2, rfl⟩
      · exact ⟨_, 0, rfl⟩
set_option maxRecDepth 100000 in
set_option maxHeartbeats 2000000 in
theorem get_any (N : Nat) (hN : 20 ≤ N) (doc p : ByteArray) (w : World) (hd' : doc.size ≤ 8000000) (hp : p.size ≤ 8000000) (hE : Env w) :
    Calls Tryz.prog 6 #[.string doc, .string p] w fun e w' => e = .returned (.tuple (getA N doc.data.toList p.data.toList)) ∧ Below w.heap.size w w' := by
  have HE : Hid (Env w) := hE
  obtain ⟨res, hres⟩ : ∃ res, getA N doc.data.toList p.data.toList = res := ⟨_, rfl⟩
  have HG : Hid (getA N doc.data.toList p.data.toList = res) := hres
  rw [hres]
  have hpl : p.data.toList.length = p.size := by simp
  clear hE hres
  go_enter Tryz.func6, Tryz.ntmps6
  go_wp2_with fail
  refine (readDoc_any N hN doc p w hd' hp HE.out).mono ?_
  rintro e w1 ⟨b1, h1⟩
  have HB1 : Hid (Below w.heap.size w w1) := b1
  clear b1
  rcases h1 with ⟨er, h2, h3, h4, rfl⟩ | ⟨D, er, h2, h3, h4, h5, rfl⟩ | ⟨D, L, T, x, q, cap, h2, h3, rfl, h4, h5⟩
  · have HR : Hid (res = #[.string ByteArray.empty, .int .i64 er]) := by
      show res = _
      rw [← HG.out, getA, h2]
    have hbe : ((er : Int) != 0) = true := by rw [bne_iff_ne]; omega
    clear h2
    go_wp2_with fail
    go_ret2
    exact ⟨by rw [HR.out]; rfl, HB1.out⟩
  · have HR : Hid (res = #[.string ByteArray.empty, .int .i64 er]) := by
      show res = _
      rw [← HG.out, getA, h2]
      simp only [h3]
    have hbe : ((er : Int) != 0) = true := by rw [bne_iff_ne]; omega
    clear h2 h3
    go_wp2_with fail
    go_ret2
    exact ⟨by rw [HR.out]; rfl, HB1.out⟩
  · have HR : Hid (res = match getP N D L with
        | none => #[.string ByteArray.empty, .int .i64 7]
        | some c => toldE N c) := by
      show res = _
      rw [← HG.out, getA, h2]
      simp only [h3]
    have hT := rd20_told hN h2
    have HT : Hid (Told20 N D) := hT
    have hsum := steps_sum h3
    have hlen := (join_steps h3).2
    have HF : Hid (Calls Tryz.prog 15 #[.iface T x, .slice q L.length cap] w1 (FindPost (fun _ => False) (getP N D L) w1)) :=
      findSteps_any (fun _ => False) D T x _ L w1 h4 (rise_of_good _ _ hT.good) (by have := hT.nodes; omega) h5 (by omega) (fun s hs => by
        obtain ⟨i, hi, rfl⟩ := List.getElem_of_mem hs
        have := len_le_sum L i hi
        omega) (HE.out.below HB1.out)
    clear h2 h3 h4 h5 hT hsum hlen
    go_wp2_with fail
    refine Calls.mono HF.out ?_
    rintro e w2 ⟨b2, h2⟩
    have HB2 : Hid (Below w.heap.size w w2) := HB1.out.trans (b2.mono HB1.out.size)
    clear b2
    rcases h2 with ⟨h2, rfl⟩ | ⟨m, c, T2, x2, h2, h3, rfl, h4⟩
    · have HR2 : Hid (res = #[.string ByteArray.empty, .int .i64 7]) := by show res = _; rw [HR.out, h2]
      clear h2
      go_wp2_with fail
      go_ret2
      exact ⟨by rw [HR2.out]; rfl, HB2.out⟩
    · have hTc : Told20 N (lift m N c) := HT.out.get h3
      have hFc : Fine m c := fine_low c h2 hTc (fit_low m N c (Nat.le_trans (depth_bound m c) h2) (fit_of_good _ _ hTc.good))
      have HR2 : Hid (res = toldE m c) := by show res = _; rw [HR.out, h3]; exact toldE_lift c h2
      have HTl := tellJ_any m c (.iface T2 x2) w2 h4 hFc (HE.out.below HB2.out).tab
      obtain ⟨s, er, hform⟩ := toldE_form m c
      rw [hform] at HTl
      have HR3 : Hid (res = #[.string s, .int .i64 er]) := HR2.out.trans hform
      have HTl' : Hid (Calls Tryz.prog 16 #[.iface T2 x2] w2 fun e w' => e = .returned (.tuple #[.string s, .int .i64 er]) ∧ Below w2.heap.size w2 w') := HTl
      clear HTl hTc hFc h3 h4 hform
      go_wp2_with fail
      refine Calls.mono HTl'.out ?_
      rintro e w3 ⟨rfl, b3⟩
      have HB3 : Hid (Below w.heap.size w w3) := HB2.out.trans (b3.mono HB2.out.size)
      clear b3
      go_wp2_with fail
      go_ret2
      exact ⟨by rw [HR3.out]; rfl, HB3.out⟩
end Go.Proofs.YthdgfehfoidnbabGreatDoor
/- Contract over this translation of ptr.Put. -/
namespace Go.Proofs.YthdgfehfoidnbabGreatDoor
open Go.RowKit
set_option linter.unusedVariables false
set_option linter.unusedSimpArgs false
set_option maxRecDepth 100000 in
set_option maxHeartbeats 1000000 in
theorem apart_nil (q : Option Addr) (cap : Nat) (w : World) : Calls Tryz.prog 18 #[.slice q 0 cap] w fun e w' => e = .returned (.tuple #[.slice none 0 0, .string ByteArray.empty, .bool false]) ∧ Below w.heap.size w w' := by
  go_enter Tryz.func18, Tryz.ntmps18
  go_wp2_with fail
  exact bodyPost_ret (v := .tuple #[.slice none 0 0, .string ByteArray.empty, .bool false]) (by simp [results, Tryz.results18, go_sem]; rfl) rfl ⟨rfl, Below.refl _ _⟩
set_option maxRecDepth 100000 in
set_option maxHeartbeats 2000000 in
theorem apart_some (M : List Bs) (s : Bs) (q : Option Addr) (cap : Nat) (w : World) (hL : Strs w (.slice q (M ++ [s]).length cap) (M ++ [s])) (hlen : M.length ≤ 1000) :
    Calls Tryz.prog 18 #[.slice q (M ++ [s]).length cap] w fun e w' => e = .returned (.tuple #[.slice q M.length cap, .string ⟨s.toArray⟩, .bool true]) ∧ Below w.heap.size w w' ∧ Strs w' (.slice q M.length cap) M := by
  have hl : (M ++ [s]).length = M.length + 1 := by simp
  rw [hl] at hL ⊢
  have hq : ∃ g o, q = some ⟨g, o, none⟩ ∧ M.length + 1 ≤ cap ∧ cap ≤ maxLen ∧ g < w.heap.size ∧ w.cell? ⟨g, o + M.length, none⟩ = some (.string ⟨s.toArray⟩) ∧ ∀ (i : Nat) (t : Bs), M[i]? = some t → w.cell? ⟨g, o + i, none⟩ = some (.string ⟨t.toArray⟩) := by
    rcases hL with ⟨h, _⟩ | ⟨g, o, cap', h, h1, h2, h3, h4⟩
    · simp at h
    · simp only [Value.slice.injEq] at h
      obtain ⟨rfl, _, rfl⟩ := h
      refine ⟨g, o, rfl, by simpa using h1, h2, h3, h4 M.length s (by simp), fun i t ht => h4 i t ?_⟩
      rw [List.getElem?_append_left (List.getElem?_eq_some_iff.1 ht).1]
      exact ht
  obtain ⟨g, o, rfl, hlc, hcm, hg, hc, hcs⟩ := hq
  unfold maxLen at hcm
  have HS : Hid (∀ w1, Below w.heap.size w w1 → Strs w1 (.slice (some ⟨g, o, none⟩) M.length cap) M) := fun w1 hb =>
    (show Strs w (.slice (some ⟨g, o, none⟩) M.length cap) M from Or.inr ⟨g, o, cap, rfl, by omega, by unfold maxLen; omega, hg, hcs⟩).below hb
  have hw1 : IntKind.i64.wrap (M.length : Int) = (M.length : Int) := wrap_nat _ (by omega)
  clear hL hcs hl
  generalize (⟨s.toArray⟩ : ByteArray) = sb at *
  generalize M.length = len at *
  go_enter Tryz.func18, Tryz.ntmps18
  go_wp2_with fail
  go_region
  all_goals go_wp2_with fail
  all_goals exact bodyPost_ret (v := .tuple #[.slice (some ⟨g, o, none⟩) len cap, .string sb, .bool true]) (by simp [results, Tryz.results18, go_sem]) rfl ⟨rfl, (Below.refl _ _).drew, HS.out _ (Below.refl _ _).drew⟩
set_option maxRecDepth 100000 in
set_option maxHeartbeats 2000000 in
theorem putS1_any (c0 c1 n : Nat) (j : J (n + 1)) (c : J n) (T T' : TypeId) (x x' : Value) (s : ByteArray) (w : World) (hc0 : w.cell? ⟨c0, 0, none⟩ = some (.string s)) (hc1 : w.cell? ⟨c1, 0, none⟩ = some (.iface T' x')) (hSt : S0 w (n + 1) j (.iface T x)) (hr : Rise (n + 1) j) (hn : nodes (n + 1) j ≤ 2000) (hx : S0 w n c (.iface T' x')) (hs : s.size ≤ 8000000) (hE : Env w) :
    Calls Tryz.prog 20 #[.iface T x, .pointer (some ⟨c0, 0, none⟩), .pointer (some ⟨c1, 0, none⟩)] w (MadePost (n + 1) (putAt j s.data.toList c) w) := by
  have HP : Hid (Calls Tryz.prog 21 #[.iface T x, .string s, .iface T' x'] w (MadePost (n + 1) (putAt j s.data.toList c) w)) := put_any j c (.iface T x) s T' x' w hSt hr hn hx hs hE
  clear hSt hr hn hx hE
  generalize putAt j s.data.toList c = r at *
  go_enter Tryz.func20, Tryz.ntmps20
  go_wp2_with fail
  refine Calls.mono HP.out ?_
  rintro e w1 ⟨b1, h1⟩
  have HB : Hid (Below w.heap.size w w1) := b1
  clear b1
  rcases h1 with ⟨er, h1, h2, h3, rfl⟩ | ⟨j', T2, x2, h1, rfl, h2⟩
  · have HR : Hid (r = .error er) := h1
    clear h1
    go_wp2_with fail
    go_ret2
    exact ⟨HB.out, Or.inl ⟨er, HR.out, h2, h3, rfl⟩⟩
  · have HR : Hid (r = .ok j') := h1
    have HS : Hid (S0 w1 (n + 1) j' (.iface T2 x2)) := h2
    clear h1 h2
    go_wp2_with fail
    go_ret2
    exact ⟨HB.out, Or.inr ⟨_, _, _, HR.out, rfl, HS.out⟩⟩
/-- what is done at the end of a way into which something is put -/
theorem put_end {N c0 c1 : Nat} {G : J N} {T' : TypeId} {x' : Value} {s : ByteArray} {w0 : World} (h0 : c0 < w0.heap.size) (h1 : c1 < w0.heap.size) (hc0 : w0.cell? ⟨c0, 0, none⟩ = some (.string s)) (hc1 : w0.cell? ⟨c1, 0, none⟩ = some (.iface T' x')) (hG : S0 w0 N G (.iface T' x')) (hd' : depth N G ≤ 10) (hs : s.size ≤ 8000000) (hE : Env w0) :
    EndOKP c0 c1 (putEnd (fun m => lift N m G) s.data.toList) w0 := by
  intro w hb m j T x hm hSt hr hn
  cases m with
  | zero => omega
  | succ m =>
    exact putS1_any c0 c1 m j (lift N m G) T T' x x' s w (by rw [hb.cell (p := ⟨c0, 0, none⟩) h0]; exact hc0) (by rw [hb.cell (p := ⟨c1, 0, none⟩) h1]; exact hc1) hSt hr hn (st_lift N m G _ (by omega) (hG.on hb)) hs (hE.below hb)
/-- what is told of what was made -/
def madeA (N : Nat) (r : Except Nat (J N)) : Array Value :=
  match r with
  | .error e => #[.string ByteArray.empty, .int .i64 e]
  | .ok R => toldE N R
set_option maxRecDepth 100000 in
set_option maxHeartbeats 2000000 in
theorem changedP_any (N c0 c1 : Nat) (en : (m : Nat) → J m → Except Nat (J m)) (L : List Bs) (D : J N) (T : TypeId) (x : Value) (vl : Value) (w : World) (hN : 11 + L.length ≤ N) (hSt : S0 w N D (.iface T x)) (hr : Rise N D) (hn : nodes N D ≤ 2000) (hL : Strs w vl L) (hsz : ∀ s ∈ L, s.length ≤ 8000000) (hE : Env w) (he : EndOKP c0 c1 en w) (hF : ∀ R, changeP N D L en = .ok R → Fine N R) :
    Calls Tryz.prog 19 #[.iface T x, vl, .func (.func 20) #[] #[.pointer (some ⟨c0, 0, none⟩), .pointer (some ⟨c1, 0, none⟩)]] w fun e w' => e = .returned (.tuple (madeA N (changeP N D L en))) ∧ Below w.heap.size w w' := by
  have HC : Hid (Calls Tryz.prog 35 #[.iface T x, vl, .func (.func 20) #[] #[.pointer (some ⟨c0, 0, none⟩), .pointer (some ⟨c1, 0, none⟩)]] w (MadePost N (changeP N D L en) w)) := changeP_ok c0 c1 en L N D T x vl w hN hSt hr hn hL hsz hE he
  have HF : Hid (∀ R, changeP N D L en = .ok R → Fine N R) := hF
  have HE : Hid (Env w) := hE
  clear hSt hr hn hL hsz hE he hF
  generalize changeP N D L en = r at *
  go_enter Tryz.func19, Tryz.ntmps19
  go_wp2_with fail
  refine Calls.mono HC.out ?_
  rintro e w1 ⟨b1, h1⟩
  have HB : Hid (Below w.heap.size w w1) := b1
  clear b1
  rcases h1 with ⟨er, h1, h2, h3, rfl⟩ | ⟨R, T2, x2, h1, rfl, h2⟩
  · have HR : Hid (r = .error er) := h1
    have hbe : ((er : Int) != 0) = true := by rw [bne_iff_ne]; omega
    clear h1
    go_wp2_with fail
    go_ret2
    exact ⟨by rw [HR.out]; rfl, HB.out⟩
  · have HR : Hid (r = .ok R) := h1
    have HTl := tellJ_any N R (.iface T2 x2) w1 h2 (HF.out R h1) (HE.out.below HB.out).tab
    obtain ⟨s, er, hform⟩ := toldE_form N R
    rw [hform] at HTl
    have HX : Hid (madeA N r = #[.string s, .int .i64 er]) := by show madeA N r = _; rw [h1]; exact hform
    have HTl' : Hid (Calls Tryz.prog 16 #[.iface T2 x2] w1 fun e w' => e = .returned (.tuple #[.string s, .int .i64 er]) ∧ Below w1.heap.size w1 w') := HTl
    clear h1 h2 HTl hform
    go_wp2_with fail
    refine Calls.mono HTl'.out ?_
    rintro e w3 ⟨rfl, b3⟩
    have HB3 : Hid (Below w.heap.size w w3) := HB.out.trans (b3.mono HB.out.size)
    clear b3
    go_wp2_with fail
    go_ret2
    exact ⟨by rw [HX.out]; rfl, HB3.out⟩
/-- what is made by putting -/
def putR (N : Nat) (D : J N) (L : List Bs) (G : J N) : Except Nat (J N) := if L = [] then .ok G else changeP N D L.dropLast (putEnd (fun m => lift N m G) (L.getLast?.getD []))
def putA (N : Nat) (doc p v : Bs) : Array Value :=
  match rd20 N doc with
  | .error e => #[.string ByteArray.empty, .int .i64 e]
  | .ok D => match stepsE p with
    | .error e => #[.string ByteArray.empty, .int .i64 e]
    | .ok L => match rd20 N v with
      | .error e => #[.string ByteArray.empty, .int .i64 e]
      | .ok G => madeA N (putR N D L G)
theorem madeA_form (N : Nat) (r : Except Nat (J N)) : ∃ (s : ByteArray) (er : Nat), madeA N r = #[.string s, .int .i64 er] := by
  cases r with
  | error e => exact ⟨_, e, rfl⟩
  | ok R => exact toldE_form N R
set_option maxRecDepth 100000 in
set_option maxHeartbeats 4000000 in
theorem putTop_any (N : Nat) (hN : 20 ≤ N) (doc p v : ByteArray) (w : World) (hd' : doc.size ≤ 8000000) (hp : p.size ≤ 8000000) (hv : v.size ≤ 8000000) (hE : Env w) (hF : ∀ D L G R, rd20 N doc.data.toList = .ok D → stepsE p.data.toList = .ok L → rd20 N v.data.toList = .ok G → putR N D L G = .ok R → Fine N R) :
    Calls Tryz.prog 7 #[.string doc, .string p, .string v] w fun e w' => e = .returned (.tuple (putA N doc.data.toList p.data.toList v.data.toList)) ∧ Below w.heap.size w w' := by
  have HE : Hid (Env w) := hE
  have HF : Hid (∀ D L G R, rd20 N doc.data.toList = .ok D → stepsE p.data.toList = .ok L → rd20 N v.data.toList = .ok G → putR N D L G = .ok R → Fine N R) := hF
  obtain ⟨res, hres⟩ : ∃ res, putA N doc.data.toList p.data.toList v.data.toList = res := ⟨_, rfl⟩
  have HG : Hid (putA N doc.data.toList p.data.toList v.data.toList = res) := hres
  rw [hres]
  have hpl : p.data.toList.length = p.size := by simp
  clear hE hres hF
  go_enter Tryz.func7, Tryz.ntmps7
  go_wp2_with fail
  refine (readDoc_any N hN doc p w hd' hp HE.out).mono ?_
  rintro e w1 ⟨b1, h1⟩
  have HB1 : Hid (Below w.heap.size w w1) := b1
  clear b1
  rcases h1 with ⟨er, h2, h3, h4, rfl⟩ | ⟨D, er, h2, h3, h4, h5, rfl⟩ | ⟨D, L, T, x, q, cap, h2, h3, rfl, h4, h5⟩
  · have HR : Hid (res = #[.string ByteArray.empty, .int .i64 er]) := by
      show res = _
      rw [← HG.out, putA, h2]
    have hbe : ((er : Int) != 0) = true := by rw [bne_iff_ne]; omega
    clear h2
    go_wp2_with fail
    go_ret2
    exact ⟨by rw [HR.out]; rfl, HB1.out⟩
  · have HR : Hid (res = #[.string ByteArray.empty, .int .i64 er]) := by
      show res = _
      rw [← HG.out, putA, h2]
      simp only [h3]
    have hbe : ((er : Int) != 0) = true := by rw [bne_iff_ne]; omega
    clear h2 h3
    go_wp2_with fail
    go_ret2
    exact ⟨by rw [HR.out]; rfl, HB1.out⟩
  · have HR2 : Hid (rd20 N doc.data.toList = .ok D) := h2
    have HR3 : Hid (stepsE p.data.toList = .ok L) := h3
    have HS1 : Hid (S0 w1 N D (.iface T x)) := h4
    have HL1 : Hid (Strs w1 (.slice q L.length cap) L) := h5
    have hsum := steps_sum h3
    have hlen := (join_steps h3).2
    have HLs : Hid (∀ s ∈ L, s.length ≤ 8000000) := fun s hs => by
      obtain ⟨i, hi, rfl⟩ := List.getElem_of_mem hs
      have := len_le_sum L i hi
      omega
    clear h2 h3 h4 h5 hsum
    go_wp2_with fail
    refine (read20_any N hN v w1 hv).mono ?_
    rintro e w2 ⟨b2, h2⟩
    have HB2 : Hid (Below w.heap.size w w2) := HB1.out.trans (b2.mono HB1.out.size)
    have HS2 : Hid (S0 w2 N D (.iface T x)) := HS1.out.on b2
    have HL2 : Hid (Strs w2 (.slice q L.length cap) L) := HL1.out.below b2
    clear b2
    rcases h2 with ⟨er, h3, h4, h5, rfl⟩ | ⟨G, T2, x2, h3, rfl, h4⟩
    · have HR : Hid (res = #[.string ByteArray.empty, .int .i64 er]) := by
        show res = _
        rw [← HG.out, putA, HR2.out]
        simp only [HR3.out, h3]
      have hbe : ((er : Int) != 0) = true := by rw [bne_iff_ne]; omega
      have HBa : Hid (Below w.heap.size w (w2.alloc (.cells #[.nilIface] 36))) := HB2.out.alloc HB2.out.size _
      clear h3
      go_wp2_with fail
      go_ret2
      exact ⟨by rw [HR.out]; rfl, HBa.out⟩
    · have HR4 : Hid (rd20 N v.data.toList = .ok G) := h3
      have hTG := rd20_told hN h3
      have HTG : Hid (Told20 N G) := hTG
      have HR : Hid (res = madeA N (putR N D L G)) := by
        show res = _
        rw [← HG.out, putA, HR2.out]
        simp only [HR3.out, h3]
      have ha := heap_alloc_new w2 (.cells #[.iface T2 x2] 36)
      have hba : Below w2.heap.size w2 (w2.alloc (.cells #[.iface T2 x2] 36)) := (Below.refl _ _).alloc (Nat.le_refl _) _
      have HBa : Hid (Below w.heap.size w (w2.alloc (.cells #[.iface T2 x2] 36))) := HB2.out.trans (hba.mono HB2.out.size)
      have HSa : Hid (S0 (w2.alloc (.cells #[.iface T2 x2] 36)) N D (.iface T x)) := HS2.out.on hba
      have HLa : Hid (Strs (w2.alloc (.cells #[.iface T2 x2] 36)) (.slice q L.length cap) L) := HL2.out.below hba
      have HGa : Hid (S0 (w2.alloc (.cells #[.iface T2 x2] 36)) N G (.iface T2 x2)) := h4.on hba
      have HAa : Hid ((w2.alloc (.cells #[.iface T2 x2] 36)).heap[w2.heap.size]? = some (.cells #[.iface T2 x2] 36 (0, 0))) := ha
      have hlt2 : w2.heap.size < (w2.alloc (.cells #[.iface T2 x2] 36)).heap.size := by simp
      clear h3 h4 hTG ha hba
      go_wp2_with fail
      generalize hwa : w2.alloc (.cells #[.iface T2 x2] 36) = wa at *
      clear hwa
      by_cases hL0 : L = []
      · subst hL0
        have HRr : Hid (res = toldE N G) := by show res = _; rw [HR.out]; rfl
        refine (apart_nil q cap wa).mono ?_
        rintro e w3 ⟨rfl, b3⟩
        have hb3a : Below w3.heap.size w3 (w3.alloc (.cells #[.string ByteArray.empty] 9)) := (Below.refl _ _).alloc (Nat.le_refl _) _
        have hwaB : Below wa.heap.size wa (w3.alloc (.cells #[.string ByteArray.empty] 9)) := b3.trans (hb3a.mono b3.size)
        have HBb : Hid (Below w.heap.size w (w3.alloc (.cells #[.string ByteArray.empty] 9))) := HBa.out.trans (hwaB.mono HBa.out.size)
        have hcc : (w3.alloc (.cells #[.string ByteArray.empty] 9)).cell? ⟨w2.heap.size, 0, none⟩ = some (.iface T2 x2) := by
          rw [hwaB.cell (p := ⟨w2.heap.size, 0, none⟩) hlt2, cell_of_row _ _ _ _ _ _ HAa.out]
          rfl
        have HTl := tellJ_any N G (.iface T2 x2) (w3.alloc (.cells #[.string ByteArray.empty] 9)) (HGa.out.on hwaB) HTG.out.fine (HE.out.below HBb.out).tab
        obtain ⟨s, er, hform⟩ := toldE_form N G
        rw [hform] at HTl
        have HX : Hid (res = #[.string s, .int .i64 er]) := HRr.out.trans hform
        have HTl' : Hid (Calls Tryz.prog 16 #[.iface T2 x2] (w3.alloc (.cells #[.string ByteArray.empty] 9)) fun e w' => e = .returned (.tuple #[.string s, .int .i64 er]) ∧ Below (w3.alloc (.cells #[.string ByteArray.empty] 9)).heap.size (w3.alloc (.cells #[.string ByteArray.empty] 9)) w') := HTl
        clear b3 hb3a hwaB HTl hform
        go_wp2_with fail
        generalize w3.alloc (.cells #[.string ByteArray.empty] 9) = wb at *
        refine Calls.mono HTl'.out ?_
        rintro e w4 ⟨rfl, b4⟩
        have HB4 : Hid (Below w.heap.size w w4) := HBb.out.trans (b4.mono HBb.out.size)
        clear b4
        go_wp2_with fail
        go_ret2
        exact ⟨by rw [HX.out]; rfl, HB4.out⟩
      · obtain ⟨M, s, rfl⟩ : ∃ M s, L = M ++ [s] := ⟨L.dropLast, L.getLast hL0, (List.dropLast_concat_getLast hL0).symm⟩
        have hRr : putR N D (M ++ [s]) G = changeP N D M (putEnd (fun m => lift N m G) s) := by
          unfold putR
          rw [if_neg (by simp), List.dropLast_concat]
          simp
        have HRr : Hid (res = madeA N (changeP N D M (putEnd (fun m => lift N m G) s))) := by show res = _; rw [HR.out, hRr]
        have HFr : Hid (∀ R, changeP N D M (putEnd (fun m => lift N m G) s) = .ok R → Fine N R) := fun R h => HF.out D _ G R HR2.out HR3.out HR4.out (hRr.trans h)
        have hMl : M.length ≤ 9 := by simp at hlen; omega
        have hzs : (⟨s.toArray⟩ : ByteArray).size ≤ 8000000 := by rw [size_of]; exact HLs.out s (by simp)
        have hsd : (⟨s.toArray⟩ : ByteArray).data.toList = s := by simp
        refine (apart_some M s q cap wa HLa.out (by omega)).mono ?_
        rintro e w3 ⟨rfl, b3, hM3⟩
        have hb3a : Below w3.heap.size w3 (w3.alloc (.cells #[.string ⟨s.toArray⟩] 9)) := (Below.refl _ _).alloc (Nat.le_refl _) _
        have hwaB : Below wa.heap.size wa (w3.alloc (.cells #[.string ⟨s.toArray⟩] 9)) := b3.trans (hb3a.mono b3.size)
        have HBb : Hid (Below w.heap.size w (w3.alloc (.cells #[.string ⟨s.toArray⟩] 9))) := HBa.out.trans (hwaB.mono HBa.out.size)
        have hc1 : (w3.alloc (.cells #[.string ⟨s.toArray⟩] 9)).cell? ⟨w2.heap.size, 0, none⟩ = some (.iface T2 x2) := by
          rw [hwaB.cell (p := ⟨w2.heap.size, 0, none⟩) hlt2, cell_of_row _ _ _ _ _ _ HAa.out]
          rfl
        have hc0 : (w3.alloc (.cells #[.string ⟨s.toArray⟩] 9)).cell? ⟨w3.heap.size, 0, none⟩ = some (.string ⟨s.toArray⟩) := by
          rw [cell_of_row _ _ _ _ _ _ (heap_alloc_new w3 _)]
          rfl
        have he := put_end (N := N) (c0 := w3.heap.size) (c1 := w2.heap.size) (G := G) (by simp) (by have := hwaB.size; omega) hc0 hc1 (HGa.out.on hwaB) HTG.out.depth hzs (HE.out.below HBb.out)
        rw [hsd] at he
        have hTD := rd20_told hN HR2.out
        have HCh := changedP_any N w3.heap.size w2.heap.size (putEnd (fun m => lift N m G) s) M D T x (.slice q M.length cap) (w3.alloc (.cells #[.string ⟨s.toArray⟩] 9)) (by omega) (HSa.out.on hwaB) (rise_of_good _ _ hTD.good) (by have := hTD.nodes; omega) (hM3.below hb3a) (fun t ht => HLs.out t (by simp [ht])) (HE.out.below HBb.out) he HFr.out
        obtain ⟨sx, er, hform⟩ := madeA_form N (changeP N D M (putEnd (fun m => lift N m G) s))
        rw [hform] at HCh
        have HX : Hid (res = #[.string sx, .int .i64 er]) := HRr.out.trans hform
        have HCh' : Hid (Calls Tryz.prog 19 #[.iface T x, .slice q M.length cap, .func (.func 20) #[] #[.pointer (some ⟨w3.heap.size, 0, none⟩), .pointer (some ⟨w2.heap.size, 0, none⟩)]] (w3.alloc (.cells #[.string ⟨s.toArray⟩] 9)) fun e w' => e = .returned (.tuple #[.string sx, .int .i64 er]) ∧ Below (w3.alloc (.cells #[.string ⟨s.toArray⟩] 9)).heap.size (w3.alloc (.cells #[.string ⟨s.toArray⟩] 9)) w') := HCh
        clear b3 hb3a hwaB HCh hform he hTD hc0 hc1 hM3 hRr hsd hzs hL0
        go_wp2_with fail
        generalize w3.alloc (.cells #[.string ⟨s.toArray⟩] 9) = wb at *
        refine Calls.mono HCh'.out ?_
        rintro e w4 ⟨rfl, b4⟩
        have HB4 : Hid (Below w.heap.size w w4) := HBb.out.trans (b4.mono HBb.out.size)
        clear b4
        go_wp2_with fail
        go_ret2
        exact ⟨by rw [HX.out]; rfl, HB4.out⟩
end Go.Proofs.YthdgfehfoidnbabGreatDoor
