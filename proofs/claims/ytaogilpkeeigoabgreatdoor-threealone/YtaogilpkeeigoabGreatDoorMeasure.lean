/- Contracts over this translation: how many values there are, and how deep they lie. -/
import Derived.Test.YtaogilpkeeigoabGreatDoorListPlain
import Derived.Test.YtaogilpkeeigoabGreatDoorTellAny
namespace Go.Proofs.YtaogilpkeeigoabGreatDoor
open Go.RowKit
set_option linter.unusedVariables false
set_option linter.unusedSimpArgs false
set_option maxRecDepth 100000 in
set_option maxHeartbeats 2000000 in
theorem hold_any (zb a b l c d m : Nat) (w : World) (hz : w.heap[zb]? = some (.cells #[.int .i64 a, .int .i64 b, .int .i64 l] 52 (0, 0))) (ha : a ≤ 1000000) (hb : b ≤ 1000000) (hl : l ≤ 1000000000) (hc : c ≤ 1000000) (hd' : d ≤ 1000000) (hm : m ≤ 1000000000) :
    Calls Tryz.prog 42 #[.pointer (some ⟨zb, 0, none⟩), .agg #[.int .i64 c, .int .i64 d, .int .i64 m]] w fun e w' => e = .returned (.tuple #[]) ∧ w.grownBy w' (some zb) ∧ w'.heap[zb]? = some (.cells #[.int .i64 ((a + c : Nat) : Int), .int .i64 ((max b (d + 1) : Nat) : Int), .int .i64 ((l + m : Nat) : Int)] 52 (0, 0)) := by
  have hzw := lt_of_block hz
  have hza : (w.alloc (.cells #[.int .i64 c, .int .i64 d, .int .i64 m] 52)).heap[zb]? = some (.cells #[.int .i64 a, .int .i64 b, .int .i64 l] 52 (0, 0)) := (Below.heap_alloc w _ zb hzw).trans hz
  have hxa : (w.alloc (.cells #[.int .i64 c, .int .i64 d, .int .i64 m] 52)).heap[w.heap.size]? = some (.cells #[.int .i64 c, .int .i64 d, .int .i64 m] 52 (0, 0)) := heap_alloc_new w _
  have z0 : (w.alloc (.cells #[.int .i64 c, .int .i64 d, .int .i64 m] 52)).cell? ⟨zb, 0, none⟩ = some (.int .i64 a) := by rw [cell_of_row _ _ _ _ _ _ hza]; rfl
  have z1 : (w.alloc (.cells #[.int .i64 c, .int .i64 d, .int .i64 m] 52)).cell? ⟨zb, 1, none⟩ = some (.int .i64 b) := by rw [cell_of_row _ _ _ _ _ _ hza]; rfl
  have z2 : (w.alloc (.cells #[.int .i64 c, .int .i64 d, .int .i64 m] 52)).cell? ⟨zb, 2, none⟩ = some (.int .i64 l) := by rw [cell_of_row _ _ _ _ _ _ hza]; rfl
  have x0 : (w.alloc (.cells #[.int .i64 c, .int .i64 d, .int .i64 m] 52)).cell? ⟨w.heap.size, 0, none⟩ = some (.int .i64 c) := by rw [cell_of_row _ _ _ _ _ _ hxa]; rfl
  have x1 : (w.alloc (.cells #[.int .i64 c, .int .i64 d, .int .i64 m] 52)).cell? ⟨w.heap.size, 1, none⟩ = some (.int .i64 d) := by rw [cell_of_row _ _ _ _ _ _ hxa]; rfl
  have x2 : (w.alloc (.cells #[.int .i64 c, .int .i64 d, .int .i64 m] 52)).cell? ⟨w.heap.size, 2, none⟩ = some (.int .i64 m) := by rw [cell_of_row _ _ _ _ _ _ hxa]; rfl
  have f0 : ∀ j, (w.alloc (.cells #[.int .i64 c, .int .i64 d, .int .i64 m] 52)).frozen? ⟨zb, j, none⟩ = false := fun j => frozen_of_row _ _ _ _ _ hza
  have f00 := f0 0
  have f01 := f0 1
  have f02 := f0 2
  have hne : zb ≠ w.heap.size := by omega
  clear hz hxa f0
  have HZ : Hid ((w.alloc (.cells #[.int .i64 c, .int .i64 d, .int .i64 m] 52)).heap[zb]? = some (.cells #[.int .i64 a, .int .i64 b, .int .i64 l] 52 (0, 0))) := hza
  have HGr : Hid (w.grownBy (w.alloc (.cells #[.int .i64 c, .int .i64 d, .int .i64 m] 52)) (some zb)) := World.grownBy_alloc w _ _
  clear hza
  go_enter Tryz.func42, Tryz.ntmps42
  go_wp2
  generalize w.alloc (.cells #[.int .i64 c, .int .i64 d, .int .i64 m] 52) = wa at *
  go_region
  go_wp2
  go_region
  go_wp2
  go_region
  go_wp2
  go_end0
  refine ⟨rfl, ((((show G zb w wa from HGr.out).setCell 0 _).setCell 1 _).setCell 2 _).drew.drew.drew, ?_⟩
  have h1 := heap_setCell_same wa zb 0 _ _ (.int .i64 ((a : Int) + (c : Int))) HZ.out
  have h2 := heap_setCell_same _ zb 1 _ _ (.int .i64 (max (b : Int) ((d : Int) + 1))) h1
  have h3 := heap_setCell_same _ zb 2 _ _ (.int .i64 ((l : Int) + (m : Int))) h2
  have e1 : ((a + c : Nat) : Int) = (a : Int) + (c : Int) := by omega
  have e2 : ((max b (d + 1) : Nat) : Int) = max (b : Int) ((d : Int) + 1) := by omega
  have e3 : ((l + m : Nat) : Int) = (l : Int) + (m : Int) := by omega
  rw [e1, e2, e3]
  exact h3
/-- how many bytes texts and names have -/
def lensLeaf : Leaf → Nat
  | some (Sum.inr (Sum.inr s)) => s.length
  | _ => 0
def lens : (n : Nat) → J n → Nat
  | 0, l => lensLeaf l
  | _ + 1, Sum.inl l => lensLeaf l
  | n + 1, Sum.inr (Sum.inl xs) => (xs.map (lens n)).sum
  | n + 1, Sum.inr (Sum.inr fs) => (fs.map fun f => f.1.length + lens n f.2).sum
theorem quote_geL (s : Bs) : s.length ≤ (quote s).length := by
  have h : ∀ l : Bs, l.length ≤ (l.flatMap quoteB).length := by
    intro l
    induction l with
    | nil => simp
    | cons c l ih =>
      have h1 : 1 ≤ (quoteB c).length := by
        unfold quoteB
        split
        · simp
        · split
          · simp
          · split <;> simp
      simp only [List.flatMap_cons, List.length_append, List.length_cons]
      omega
  have := h s
  simp only [quote, List.length_cons, List.length_append]
  omega
theorem lensLeaf_le (l : Leaf) : lensLeaf l ≤ (tellLeaf l).length := by
  match l with
  | none => exact Nat.zero_le _
  | some (Sum.inl b) => exact Nat.zero_le _
  | some (Sum.inr (Sum.inl i)) => exact Nat.zero_le _
  | some (Sum.inr (Sum.inr s)) => exact quote_geL s
theorem commas_sum : ∀ (l : List Bs), (l.map List.length).sum ≤ (commas l).length
  | [] => Nat.le_refl _
  | [x] => by simp [commas]
  | x :: y :: r => by
    have := commas_sum (y :: r)
    simp only [commas, List.map_cons, List.sum_cons, List.length_append, List.length_cons] at this ⊢
    omega
theorem sum_le_sum {α : Type} (f g : α → Nat) : ∀ (l : List α), (∀ x ∈ l, f x ≤ g x) → (l.map f).sum ≤ (l.map g).sum
  | [], _ => Nat.le_refl _
  | x :: l, h => by
    have h1 := sum_le_sum f g l (fun y hy => h y (by simp [hy]))
    have h2 := h x (by simp)
    simp only [List.map_cons, List.sum_cons]
    omega
/-- texts and names are no longer than what is told -/
theorem lens_le : ∀ (n : Nat) (j : J n), lens n j ≤ (tell n j).length
  | 0, l => lensLeaf_le l
  | _ + 1, Sum.inl l => lensLeaf_le l
  | n + 1, Sum.inr (Sum.inl xs) => by
    have h1 : (xs.map (lens n)).sum ≤ (xs.map (fun x => (tell n x).length)).sum := sum_le_sum _ _ xs (fun x _ => lens_le n x)
    have h2 := commas_sum (xs.map (tell n))
    have e : ((xs.map (tell n)).map List.length) = xs.map (fun x => (tell n x).length) := by rw [List.map_map]; rfl
    rw [e] at h2
    show (xs.map (lens n)).sum ≤ (91 :: (commas (xs.map (tell n)) ++ [93])).length
    simp only [List.length_cons, List.length_append]
    omega
  | n + 1, Sum.inr (Sum.inr fs) => by
    have h1 : (fs.map (fun f => f.1.length + lens n f.2)).sum ≤ (fs.map (fun f => (quote f.1 ++ 58 :: tell n f.2).length)).sum := sum_le_sum _ _ fs (fun f _ => by
      have a1 := quote_geL f.1
      have a2 := lens_le n f.2
      simp only [List.length_cons, List.length_append]
      omega)
    have h2 := commas_sum (fs.map fun f => quote f.1 ++ 58 :: tell n f.2)
    have e : ((fs.map fun f => quote f.1 ++ 58 :: tell n f.2).map List.length) = fs.map (fun f => (quote f.1 ++ 58 :: tell n f.2).length) := by rw [List.map_map]; rfl
    rw [e] at h2
    show (fs.map (fun f => f.1.length + lens n f.2)).sum ≤ (123 :: (commas (fs.map fun f => quote f.1 ++ 58 :: tell n f.2) ++ [125])).length
    simp only [List.length_cons, List.length_append]
    omega
/-- how many values, and how deep: at every value of depth n -/
def MeasureOK (n : Nat) : Prop := ∀ (av : Nat → Prop) (j : J n) (x : Value) (w : World), St av w n j x → nodes n j ≤ 100000 → depth n j ≤ 100000 → lens n j ≤ 100000000 →
  Calls Tryz.prog 25 #[x] w fun e w' => e = .returned (.agg #[.int .i64 (nodes n j), .int .i64 (depth n j), .int .i64 (lens n j)]) ∧ Below w.heap.size w w'
theorem nodes_pos : ∀ (n : Nat) (j : J n), 1 ≤ nodes n j
  | 0, _ => Nat.le_refl _
  | _ + 1, Sum.inl _ => Nat.le_refl _
  | _ + 1, Sum.inr (Sum.inl _) => Nat.le_add_right _ _
  | _ + 1, Sum.inr (Sum.inr _) => Nat.le_add_right _ _
theorem sum_ge : ∀ (l : List Nat), (∀ y ∈ l, 1 ≤ y) → l.length ≤ l.sum
  | [], _ => Nat.le_refl _
  | y :: l, h => by
    have := sum_ge l (fun z hz => h z (by simp [hz]))
    have := h y (by simp)
    simp only [List.length_cons, List.sum_cons]
    omega
theorem maxOf_snoc : ∀ (l : List Nat) (y : Nat), maxOf (l ++ [y]) = max (maxOf l) y
  | [], y => by simp [maxOf]
  | x :: l, y => by
    have := maxOf_snoc l y
    simp only [List.cons_append, maxOf, this]
    omega
theorem take_sum_le : ∀ (l : List Nat) (k : Nat), (l.take k).sum ≤ l.sum
  | [], k => by simp
  | x :: l, 0 => by simp
  | x :: l, k + 1 => by
    have := take_sum_le l k
    simp only [List.take_succ_cons, List.sum_cons]
    omega
theorem take_max_le : ∀ (l : List Nat) (k : Nat), maxOf (l.take k) ≤ maxOf l
  | [], k => by simp
  | x :: l, 0 => by simp [maxOf]
  | x :: l, k + 1 => by
    have := take_max_le l k
    simp only [List.take_succ_cons, maxOf]
    omega
set_option maxRecDepth 100000 in
set_option maxHeartbeats 1000000 in
theorem measure_leaf (l : Leaf) (w : World) :
    Calls Tryz.prog 25 #[leafV l] w fun e w' => e = .returned (.agg #[.int .i64 1, .int .i64 0, .int .i64 (lensLeaf l)]) ∧ Below w.heap.size w w' := by
  match l with
  | none =>
    obtain ⟨a1, a2, a3, a4, a5, a6⟩ := tas_Null
    unfold leafV
    go_enter Tryz.func25, Tryz.ntmps25
    go_wp2_with fail
    exact bodyPost_ret (v := .agg #[.int .i64 1, .int .i64 0, .int .i64 0]) (by simp [results, Tryz.results25, go_sem]) rfl ⟨rfl, (Below.refl _ _).alloc (Nat.le_refl _) _⟩
  | some (Sum.inl b) =>
    obtain ⟨a1, a2, a3, a4, a5, a6⟩ := tas_Bool
    unfold leafV
    go_enter Tryz.func25, Tryz.ntmps25
    go_wp2_with fail
    exact bodyPost_ret (v := .agg #[.int .i64 1, .int .i64 0, .int .i64 0]) (by simp [results, Tryz.results25, go_sem]) rfl ⟨rfl, (Below.refl _ _).alloc (Nat.le_refl _) _⟩
  | some (Sum.inr (Sum.inl i)) =>
    obtain ⟨a1, a2, a3, a4, a5, a6⟩ := tas_Number
    unfold leafV
    go_enter Tryz.func25, Tryz.ntmps25
    go_wp2_with fail
    exact bodyPost_ret (v := .agg #[.int .i64 1, .int .i64 0, .int .i64 0]) (by simp [results, Tryz.results25, go_sem]) rfl ⟨rfl, (Below.refl _ _).alloc (Nat.le_refl _) _⟩
  | some (Sum.inr (Sum.inr s)) =>
    obtain ⟨a1, a2, a3, a4, a5, a6⟩ := tas_Text
    unfold leafV
    go_enter Tryz.func25, Tryz.ntmps25
    go_wp2_with fail
    exact bodyPost_ret (v := .agg #[.int .i64 1, .int .i64 0, .int .i64 (lensLeaf (some (Sum.inr (Sum.inr s))))]) (by simp [results, Tryz.results25, go_sem, lensLeaf]) rfl ⟨rfl, (Below.refl _ _).alloc (Nat.le_refl _) _⟩
set_option maxRecDepth 100000 in
set_option maxHeartbeats 4000000 in
theorem measure_list (n : Nat) (hM : MeasureOK n) (av : Nat → Prop) (xs : List (J n)) (x : Value) (w : World) (hSt : St av w (n + 1) (Sum.inr (Sum.inl xs)) x) (hN : nodes (n + 1) (Sum.inr (Sum.inl xs)) ≤ 100000) (hD : depth (n + 1) (Sum.inr (Sum.inl xs)) ≤ 100000) (hL : lens (n + 1) (Sum.inr (Sum.inl xs)) ≤ 100000000) :
    Calls Tryz.prog 25 #[x] w fun e w' => e = .returned (.agg #[.int .i64 (nodes (n + 1) (Sum.inr (Sum.inl xs))), .int .i64 (depth (n + 1) (Sum.inr (Sum.inl xs))), .int .i64 (lens (n + 1) (Sum.inr (Sum.inl xs)))]) ∧ Below w.heap.size w w' := by
  have en : nodes (n + 1) (Sum.inr (Sum.inl xs)) = 1 + (xs.map (nodes n)).sum := rfl
  have ed : depth (n + 1) (Sum.inr (Sum.inl xs)) = 1 + maxOf (xs.map (depth n)) := rfl
  have eb : lens (n + 1) (Sum.inr (Sum.inl xs)) = (xs.map (lens n)).sum := rfl
  rw [en] at hN ⊢
  rw [ed] at hD ⊢
  rw [eb] at hL ⊢
  obtain ⟨p, g, cap, vs, rfl, hpp, hvl, hlc, hcm, hcell, hel⟩ := hSt.list
  unfold maxLen at hcm
  have hlen : xs.length ≤ 100000 := by
    have h := sum_ge (xs.map (nodes n)) (fun y hy => by
      obtain ⟨z, _, rfl⟩ := List.mem_map.1 hy
      exact nodes_pos _ _)
    rw [List.length_map] at h
    omega
  have HEl : Hid (∀ w1, Below w.heap.size w w1 → ∀ k (hk : k < xs.length), ∃ u, w1.cell? ⟨g, k, none⟩ = some u ∧ St (fun c => w.heap.size ≤ c) w1 n xs[k] u) := by
    intro w1 hb k hk
    have hu : vs[k]? = some (vs[k]'(by omega)) := List.getElem?_eq_getElem (by omega)
    refine ⟨_, by rw [hb.cell (p := ⟨g, k, none⟩) (hpp k hk).2.2]; exact hcell k _ hu, ?_⟩
    exact (((hel k xs[k] _ (List.getElem?_eq_getElem hk) hu).wide (fun c hc => Or.inr hc) : St (fun c => w.heap.size ≤ c) w n xs[k] _)).step hb.size (fun c hc _ => hb.block c hc)
  have HTk : Hid (∀ k (hk : k < xs.length), ((xs.map (nodes n)).take (k + 1)).sum = ((xs.map (nodes n)).take k).sum + nodes n xs[k] ∧ maxOf ((xs.map (depth n)).take (k + 1)) = max (maxOf ((xs.map (depth n)).take k)) (depth n xs[k]) ∧ ((xs.map (lens n)).take (k + 1)).sum = ((xs.map (lens n)).take k).sum + lens n xs[k]) := fun k hk => by
    refine ⟨?_, ?_, ?_⟩
    · rw [List.take_succ_eq_append_getElem (by simpa using hk), List.sum_append]
      simp
    · rw [List.take_succ_eq_append_getElem (by simpa using hk), maxOf_snoc]
      simp
    · rw [List.take_succ_eq_append_getElem (by simpa using hk), List.sum_append]
      simp
  have HLe : Hid (∀ k, ((xs.map (nodes n)).take k).sum ≤ (xs.map (nodes n)).sum ∧ maxOf ((xs.map (depth n)).take k) ≤ maxOf (xs.map (depth n)) ∧ ((xs.map (lens n)).take k).sum ≤ (xs.map (lens n)).sum) := fun k => ⟨take_sum_le _ k, take_max_le _ k, take_sum_le _ k⟩
  have HAll : Hid (∀ k, xs.length ≤ k → ((xs.map (nodes n)).take k).sum = (xs.map (nodes n)).sum ∧ maxOf ((xs.map (depth n)).take k) = maxOf (xs.map (depth n)) ∧ ((xs.map (lens n)).take k).sum = (xs.map (lens n)).sum) := fun k hk => by
    rw [List.take_of_length_le (by simpa using hk), List.take_of_length_le (by simpa using hk), List.take_of_length_le (by simpa using hk)]
    exact ⟨rfl, rfl, rfl⟩
  generalize xs.map (nodes n) = ns at *
  generalize xs.map (depth n) = ds at *
  generalize xs.map (lens n) = bs at *
  have HM : Hid (MeasureOK n) := hM
  obtain ⟨a1, a2, a3, a4, a5, a6⟩ := tas_List
  have HPp : Hid (∀ k, k < xs.length → p = some ⟨g, 0, none⟩) := fun k hk => (hpp k hk).1
  clear hcell hel hM en ed eb hpp
  have HZ0 : Hid (((w.alloc (.cells #[.int .i64 0, .int .i64 0, .int .i64 0] 52)).alloc (.cells #[.int .i64 1, .int .i64 1, .int .i64 0] 52)).heap[w.heap.size + 1]? = some (.cells #[.int .i64 1, .int .i64 1, .int .i64 0] 52 (0, 0))) := by
    have h0 := heap_alloc_new (w.alloc (.cells #[.int .i64 0, .int .i64 0, .int .i64 0] 52)) (.cells #[.int .i64 1, .int .i64 1, .int .i64 0] 52)
    have e0 : (w.alloc (.cells #[.int .i64 0, .int .i64 0, .int .i64 0] 52)).heap.size = w.heap.size + 1 := by simp
    rw [e0] at h0
    exact h0
  have HZr : Hid (((w.alloc (.cells #[.int .i64 0, .int .i64 0, .int .i64 0] 52)).alloc (.cells #[.int .i64 1, .int .i64 1, .int .i64 0] 52)).heap[w.heap.size]? = some (.cells #[.int .i64 0, .int .i64 0, .int .i64 0] 52 (0, 0))) := by
    show ((w.alloc (.cells #[.int .i64 0, .int .i64 0, .int .i64 0] 52)).alloc (.cells #[.int .i64 1, .int .i64 1, .int .i64 0] 52)).heap[w.heap.size]? = _
    rw [Below.heap_alloc _ _ _ (by simp)]
    exact heap_alloc_new w _
  have HB0 : Hid (Below w.heap.size w ((w.alloc (.cells #[.int .i64 0, .int .i64 0, .int .i64 0] 52)).alloc (.cells #[.int .i64 1, .int .i64 1, .int .i64 0] 52))) := ((Below.refl _ w).alloc (Nat.le_refl _) _).alloc (by simp) _
  go_enter Tryz.func25, Tryz.ntmps25
  go_wp2_with fail
  go_loopw [25] (fun i wr => ∃ k : Nat, k ≤ xs.length ∧ i = .int .i64 k ∧ wr.heap[w.heap.size + 1]? = some (.cells #[.int .i64 ((1 + (ns.take k).sum : Nat) : Int), .int .i64 ((1 + maxOf (ds.take k) : Nat) : Int), .int .i64 (((bs.take k).sum : Nat) : Int)] 52 (0, 0)) ∧ wr.heap[w.heap.size]? = some (.cells #[.int .i64 0, .int .i64 0, .int .i64 0] 52 (0, 0)) ∧ Below w.heap.size w wr) (fun i _ => xs.length - (intOf i).toNat)
  case atStart => exact ⟨0, Nat.zero_le _, rfl, HZ0.out, HZr.out, HB0.out⟩
  case round =>
    obtain ⟨k, hk, rfl, hz, hrb, hbel⟩ := hrel
    have HZ : Hid (wr.heap[w.heap.size + 1]? = some (.cells #[.int .i64 ((1 + (ns.take k).sum : Nat) : Int), .int .i64 ((1 + maxOf (ds.take k) : Nat) : Int), .int .i64 (((bs.take k).sum : Nat) : Int)] 52 (0, 0))) := hz
    have HRb : Hid (wr.heap[w.heap.size]? = some (.cells #[.int .i64 0, .int .i64 0, .int .i64 0] 52 (0, 0))) := hrb
    have HB : Hid (Below w.heap.size w wr) := hbel
    have hle := HLe.out k
    have hzw := lt_of_block hz
    clear hz hrb hbel
    by_cases hlt : k < xs.length
    · have hpe := HPp.out k hlt
      subst hpe
      obtain ⟨u, hcu, hst⟩ := HEl.out wr HB.out k hlt
      have HSt : Hid (St (fun c => w.heap.size ≤ c) wr n xs[k] u) := hst
      have hle2 := HLe.out (k + 1)
      have htk := HTk.out k hlt
      have hnk : nodes n xs[k] ≤ 100000 := by omega
      have hdk : depth n xs[k] ≤ 100000 := by omega
      have hbk : lens n xs[k] ≤ 100000000 := by omega
      have HTK : Hid ((ns.take (k + 1)).sum = (ns.take k).sum + nodes n xs[k] ∧ maxOf (ds.take (k + 1)) = max (maxOf (ds.take k)) (depth n xs[k]) ∧ (bs.take (k + 1)).sum = (bs.take k).sum + lens n xs[k]) := htk
      clear hst htk
      go_wp2_with fail
      refine (HM.out _ xs[k] u wr HSt.out hnk hdk hbk).mono ?_
      rintro e w1 ⟨rfl, b1⟩
      have hz1 : w1.heap[w.heap.size + 1]? = some (.cells #[.int .i64 ((1 + (ns.take k).sum : Nat) : Int), .int .i64 ((1 + maxOf (ds.take k) : Nat) : Int), .int .i64 (((bs.take k).sum : Nat) : Int)] 52 (0, 0)) := (b1.block _ (lt_of_block HZ.out)).trans HZ.out
      have HZ1 : Hid (w1.heap[w.heap.size + 1]? = some (.cells #[.int .i64 ((1 + (ns.take k).sum : Nat) : Int), .int .i64 ((1 + maxOf (ds.take k) : Nat) : Int), .int .i64 (((bs.take k).sum : Nat) : Int)] 52 (0, 0))) := hz1
      have HR1 : Hid (w1.heap[w.heap.size]? = some (.cells #[.int .i64 0, .int .i64 0, .int .i64 0] 52 (0, 0))) := (b1.block _ (lt_of_block HRb.out)).trans HRb.out
      have HB1 : Hid (Below w.heap.size w w1) := HB.out.trans (b1.mono HB.out.size)
      clear b1 hz1
      go_wp2_with fail
      refine (hold_any (w.heap.size + 1) (1 + (ns.take k).sum) (1 + maxOf (ds.take k)) (bs.take k).sum (nodes n xs[k]) (depth n xs[k]) (lens n xs[k]) w1 HZ1.out (by omega) (by omega) (by omega) (by omega) (by omega) (by omega)).mono ?_
      rintro e w2 ⟨rfl, g2, z2⟩
      have HZ2 : Hid (w2.heap[w.heap.size + 1]? = some (.cells #[.int .i64 ((1 + (ns.take (k + 1)).sum : Nat) : Int), .int .i64 ((1 + maxOf (ds.take (k + 1)) : Nat) : Int), .int .i64 (((bs.take (k + 1)).sum : Nat) : Int)] 52 (0, 0))) := by
        show w2.heap[w.heap.size + 1]? = _
        have e1 : 1 + (ns.take (k + 1)).sum = 1 + (ns.take k).sum + nodes n xs[k] := by rw [HTK.out.1]; omega
        have e2 : 1 + maxOf (ds.take (k + 1)) = max (1 + maxOf (ds.take k)) (depth n xs[k] + 1) := by rw [HTK.out.2.1]; omega
        rw [e1, e2, HTK.out.2.2]
        exact z2
      have HR2 : Hid (w2.heap[w.heap.size]? = some (.cells #[.int .i64 0, .int .i64 0, .int .i64 0] 52 (0, 0))) := (g2.block _ (lt_of_block HR1.out) (fun e => by simp at e)).trans HR1.out
      have HB2 : Hid (Below w.heap.size w w2) := HB1.out.grown g2 HB1.out.size (fun k e => by cases e; omega)
      clear g2 z2
      go_wp2_with fail
      go_roundw
      case rel => exact ⟨k + 1, by omega, by go_num, HZ2.out, HR2.out, HB2.out⟩
      case measure => simp [intOf]; omega
    · have hall := HAll.out k (by omega)
      have HA : Hid ((ns.take k).sum = ns.sum ∧ maxOf (ds.take k) = maxOf ds ∧ (bs.take k).sum = bs.sum) := hall
      have hz : wr.heap[w.heap.size + 1]? = some (.cells #[.int .i64 ((1 + ns.sum : Nat) : Int), .int .i64 ((1 + maxOf ds : Nat) : Int), .int .i64 ((bs.sum : Nat) : Int)] 52 (0, 0)) := by
        have := HZ.out
        rw [hall.1, hall.2.1, hall.2.2] at this
        exact this
      have z0 : wr.cell? ⟨w.heap.size + 1, 0, none⟩ = some (.int .i64 ((1 + ns.sum : Nat) : Int)) := by rw [cell_of_row _ _ _ _ _ _ hz]; rfl
      have z1 : wr.cell? ⟨w.heap.size + 1, 1, none⟩ = some (.int .i64 ((1 + maxOf ds : Nat) : Int)) := by rw [cell_of_row _ _ _ _ _ _ hz]; rfl
      have z2 : wr.cell? ⟨w.heap.size + 1, 2, none⟩ = some (.int .i64 ((bs.sum : Nat) : Int)) := by rw [cell_of_row _ _ _ _ _ _ hz]; rfl
      have r0 : wr.cell? ⟨w.heap.size, 0, none⟩ = some (.int .i64 0) := by rw [cell_of_row _ _ _ _ _ _ HRb.out]; rfl
      have r1 : wr.cell? ⟨w.heap.size, 1, none⟩ = some (.int .i64 0) := by rw [cell_of_row _ _ _ _ _ _ HRb.out]; rfl
      have r2 : wr.cell? ⟨w.heap.size, 2, none⟩ = some (.int .i64 0) := by rw [cell_of_row _ _ _ _ _ _ HRb.out]; rfl
      have f0 : wr.frozen? ⟨w.heap.size, 0, none⟩ = false := frozen_of_row _ _ _ _ _ HRb.out
      have f1 : wr.frozen? ⟨w.heap.size, 1, none⟩ = false := frozen_of_row _ _ _ _ _ HRb.out
      have f2 : wr.frozen? ⟨w.heap.size, 2, none⟩ = false := frozen_of_row _ _ _ _ _ HRb.out
      clear hall hz
      obtain ⟨A, hA⟩ : ∃ A : Int, A = ((1 + ns.sum : Nat) : Int) := ⟨_, rfl⟩
      obtain ⟨B, hB⟩ : ∃ B : Int, B = ((1 + maxOf ds : Nat) : Int) := ⟨_, rfl⟩
      obtain ⟨C, hC⟩ : ∃ C : Int, C = ((bs.sum : Nat) : Int) := ⟨_, rfl⟩
      rw [← hA] at z0
      rw [← hB] at z1
      rw [← hC] at z2
      have HAB : Hid (A = ((1 + ns.sum : Nat) : Int) ∧ B = ((1 + maxOf ds : Nat) : Int) ∧ C = ((bs.sum : Nat) : Int)) := ⟨hA, hB, hC⟩
      clear hA hB hC
      go_wp2_with fail
      exact bodyPost_ret (v := .agg #[.int .i64 A, .int .i64 B, .int .i64 C]) (by simp [results, Tryz.results25, go_sem, r0, r1, r2]) rfl ⟨by rw [HAB.out.1, HAB.out.2.1, HAB.out.2.2], ((HB.out.setCell (Nat.le_refl _) _).setCell (Nat.le_refl _) _).setCell (Nat.le_refl _) _⟩
set_option maxRecDepth 100000 in
set_option maxHeartbeats 4000000 in
theorem measure_object (n : Nat) (hM : MeasureOK n) (av : Nat → Prop) (fs : List (Bs × J n)) (x : Value) (w : World) (hSt : St av w (n + 1) (Sum.inr (Sum.inr fs)) x) (hN : nodes (n + 1) (Sum.inr (Sum.inr fs)) ≤ 100000) (hD : depth (n + 1) (Sum.inr (Sum.inr fs)) ≤ 100000) (hL : lens (n + 1) (Sum.inr (Sum.inr fs)) ≤ 100000000) :
    Calls Tryz.prog 25 #[x] w fun e w' => e = .returned (.agg #[.int .i64 (nodes (n + 1) (Sum.inr (Sum.inr fs))), .int .i64 (depth (n + 1) (Sum.inr (Sum.inr fs))), .int .i64 (lens (n + 1) (Sum.inr (Sum.inr fs)))]) ∧ Below w.heap.size w w' := by
  have en : nodes (n + 1) (Sum.inr (Sum.inr fs)) = 1 + (fs.map (fun f => nodes n f.2)).sum := rfl
  have ed : depth (n + 1) (Sum.inr (Sum.inr fs)) = 1 + maxOf (fs.map (fun f => depth n f.2)) := rfl
  have eb : lens (n + 1) (Sum.inr (Sum.inr fs)) = (fs.map (fun f => f.1.length + lens n f.2)).sum := rfl
  rw [en] at hN ⊢
  rw [ed] at hD ⊢
  rw [eb] at hL ⊢
  obtain ⟨p, g, cap, vs, rfl, hpp, hvl, hlc, hcm, hcell, hel⟩ := hSt.obj
  unfold maxLen at hcm
  have hlen : fs.length ≤ 100000 := by
    have h := sum_ge (fs.map (fun f => nodes n f.2)) (fun y hy => by
      obtain ⟨z, _, rfl⟩ := List.mem_map.1 hy
      exact nodes_pos _ _)
    rw [List.length_map] at h
    omega
  have HEl : Hid (∀ w1, Below w.heap.size w w1 → ∀ k (hk : k < fs.length), ∃ u, w1.cell? ⟨g, k * 2, none⟩ = some (.string ⟨fs[k].1.toArray⟩) ∧ w1.cell? ⟨g, k * 2 + 1, none⟩ = some u ∧ St (fun c => w.heap.size ≤ c) w1 n fs[k].2 u) := by
    intro w1 hb k hk
    have hu : vs[k]? = some (vs[k]'(by omega)) := List.getElem?_eq_getElem (by omega)
    have hf : fs[k]? = some fs[k] := List.getElem?_eq_getElem hk
    have hc := hcell k _ _ hf hu
    refine ⟨_, by rw [hb.cell (p := ⟨g, k * 2, none⟩) (hpp k hk).2.2]; exact hc.1, by rw [hb.cell (p := ⟨g, k * 2 + 1, none⟩) (hpp k hk).2.2]; exact hc.2, ?_⟩
    exact (((hel k fs[k] _ hf hu).wide (fun c hc => Or.inr hc) : St (fun c => w.heap.size ≤ c) w n fs[k].2 _)).step hb.size (fun c hc _ => hb.block c hc)
  have HTk : Hid (∀ k (hk : k < fs.length), ((fs.map (fun f => nodes n f.2)).take (k + 1)).sum = ((fs.map (fun f => nodes n f.2)).take k).sum + nodes n fs[k].2 ∧ maxOf ((fs.map (fun f => depth n f.2)).take (k + 1)) = max (maxOf ((fs.map (fun f => depth n f.2)).take k)) (depth n fs[k].2) ∧ ((fs.map (fun f => f.1.length + lens n f.2)).take (k + 1)).sum = ((fs.map (fun f => f.1.length + lens n f.2)).take k).sum + (fs[k].1.length + lens n fs[k].2)) := fun k hk => by
    refine ⟨?_, ?_, ?_⟩
    · rw [List.take_succ_eq_append_getElem (by simpa using hk), List.sum_append]
      simp
    · rw [List.take_succ_eq_append_getElem (by simpa using hk), maxOf_snoc]
      simp
    · rw [List.take_succ_eq_append_getElem (by simpa using hk), List.sum_append]
      simp
  have HLe : Hid (∀ k, ((fs.map (fun f => nodes n f.2)).take k).sum ≤ (fs.map (fun f => nodes n f.2)).sum ∧ maxOf ((fs.map (fun f => depth n f.2)).take k) ≤ maxOf (fs.map (fun f => depth n f.2)) ∧ ((fs.map (fun f => f.1.length + lens n f.2)).take k).sum ≤ (fs.map (fun f => f.1.length + lens n f.2)).sum) := fun k => ⟨take_sum_le _ k, take_max_le _ k, take_sum_le _ k⟩
  have HAll : Hid (∀ k, fs.length ≤ k → ((fs.map (fun f => nodes n f.2)).take k).sum = (fs.map (fun f => nodes n f.2)).sum ∧ maxOf ((fs.map (fun f => depth n f.2)).take k) = maxOf (fs.map (fun f => depth n f.2)) ∧ ((fs.map (fun f => f.1.length + lens n f.2)).take k).sum = (fs.map (fun f => f.1.length + lens n f.2)).sum) := fun k hk => by
    rw [List.take_of_length_le (by simpa using hk), List.take_of_length_le (by simpa using hk), List.take_of_length_le (by simpa using hk)]
    exact ⟨rfl, rfl, rfl⟩
  generalize fs.map (fun f => nodes n f.2) = ns at *
  generalize fs.map (fun f => depth n f.2) = ds at *
  generalize fs.map (fun f => f.1.length + lens n f.2) = bs at *
  have HM : Hid (MeasureOK n) := hM
  obtain ⟨a1, a2, a3, a4, a5, a6⟩ := tas_Object
  have HPp : Hid (∀ k, k < fs.length → p = some ⟨g, 0, none⟩) := fun k hk => (hpp k hk).1
  clear hcell hel hM en ed eb hpp
  have HZ0 : Hid (((w.alloc (.cells #[.int .i64 0, .int .i64 0, .int .i64 0] 52)).alloc (.cells #[.int .i64 1, .int .i64 1, .int .i64 0] 52)).heap[w.heap.size + 1]? = some (.cells #[.int .i64 1, .int .i64 1, .int .i64 0] 52 (0, 0))) := by
    have h0 := heap_alloc_new (w.alloc (.cells #[.int .i64 0, .int .i64 0, .int .i64 0] 52)) (.cells #[.int .i64 1, .int .i64 1, .int .i64 0] 52)
    have e0 : (w.alloc (.cells #[.int .i64 0, .int .i64 0, .int .i64 0] 52)).heap.size = w.heap.size + 1 := by simp
    rw [e0] at h0
    exact h0
  have HZr : Hid (((w.alloc (.cells #[.int .i64 0, .int .i64 0, .int .i64 0] 52)).alloc (.cells #[.int .i64 1, .int .i64 1, .int .i64 0] 52)).heap[w.heap.size]? = some (.cells #[.int .i64 0, .int .i64 0, .int .i64 0] 52 (0, 0))) := by
    show ((w.alloc (.cells #[.int .i64 0, .int .i64 0, .int .i64 0] 52)).alloc (.cells #[.int .i64 1, .int .i64 1, .int .i64 0] 52)).heap[w.heap.size]? = _
    rw [Below.heap_alloc _ _ _ (by simp)]
    exact heap_alloc_new w _
  have HB0 : Hid (Below w.heap.size w ((w.alloc (.cells #[.int .i64 0, .int .i64 0, .int .i64 0] 52)).alloc (.cells #[.int .i64 1, .int .i64 1, .int .i64 0] 52))) := ((Below.refl _ w).alloc (Nat.le_refl _) _).alloc (by simp) _
  go_enter Tryz.func25, Tryz.ntmps25
  go_wp2_with fail
  go_loopw [40] (fun i wr => ∃ k : Nat, k ≤ fs.length ∧ i = .int .i64 k ∧ wr.heap[w.heap.size + 1]? = some (.cells #[.int .i64 ((1 + (ns.take k).sum : Nat) : Int), .int .i64 ((1 + maxOf (ds.take k) : Nat) : Int), .int .i64 (((bs.take k).sum : Nat) : Int)] 52 (0, 0)) ∧ wr.heap[w.heap.size]? = some (.cells #[.int .i64 0, .int .i64 0, .int .i64 0] 52 (0, 0)) ∧ Below w.heap.size w wr) (fun i _ => fs.length - (intOf i).toNat)
  case atStart => exact ⟨0, Nat.zero_le _, rfl, HZ0.out, HZr.out, HB0.out⟩
  case round =>
    obtain ⟨k, hk, rfl, hz, hrb, hbel⟩ := hrel
    have HZ : Hid (wr.heap[w.heap.size + 1]? = some (.cells #[.int .i64 ((1 + (ns.take k).sum : Nat) : Int), .int .i64 ((1 + maxOf (ds.take k) : Nat) : Int), .int .i64 (((bs.take k).sum : Nat) : Int)] 52 (0, 0))) := hz
    have HRb : Hid (wr.heap[w.heap.size]? = some (.cells #[.int .i64 0, .int .i64 0, .int .i64 0] 52 (0, 0))) := hrb
    have HB : Hid (Below w.heap.size w wr) := hbel
    have hle := HLe.out k
    have hzw := lt_of_block hz
    clear hz hrb hbel
    by_cases hlt : k < fs.length
    · have hpe := HPp.out k hlt
      subst hpe
      obtain ⟨u, hcn, hcu, hst⟩ := HEl.out wr HB.out k hlt
      obtain ⟨T, y, rfl⟩ := st_iface hst
      have hle2 := HLe.out (k + 1)
      have htk := HTk.out k hlt
      have hnk : nodes n fs[k].2 ≤ 100000 := by omega
      have hdk : depth n fs[k].2 ≤ 100000 := by omega
      have hbk : lens n fs[k].2 ≤ 100000000 := by omega
      have hnl2 : fs[k].1.length ≤ 100000000 := by omega
      have HTK : Hid ((ns.take (k + 1)).sum = (ns.take k).sum + nodes n fs[k].2 ∧ maxOf (ds.take (k + 1)) = max (maxOf (ds.take k)) (depth n fs[k].2) ∧ (bs.take (k + 1)).sum = (bs.take k).sum + (fs[k].1.length + lens n fs[k].2)) := htk
      have HSt : Hid (St (fun c => w.heap.size ≤ c) wr n fs[k].2 (.iface T y)) := hst
      clear hst htk
      have hnm : (⟨fs[k].1.toArray⟩ : ByteArray).size = fs[k].1.length := by simp [ByteArray.size]
      generalize (⟨fs[k].1.toArray⟩ : ByteArray) = nm at *
      generalize fs[k].1.length = nl at *
      generalize fs[k].2 = el at *
      have hsw := HB.out.size
      have z2A : wr.cell? ⟨w.heap.size + 1, 2, none⟩ = some (.int .i64 (((bs.take k).sum : Nat) : Int)) := by rw [cell_of_row _ _ _ _ _ _ HZ.out]; rfl
      have f2A : wr.frozen? ⟨w.heap.size + 1, 2, none⟩ = false := frozen_of_row _ _ _ _ _ HZ.out
      have hbk2 : (bs.take k).sum ≤ 100000000 := by omega
      go_wp2_with fail
      have HZb := heap_setCell_same wr (w.heap.size + 1) 2 _ _ (.int .i64 (((bs.take k).sum : Int) + (nl : Int))) HZ.out
      have gS := grownBy_setCell wr (w.heap.size + 1) 2 (.int .i64 (((bs.take k).sum : Int) + (nl : Int)))
      have HZb := (Below.heap_alloc (wr.setCell ⟨w.heap.size + 1, 2, none⟩ (.int .i64 (((bs.take k).sum : Int) + (nl : Int)))) (.cells #[.string nm, .iface T y] 83) _ (by rw [heap_setCell_size]; exact hzw)).trans HZb
      have HStB := (HSt.out.grown gS (fun k e => by cases e; omega)).grown (World.grownBy_alloc _ (.cells #[.string nm, .iface T y] 83) none) (fun k e => by cases e)
      have HRB := (Below.heap_alloc (wr.setCell ⟨w.heap.size + 1, 2, none⟩ (.int .i64 (((bs.take k).sum : Int) + (nl : Int)))) (.cells #[.string nm, .iface T y] 83) w.heap.size (by rw [heap_setCell_size]; omega)).trans ((gS.block _ (lt_of_block HRb.out) (fun e => by have := Option.some.inj e; omega)).trans HRb.out)
      have HBB := (HB.out.grown gS HB.out.size (fun k e => by cases e; omega)).alloc (by rw [heap_setCell_size]; exact hsw) (.cells #[.string nm, .iface T y] 83)
      generalize (wr.setCell ⟨w.heap.size + 1, 2, none⟩ (.int .i64 (((bs.take k).sum : Int) + (nl : Int)))).alloc (.cells #[.string nm, .iface T y] 83) = wa at *
      have HZA : Hid (wa.heap[w.heap.size + 1]? = some (.cells #[.int .i64 ((1 + (ns.take k).sum : Nat) : Int), .int .i64 ((1 + maxOf (ds.take k) : Nat) : Int), .int .i64 (((bs.take k).sum + nl : Nat) : Int)] 52 (0, 0))) := by
        show wa.heap[w.heap.size + 1]? = _
        have e9 : (((bs.take k).sum + nl : Nat) : Int) = ((bs.take k).sum : Int) + (nl : Int) := by omega
        rw [e9]
        exact HZb
      have HRA : Hid (wa.heap[w.heap.size]? = some (.cells #[.int .i64 0, .int .i64 0, .int .i64 0] 52 (0, 0))) := HRB
      have HBA : Hid (Below w.heap.size w wa) := HBB
      have HStA : Hid (St (fun c => w.heap.size ≤ c) wa n el (.iface T y)) := HStB
      clear HZb HRB HBB HStB gS z2A f2A
      refine (HM.out _ el (.iface T y) wa HStA.out hnk hdk hbk).mono ?_
      rintro e w1 ⟨rfl, b1⟩
      have hz1 : w1.heap[w.heap.size + 1]? = some (.cells #[.int .i64 ((1 + (ns.take k).sum : Nat) : Int), .int .i64 ((1 + maxOf (ds.take k) : Nat) : Int), .int .i64 (((bs.take k).sum + nl : Nat) : Int)] 52 (0, 0)) := (b1.block _ (lt_of_block HZA.out)).trans HZA.out
      have HZ1 : Hid (w1.heap[w.heap.size + 1]? = some (.cells #[.int .i64 ((1 + (ns.take k).sum : Nat) : Int), .int .i64 ((1 + maxOf (ds.take k) : Nat) : Int), .int .i64 (((bs.take k).sum + nl : Nat) : Int)] 52 (0, 0))) := hz1
      have HR1 : Hid (w1.heap[w.heap.size]? = some (.cells #[.int .i64 0, .int .i64 0, .int .i64 0] 52 (0, 0))) := (b1.block _ (lt_of_block HRA.out)).trans HRA.out
      have HB1 : Hid (Below w.heap.size w w1) := HBA.out.trans (b1.mono HBA.out.size)
      clear b1 hz1
      go_wp2_with fail
      refine (hold_any (w.heap.size + 1) (1 + (ns.take k).sum) (1 + maxOf (ds.take k)) ((bs.take k).sum + nl) (nodes n el) (depth n el) (lens n el) w1 HZ1.out (by omega) (by omega) (by omega) (by omega) (by omega) (by omega)).mono ?_
      rintro e w2 ⟨rfl, g2, z2⟩
      have HZ2 : Hid (w2.heap[w.heap.size + 1]? = some (.cells #[.int .i64 ((1 + (ns.take (k + 1)).sum : Nat) : Int), .int .i64 ((1 + maxOf (ds.take (k + 1)) : Nat) : Int), .int .i64 (((bs.take (k + 1)).sum : Nat) : Int)] 52 (0, 0))) := by
        show w2.heap[w.heap.size + 1]? = _
        have e1 : 1 + (ns.take (k + 1)).sum = 1 + (ns.take k).sum + nodes n el := by rw [HTK.out.1]; omega
        have e2 : 1 + maxOf (ds.take (k + 1)) = max (1 + maxOf (ds.take k)) (depth n el + 1) := by rw [HTK.out.2.1]; omega
        have e3 : (bs.take (k + 1)).sum = (bs.take k).sum + nl + lens n el := by rw [HTK.out.2.2]; omega
        rw [e1, e2, e3]
        exact z2
      have HR2 : Hid (w2.heap[w.heap.size]? = some (.cells #[.int .i64 0, .int .i64 0, .int .i64 0] 52 (0, 0))) := (g2.block _ (lt_of_block HR1.out) (fun e => by simp at e)).trans HR1.out
      have HB2 : Hid (Below w.heap.size w w2) := HB1.out.grown g2 HB1.out.size (fun k e => by cases e; omega)
      clear g2 z2
      go_wp2_with fail
      go_roundw
      case rel => exact ⟨k + 1, by omega, by go_num, HZ2.out, HR2.out, HB2.out⟩
      case measure => simp [intOf]; omega
    · have hall := HAll.out k (by omega)
      have HA : Hid ((ns.take k).sum = ns.sum ∧ maxOf (ds.take k) = maxOf ds ∧ (bs.take k).sum = bs.sum) := hall
      have hz : wr.heap[w.heap.size + 1]? = some (.cells #[.int .i64 ((1 + ns.sum : Nat) : Int), .int .i64 ((1 + maxOf ds : Nat) : Int), .int .i64 ((bs.sum : Nat) : Int)] 52 (0, 0)) := by
        have := HZ.out
        rw [hall.1, hall.2.1, hall.2.2] at this
        exact this
      have z0 : wr.cell? ⟨w.heap.size + 1, 0, none⟩ = some (.int .i64 ((1 + ns.sum : Nat) : Int)) := by rw [cell_of_row _ _ _ _ _ _ hz]; rfl
      have z1 : wr.cell? ⟨w.heap.size + 1, 1, none⟩ = some (.int .i64 ((1 + maxOf ds : Nat) : Int)) := by rw [cell_of_row _ _ _ _ _ _ hz]; rfl
      have z2 : wr.cell? ⟨w.heap.size + 1, 2, none⟩ = some (.int .i64 ((bs.sum : Nat) : Int)) := by rw [cell_of_row _ _ _ _ _ _ hz]; rfl
      have r0 : wr.cell? ⟨w.heap.size, 0, none⟩ = some (.int .i64 0) := by rw [cell_of_row _ _ _ _ _ _ HRb.out]; rfl
      have r1 : wr.cell? ⟨w.heap.size, 1, none⟩ = some (.int .i64 0) := by rw [cell_of_row _ _ _ _ _ _ HRb.out]; rfl
      have r2 : wr.cell? ⟨w.heap.size, 2, none⟩ = some (.int .i64 0) := by rw [cell_of_row _ _ _ _ _ _ HRb.out]; rfl
      have f0 : wr.frozen? ⟨w.heap.size, 0, none⟩ = false := frozen_of_row _ _ _ _ _ HRb.out
      have f1 : wr.frozen? ⟨w.heap.size, 1, none⟩ = false := frozen_of_row _ _ _ _ _ HRb.out
      have f2 : wr.frozen? ⟨w.heap.size, 2, none⟩ = false := frozen_of_row _ _ _ _ _ HRb.out
      clear hall hz
      obtain ⟨A, hA⟩ : ∃ A : Int, A = ((1 + ns.sum : Nat) : Int) := ⟨_, rfl⟩
      obtain ⟨B, hB⟩ : ∃ B : Int, B = ((1 + maxOf ds : Nat) : Int) := ⟨_, rfl⟩
      obtain ⟨C, hC⟩ : ∃ C : Int, C = ((bs.sum : Nat) : Int) := ⟨_, rfl⟩
      rw [← hA] at z0
      rw [← hB] at z1
      rw [← hC] at z2
      have HAB : Hid (A = ((1 + ns.sum : Nat) : Int) ∧ B = ((1 + maxOf ds : Nat) : Int) ∧ C = ((bs.sum : Nat) : Int)) := ⟨hA, hB, hC⟩
      clear hA hB hC
      go_wp2_with fail
      exact bodyPost_ret (v := .agg #[.int .i64 A, .int .i64 B, .int .i64 C]) (by simp [results, Tryz.results25, go_sem, r0, r1, r2]) rfl ⟨by rw [HAB.out.1, HAB.out.2.1, HAB.out.2.2], ((HB.out.setCell (Nat.le_refl _) _).setCell (Nat.le_refl _) _).setCell (Nat.le_refl _) _⟩
theorem measure_ok : ∀ n, MeasureOK n
  | 0 => fun av j x w hSt hN hD hL => by
    have e : x = leafV j := hSt
    subst e
    exact measure_leaf j w
  | n + 1 => fun av j x w hSt hN hD hL => by
    have hM := measure_ok n
    match j, hSt, hN, hD, hL with
    | Sum.inl l, hSt, hN, hD, hL =>
      have e : x = leafV l := hSt
      subst e
      exact measure_leaf l w
    | Sum.inr (Sum.inl xs), hSt, hN, hD, hL => exact measure_list n hM av xs x w hSt hN hD hL
    | Sum.inr (Sum.inr fs), hSt, hN, hD, hL => exact measure_object n hM av fs x w hSt hN hD hL
end Go.Proofs.YtaogilpkeeigoabGreatDoor
