/- Several texts in one: KindAny, PtrCut, PtrChangeC, PtrCutTop, PtrCutPlain, PtrCutsPlain, AtSize, PtrCutsWalk. -/
import Derived.Test.YtaogilpkeeigoabGreatDoorTop
import Derived.Test.YtaogilpkeeigoabGreatDoorPtrPut
import Derived.Test.YtaogilpkeeigoabGreatDoorMG
import Derived.Lib.LastIndexByte
/- Contracts over this translation of json.Kind at every text, and of the reference's Rest. -/
namespace Go.Proofs.YtaogilpkeeigoabGreatDoor
open Go.RowKit
set_option linter.unusedVariables false
set_option linter.unusedSimpArgs false
set_option maxRecDepth 100000 in
set_option maxHeartbeats 1000000 in
theorem kindOf_leaf (l : Leaf) (w : World) :
    Calls Tryz.prog 24 #[leafV l] w fun e w' => e = .returned (.int .i64 (kindLeaf l)) ∧ w' = w := by
  match l with
  | none =>
    obtain ⟨a1, a2, a3, a4, a5, a6⟩ := tas_Null
    unfold leafV
    go_enter Tryz.func24, Tryz.ntmps24
    go_wp2_with fail
    go_ret
    exact ⟨rfl, rfl⟩
  | some (Sum.inl b) =>
    obtain ⟨a1, a2, a3, a4, a5, a6⟩ := tas_Bool
    unfold leafV
    go_enter Tryz.func24, Tryz.ntmps24
    go_wp2_with fail
    go_ret
    exact ⟨rfl, rfl⟩
  | some (Sum.inr (Sum.inl i)) =>
    obtain ⟨a1, a2, a3, a4, a5, a6⟩ := tas_Number
    unfold leafV
    go_enter Tryz.func24, Tryz.ntmps24
    go_wp2_with fail
    go_ret
    exact ⟨rfl, rfl⟩
  | some (Sum.inr (Sum.inr s)) =>
    obtain ⟨a1, a2, a3, a4, a5, a6⟩ := tas_Text
    unfold leafV
    go_enter Tryz.func24, Tryz.ntmps24
    go_wp2_with fail
    go_ret
    exact ⟨rfl, rfl⟩
set_option maxRecDepth 100000 in
set_option maxHeartbeats 1000000 in
theorem kindOf_list (x : Value) (w : World) :
    Calls Tryz.prog 24 #[.iface 78 x] w fun e w' => e = .returned (.int .i64 5) ∧ w' = w := by
  obtain ⟨a1, a2, a3, a4, a5, a6⟩ := tas_List
  go_enter Tryz.func24, Tryz.ntmps24
  go_wp2_with fail
  go_ret
  exact ⟨rfl, rfl⟩
set_option maxRecDepth 100000 in
set_option maxHeartbeats 1000000 in
theorem kindOf_object (x : Value) (w : World) :
    Calls Tryz.prog 24 #[.iface 80 x] w fun e w' => e = .returned (.int .i64 6) ∧ w' = w := by
  obtain ⟨a1, a2, a3, a4, a5, a6⟩ := tas_Object
  go_enter Tryz.func24, Tryz.ntmps24
  go_wp2_with fail
  go_ret
  exact ⟨rfl, rfl⟩
theorem kindOf_any : ∀ (n : Nat) (av : Nat → Prop) (j : J n) (x : Value) (w : World), St av w n j x → Calls Tryz.prog 24 #[x] w fun e w' => e = .returned (.int .i64 (kindJ n j)) ∧ w' = w
  | 0, av, j, x, w, h => by
    have e : x = leafV j := h
    subst e
    exact kindOf_leaf j w
  | n + 1, av, Sum.inl l, x, w, h => by
    have e : x = leafV l := h
    subst e
    exact kindOf_leaf l w
  | n + 1, av, Sum.inr (Sum.inl xs), x, w, h => by
    obtain ⟨p, g, cap, vs, rfl, _⟩ := h.list
    exact kindOf_list _ w
  | n + 1, av, Sum.inr (Sum.inr fs), x, w, h => by
    obtain ⟨p, g, cap, vs, rfl, _⟩ := h.obj
    exact kindOf_object _ w
def kindE (s : Bs) : Array Value :=
  match read s with
  | .error e => #[.int .i64 0, .int .i64 e]
  | .ok j => #[.int .i64 (kindJ 10 j), .int .i64 0]
set_option maxRecDepth 100000 in
set_option maxHeartbeats 2000000 in
theorem kind_any (t : ByteArray) (w : World) (hs : t.size ≤ maxLen) :
    Calls Tryz.prog 9 #[.string t] w fun e w' => e = .returned (.tuple (kindE t.data.toList)) ∧ Below w.heap.size w w' := by
  go_enter Tryz.func9, Tryz.ntmps9
  go_wp2_with fail
  refine (read_any t _ hs).mono ?_
  rintro e w1 ⟨b1, h1⟩
  have HB1 : Hid (Below w.heap.size w w1) := b1
  clear b1
  rcases h1 with ⟨er, hr, her, her2, rfl⟩ | ⟨j, v, hr, rfl, hone, hst⟩
  · have HE : Hid (kindE t.data.toList = #[.int .i64 0, .int .i64 er]) := by
      show kindE t.data.toList = _
      rw [kindE, hr]
    have hbe : ((er : Int) != 0) = true := by rw [bne_iff_ne]; omega
    clear hr
    go_wp2_with fail
    go_ret2
    exact ⟨by rw [HE.out]; rfl, HB1.out⟩
  · have HE : Hid (kindE t.data.toList = #[.int .i64 (kindJ 10 j), .int .i64 0]) := by
      show kindE t.data.toList = _
      rw [kindE, hr]
    have hx := kindOf_any 10 _ j v w1 hst
    have HX : Hid (Calls Tryz.prog 24 #[v] w1 fun e w' => e = .returned (.int .i64 (kindJ 10 j)) ∧ w' = w1) := hx
    clear hr hst hx
    go_wp2_with fail
    refine Calls.mono HX.out ?_
    rintro e w2 ⟨rfl, rfl⟩
    go_wp2_with fail
    go_ret2
    exact ⟨by rw [HE.out]; rfl, HB1.out⟩
end Go.Proofs.YtaogilpkeeigoabGreatDoor
/- Contracts over this translation: what is cut out where a step leads. -/
namespace Go.Proofs.YtaogilpkeeigoabGreatDoor
open Go.RowKit
set_option linter.unusedVariables false
set_option linter.unusedSimpArgs false
theorem heap_one (w : World) (a : Obj) : (w.alloc a).drew.heap[w.heap.size]? = some a ∧ Below w.heap.size w (w.alloc a).drew :=
  ⟨heap_alloc_new w a, ((Below.refl _ w).alloc (Nat.le_refl _) a).drew⟩
theorem concat2L (B : Nat) (w0 w : World) (p q : Value) (a b : Nat) (x y : List Value) (gg : Nat) (h0 : w0.heap.size = B) (hb : Below B w0 w) (hg : w.heap[gg]? = some (.cells #[p, q] 78 (0, 0))) (hp : PartL w p a x) (hq : PartL w q b y) (hm : a + b ≤ 100000) :
    Calls Tryz.prog 57 #[.slice (some ⟨gg, 0, none⟩) 2 2] w fun e w' => ∃ v, e = .returned v ∧ Hid (w'.ownsRow B 40 1 v (a + b) (x ++ y)) ∧ Hid (Below B w0 w') := by
  have hs := hb.size
  rw [h0] at hs
  refine (concatL_any [(p, a, x), (q, b, y)] gg 2 w (by simp) (by simp) (by unfold maxLen; decide) (lt_of_block hg) (fun j t hj => ?_) (fun t ht => ?_) (by simp [manyL]; omega)).mono ?_
  · rw [cell_of_row _ _ _ _ _ _ hg]
    match j, hj with
    | 0, hj => simp at hj; subst hj; rfl
    | 1, hj => simp at hj; subst hj; rfl
    | j + 2, hj => simp at hj
  · simp at ht
    rcases ht with rfl | rfl
    · exact hp
    · exact hq
  · rintro e w1 ⟨v, rfl, hown, b1⟩
    refine ⟨v, rfl, ?_, hb.trans (b1.mono hs)⟩
    have h2 : manyL [(p, a, x), (q, b, y)] = a + b := by simp [manyL]
    have h3 : allL [(p, a, x), (q, b, y)] = x ++ y := by simp [allL]
    rw [h2, h3] at hown
    exact own_base hown hs
theorem concat2O (B : Nat) (w0 w : World) (p q : Value) (a b : Nat) (x y : List Value) (gg : Nat) (h0 : w0.heap.size = B) (hb : Below B w0 w) (hg : w.heap[gg]? = some (.cells #[p, q] 80 (0, 0))) (hp : PartO w p a x) (hq : PartO w q b y) (hm : a + b ≤ 100000) :
    Calls Tryz.prog 55 #[.slice (some ⟨gg, 0, none⟩) 2 2] w fun e w' => ∃ v, e = .returned v ∧ Hid (w'.ownsRow B 83 2 v (a + b) (x ++ y)) ∧ Hid (Below B w0 w') := by
  have hs := hb.size
  rw [h0] at hs
  refine (concatO_any [(p, a, x), (q, b, y)] gg 2 w (by simp) (by simp) (by unfold maxLen; decide) (lt_of_block hg) (fun j t hj => ?_) (fun t ht => ?_) (by simp [manyO]; omega)).mono ?_
  · rw [cell_of_row _ _ _ _ _ _ hg]
    match j, hj with
    | 0, hj => simp at hj; subst hj; rfl
    | 1, hj => simp at hj; subst hj; rfl
    | j + 2, hj => simp at hj
  · simp at ht
    rcases ht with rfl | rfl
    · exact hp
    · exact hq
  · rintro e w1 ⟨v, rfl, hown, b1⟩
    refine ⟨v, rfl, ?_, hb.trans (b1.mono hs)⟩
    have h2 : manyO [(p, a, x), (q, b, y)] = a + b := by simp [manyO]
    have h3 : allO [(p, a, x), (q, b, y)] = x ++ y := by simp [allO]
    rw [h2, h3] at hown
    exact own_base hown hs
theorem cutCallL {n : Nat} (xs : List (J n)) (g cap k bh d : Nat) (us : List Value) (w w1 : World) (hb : Below w.heap.size w w1) (hg : g < w.heap.size) (hlc : xs.length ≤ cap) (hI : Items w xs us) (hcell : ∀ (i : Nat) (u : Value), us[i]? = some u → w.cell? ⟨g, i, none⟩ = some u) (hl : xs.length ≤ 2000) (hk : k ≤ xs.length) (hbh : bh ≤ xs.length) (hd' : d = xs.length - bh) (A : Addr) (hA : (if cap = bh then some (⟨g, 0, none⟩ : Addr) else some ⟨g, bh, none⟩) = some A) :
    Calls Tryz.prog 57 #[.slice (some ⟨w1.heap.size, 0, none⟩) 2 2] (w1.alloc (.cells #[.slice (some ⟨g, 0, none⟩) k cap, .slice (some A) d (cap - bh)] 78)).drew
      fun e w' => ∃ q m cc, e = .returned (.slice q m cc) ∧ Hid (S0 w' (n + 1) (Sum.inr (Sum.inl (xs.take k ++ xs.drop bh))) (.iface 78 (.slice q m cc))) ∧ Hid (Below w.heap.size w w') := by
  obtain ⟨e2, e3⟩ := heap_one w1 (.cells #[.slice (some ⟨g, 0, none⟩) k cap, .slice (some A) d (cap - bh)] 78)
  have hbw : Below w.heap.size w _ := hb.trans (e3.mono hb.size)
  generalize (w1.alloc (.cells #[.slice (some ⟨g, 0, none⟩) k cap, .slice (some A) d (cap - bh)] 78)).drew = W at *
  have hgW : g < W.heap.size := by have := hbw.size; omega
  have hcW : ∀ (i : Nat) (u : Value), us[i]? = some u → W.cell? ⟨g, i, none⟩ = some u := fun i u hu => by
    rw [hbw.cell (p := ⟨g, i, none⟩) hg]
    exact hcell i u hu
  refine (concat2L w.heap.size w W _ _ k d (us.take k) (us.drop bh) w1.heap.size rfl hbw e2 (part_takeL hgW hI.1 hI.2.1 hcW hk) (part_behindL hgW hI.1 hI.2.1 hcW hbh hlc hd' hA) (by omega)).mono ?_
  rintro e w2 ⟨v, rfl, hown, hb2⟩
  obtain ⟨q, m, cc, rfl⟩ := own_shape hown.out
  refine ⟨q, m, cc, rfl, ?_, hb2⟩
  have hI2 : Items w2 (xs.take k ++ xs.drop bh) (us.take k ++ us.drop bh) := ((hI.take k).append (hI.drop bh)).below hb2.out
  exact st_of_ownsL hown.out (by simp; omega) hI2
theorem cutCallO {n : Nat} (fs : List (Bs × J n)) (g cap k bh d : Nat) (us : List Value) (w w1 : World) (hb : Below w.heap.size w w1) (hg : g < w.heap.size) (hlc : fs.length ≤ cap) (hI : FItems w fs us) (hF : Fields w g fs us) (hl : fs.length ≤ 2000) (hk : k ≤ fs.length) (hbh : bh ≤ fs.length) (hd' : d = fs.length - bh) (A : Addr) (hA : (if cap = bh then some (⟨g, 0, none⟩ : Addr) else some ⟨g, bh * 2, none⟩) = some A) :
    Calls Tryz.prog 55 #[.slice (some ⟨w1.heap.size, 0, none⟩) 2 2] (w1.alloc (.cells #[.slice (some ⟨g, 0, none⟩) k cap, .slice (some A) d (cap - bh)] 80)).drew
      fun e w' => ∃ q m cc, e = .returned (.slice q m cc) ∧ Hid (S0 w' (n + 1) (Sum.inr (Sum.inr (fs.take k ++ fs.drop bh))) (.iface 80 (.slice q m cc))) ∧ Hid (Below w.heap.size w w') := by
  obtain ⟨e2, e3⟩ := heap_one w1 (.cells #[.slice (some ⟨g, 0, none⟩) k cap, .slice (some A) d (cap - bh)] 80)
  have hbw : Below w.heap.size w _ := hb.trans (e3.mono hb.size)
  generalize (w1.alloc (.cells #[.slice (some ⟨g, 0, none⟩) k cap, .slice (some A) d (cap - bh)] 80)).drew = W at *
  have hgW : g < W.heap.size := by have := hbw.size; omega
  refine (concat2O w.heap.size w W _ _ k d (cellsF (fs.take k) (us.take k)) (cellsF (fs.drop bh) (us.drop bh)) w1.heap.size rfl hbw e2 (part_takeO hgW (hI.below hbw) (hF.below hbw hg) hk) (part_behindO hgW (hI.below hbw) (hF.below hbw hg) hbh hlc hd' hA) (by omega)).mono ?_
  rintro e w2 ⟨v, rfl, hown, hb2⟩
  obtain ⟨q, m, cc, rfl⟩ := own_shape hown.out
  refine ⟨q, m, cc, rfl, ?_, hb2⟩
  have hI2 : FItems w2 (fs.take k ++ fs.drop bh) (us.take k ++ us.drop bh) := ((hI.take k).append (hI.drop bh)).below hb2.out
  have hown' := hown.out
  rw [← cellsF_append _ _ _ _ (hI.take k).1] at hown'
  exact st_of_ownsO hown' (by simp; omega) hI2
set_option maxRecDepth 100000 in
set_option maxHeartbeats 1000000 in
theorem cut_leaf (l : Leaf) (s : ByteArray) (w : World) : Calls Tryz.prog 37 #[leafV l, .string s] w fun e w' => e = .returned (.tuple #[.nilIface, .int .i64 7]) ∧ Below w.heap.size w w' := by
  match l with
  | none =>
    obtain ⟨a1, a2, a3, a4, a5, a6⟩ := tas_Null
    unfold leafV
    go_enter Tryz.func37, Tryz.ntmps37
    go_wp2_with fail
    go_ret2
    exact ⟨rfl, Below.refl _ _⟩
  | some (Sum.inl b) =>
    obtain ⟨a1, a2, a3, a4, a5, a6⟩ := tas_Bool
    unfold leafV
    go_enter Tryz.func37, Tryz.ntmps37
    go_wp2_with fail
    go_ret2
    exact ⟨rfl, Below.refl _ _⟩
  | some (Sum.inr (Sum.inl i)) =>
    obtain ⟨a1, a2, a3, a4, a5, a6⟩ := tas_Number
    unfold leafV
    go_enter Tryz.func37, Tryz.ntmps37
    go_wp2_with fail
    go_ret2
    exact ⟨rfl, Below.refl _ _⟩
  | some (Sum.inr (Sum.inr t)) =>
    obtain ⟨a1, a2, a3, a4, a5, a6⟩ := tas_Text
    unfold leafV
    go_enter Tryz.func37, Tryz.ntmps37
    go_wp2_with fail
    go_ret2
    exact ⟨rfl, Below.refl _ _⟩
set_option maxRecDepth 100000 in
set_option maxHeartbeats 4000000 in
theorem cut_itemAt {n : Nat} (xs : List (J n)) (g cap : Nat) (us : List Value) (s : ByteArray) (w : World) (hg : g < w.heap.size) (hlc : xs.length ≤ cap) (hcm : cap ≤ maxLen) (hI : Items w xs us) (hcell : ∀ (i : Nat) (u : Value), us[i]? = some u → w.cell? ⟨g, i, none⟩ = some u) (hl : xs.length ≤ 2000) (hs : s.size ≤ 8000000) (hE : Env w) (k : Nat) (hpl : placeP s.data.toList = some k) (hk : k < xs.length) :
    Calls Tryz.prog 37 #[.iface 78 (.slice (some ⟨g, 0, none⟩) xs.length cap), .string s] w (MadePost (n + 1) (.ok (Sum.inr (Sum.inl (xs.take k ++ xs.drop (k + 1))))) w) := by
  obtain ⟨a1, a2, a3, a4, a5, a6⟩ := tas_List
  unfold maxLen at hcm
  have HP : Hid (Calls Tryz.prog 56 #[.string s] w fun e w' => e = .returned (.tuple #[.int .i64 (k : Int), .bool true]) ∧ Below w.heap.size w w') := by
    refine (place_any s w hs hE).mono ?_
    rintro e w1 ⟨b1, h1⟩
    rcases h1 with ⟨i, hi, _, rfl⟩ | ⟨m, hm, rfl⟩
    · rw [hpl] at hi
      cases hi
      exact ⟨rfl, b1⟩
    · rw [hpl] at hm
      cases hm
  obtain ⟨A, hA⟩ := named_if (cap = k + 1) ⟨g, 0, none⟩ ⟨g, k + 1, none⟩
  have HC : Hid (∀ w1, Below w.heap.size w w1 → Calls Tryz.prog 57 #[.slice (some ⟨w1.heap.size, 0, none⟩) 2 2] (w1.alloc (.cells #[.slice (some ⟨g, 0, none⟩) k cap, .slice (some A) (xs.length - (k + 1)) (cap - (k + 1))] 78)).drew
      fun e w' => ∃ q m cc, e = .returned (.slice q m cc) ∧ Hid (S0 w' (n + 1) (Sum.inr (Sum.inl (xs.take k ++ xs.drop (k + 1)))) (.iface 78 (.slice q m cc))) ∧ Hid (Below w.heap.size w w')) :=
    fun w1 hb => cutCallL xs g cap k (k + 1) (xs.length - (k + 1)) us w w1 hb hg hlc hI hcell hl (by omega) (by omega) (by omega) A hA
  have hgt : decide ((k : Int) < (xs.length : Int)) = true := decide_eq_true (by omega)
  have hgt2 : (k : Int) < (xs.length : Int) := by omega
  have hw1 : IntKind.i64.wrap (k : Int) = (k : Int) := wrap_nat _ (by omega)
  have hw2 : IntKind.i64.wrap ((k : Int) + 1) = (k : Int) + 1 := by rw [IntKind.wrap_i64]; omega
  have h1 : (k : Int) + 1 ≤ (xs.length : Int) := by omega
  have h2 : (0 : Int) ≤ (k : Int) + 1 := by omega
  have h3 : ((k : Int) + 1).toNat = k + 1 := by omega
  have h4 : (k : Int) ≤ (cap : Int) := by omega
  clear hI hcell hE hpl
  obtain ⟨R, hR⟩ : ∃ R, R = xs.take k ++ xs.drop (k + 1) := ⟨_, rfl⟩
  rw [← hR] at HC ⊢
  clear hR
  generalize xs.length = len at *
  go_enter Tryz.func37, Tryz.ntmps37
  go_wp2_with fail
  refine Calls.mono HP.out ?_
  rintro e w1 ⟨rfl, b1⟩
  have HB : Hid (Below w.heap.size w w1) := b1
  clear b1
  go_wp2_with fail
  go_region_with (go_at_call 57; refine Calls.mono (HC.out w1 HB.out) ?_; rintro e w3 ⟨q, m, cc, rfl, HS, HB3⟩)
  all_goals (go_wp2_with fail; go_ret2)
  all_goals exact ⟨HB3.out, Or.inr ⟨_, _, _, rfl, rfl, HS.out⟩⟩
set_option maxRecDepth 100000 in
set_option maxHeartbeats 4000000 in
theorem cut_itemNone {n : Nat} (xs : List (J n)) (p : Option Addr) (cap : Nat) (s : ByteArray) (w : World) (hs : s.size ≤ 8000000) (hE : Env w) (hpl : ∀ k, placeP s.data.toList = some k → xs.length ≤ k) :
    Calls Tryz.prog 37 #[.iface 78 (.slice p xs.length cap), .string s] w (MadePost (n + 1) (.error 7) w) := by
  obtain ⟨a1, a2, a3, a4, a5, a6⟩ := tas_List
  have HP : Hid (Calls Tryz.prog 56 #[.string s] w fun e w' => ∃ (k : Int) (b : Bool), e = .returned (.tuple #[.int .i64 k, .bool b]) ∧ (b = false ∨ b = true ∧ decide (k < (xs.length : Int)) = false) ∧ Below w.heap.size w w') := by
    refine (place_any s w hs hE).mono ?_
    rintro e w1 ⟨b1, h1⟩
    rcases h1 with ⟨i, hi, _, rfl⟩ | ⟨m, hm, rfl⟩
    · exact ⟨i, true, rfl, Or.inr ⟨rfl, decide_eq_false (by have := hpl i hi; omega)⟩, b1⟩
    · exact ⟨m, false, rfl, Or.inl rfl, b1⟩
  clear hE hpl
  generalize xs.length = len at *
  go_enter Tryz.func37, Tryz.ntmps37
  go_wp2_with fail
  refine Calls.mono HP.out ?_
  rintro e w1 ⟨k, b, rfl, hb, b1⟩
  have HB : Hid (Below w.heap.size w w1) := b1
  clear b1
  rcases hb with rfl | ⟨rfl, hlt⟩
  · go_wp2_with fail
    go_ret2
    exact ⟨HB.out, Or.inl ⟨7, rfl, by decide, by decide, rfl⟩⟩
  · have hlt2 : ¬ k < (len : Int) := of_decide_eq_false hlt
    go_wp2_with fail
    go_ret2
    exact ⟨HB.out, Or.inl ⟨7, rfl, by decide, by decide, rfl⟩⟩
set_option maxRecDepth 100000 in
set_option maxHeartbeats 4000000 in
theorem cut_fieldAt {n : Nat} (fs : List (Bs × J n)) (g cap : Nat) (us : List Value) (s : ByteArray) (w : World) (hg : g < w.heap.size) (hlc : fs.length ≤ cap) (hcm : cap ≤ maxLen) (hI : FItems w fs us) (hF : Fields w g fs us) (hr : Rising fs) (hl : fs.length ≤ 2000) (ha : (fs.any fun f => f.1 == s.data.toList) = true) :
    Calls Tryz.prog 37 #[.iface 80 (.slice (some ⟨g, 0, none⟩) fs.length cap), .string s] w (MadePost (n + 1) (.ok (Sum.inr (Sum.inr (cutAt fs s.data.toList)))) w) := by
  obtain ⟨a1, a2, a3, a4, a5, a6⟩ := tas_Object
  have hFi := find_any g cap fs us s w hF hg hr hl hlc hcm
  rw [ha] at hFi
  obtain ⟨hlt, hfq⟩ := field_idx hr ha
  clear hfq
  have hset : cutAt fs s.data.toList = fs.take (placeOfName fs s.data.toList) ++ fs.drop (placeOfName fs s.data.toList + 1) := rfl
  unfold maxLen at hcm
  obtain ⟨k, hk⟩ : ∃ k, placeOfName fs s.data.toList = k := ⟨_, rfl⟩
  rw [hk] at hFi hset hlt
  obtain ⟨A, hA⟩ := named_if (cap = k + 1) ⟨g, 0, none⟩ ⟨g, (k + 1) * 2, none⟩
  have HC : Hid (∀ w1, Below w.heap.size w w1 → Calls Tryz.prog 55 #[.slice (some ⟨w1.heap.size, 0, none⟩) 2 2] (w1.alloc (.cells #[.slice (some ⟨g, 0, none⟩) k cap, .slice (some A) (fs.length - (k + 1)) (cap - (k + 1))] 80)).drew
      fun e w' => ∃ q m cc, e = .returned (.slice q m cc) ∧ Hid (S0 w' (n + 1) (Sum.inr (Sum.inr (cutAt fs s.data.toList))) (.iface 80 (.slice q m cc))) ∧ Hid (Below w.heap.size w w')) := by
    intro w1 hb
    rw [hset]
    exact cutCallO fs g cap k (k + 1) (fs.length - (k + 1)) us w w1 hb hg hlc hI hF hl (by omega) (by omega) rfl A hA
  have HFi : Hid (Calls Tryz.prog 54 #[.slice (some ⟨g, 0, none⟩) fs.length cap, .string s] w fun e w' => e = .returned (.tuple #[.int .i64 k, .bool true]) ∧ Below w.heap.size w w') := hFi
  have hw1 : IntKind.i64.wrap (k : Int) = (k : Int) := wrap_nat _ (by omega)
  have hw2 : IntKind.i64.wrap ((k : Int) + 1) = (k : Int) + 1 := by rw [IntKind.wrap_i64]; omega
  have h1 : (k : Int) + 1 ≤ (fs.length : Int) := by omega
  have h2 : (0 : Int) ≤ (k : Int) + 1 := by omega
  have h3 : ((k : Int) + 1).toNat = k + 1 := by omega
  have h4 : (k : Int) ≤ (cap : Int) := by omega
  clear hI hF hFi hset hk ha hr
  generalize cutAt fs s.data.toList = R at *
  generalize fs.length = len at *
  go_enter Tryz.func37, Tryz.ntmps37
  go_wp2_with fail
  refine Calls.mono HFi.out ?_
  rintro e w1 ⟨rfl, b1⟩
  have HB : Hid (Below w.heap.size w w1) := b1
  clear b1
  go_wp2_with fail
  go_region_with (go_at_call 55; refine Calls.mono (HC.out w1 HB.out) ?_; rintro e w3 ⟨q, m, cc, rfl, HS, HB3⟩)
  all_goals (go_wp2_with fail; go_ret2)
  all_goals exact ⟨HB3.out, Or.inr ⟨_, _, _, rfl, rfl, HS.out⟩⟩
set_option maxRecDepth 100000 in
set_option maxHeartbeats 4000000 in
theorem cut_fieldNone {n : Nat} (p : Option Addr) (len cap : Nat) (s : ByteArray) (w : World) (hFi : Calls Tryz.prog 54 #[.slice p len cap, .string s] w fun e w' => ∃ k : Nat, e = .returned (.tuple #[.int .i64 k, .bool false]) ∧ Below w.heap.size w w') :
    Calls Tryz.prog 37 #[.iface 80 (.slice p len cap), .string s] w (MadePost (n + 1) (.error 7) w) := by
  obtain ⟨a1, a2, a3, a4, a5, a6⟩ := tas_Object
  have HFi : Hid (Calls Tryz.prog 54 #[.slice p len cap, .string s] w fun e w' => ∃ k : Nat, e = .returned (.tuple #[.int .i64 k, .bool false]) ∧ Below w.heap.size w w') := hFi
  clear hFi
  go_enter Tryz.func37, Tryz.ntmps37
  go_wp2_with fail
  refine Calls.mono HFi.out ?_
  rintro e w1 ⟨k, rfl, b1⟩
  have HB : Hid (Below w.heap.size w w1) := b1
  clear b1
  go_wp2_with fail
  go_ret2
  exact ⟨HB.out, Or.inl ⟨7, rfl, by decide, by decide, rfl⟩⟩
theorem cut_any {n : Nat} (j : J (n + 1)) (v : Value) (s : ByteArray) (w : World) (hSt : S0 w (n + 1) j v) (hr : Rise (n + 1) j) (hn : nodes (n + 1) j ≤ 2000) (hs : s.size ≤ 8000000) (hE : Env w) :
    Calls Tryz.prog 37 #[v, .string s] w (MadePost (n + 1) (cutE j s.data.toList) w) := by
  match j, hSt, hr, hn with
  | Sum.inl l, hSt, hr, hn =>
    have e : v = leafV l := hSt
    subst e
    refine (cut_leaf l s w).mono ?_
    rintro e w1 ⟨rfl, b1⟩
    exact ⟨b1, Or.inl ⟨7, rfl, by decide, by decide, rfl⟩⟩
  | Sum.inr (Sum.inl xs), hSt, hr, hn =>
    have hl : xs.length ≤ 2000 := by have := len_nodes_list xs; omega
    obtain ⟨p, g, cap, us, rfl, hp, hlc, hcm, hI, hcell⟩ := hSt.items
    have hc : cutE (Sum.inr (Sum.inl xs) : J (n + 1)) s.data.toList = match placeP s.data.toList with
      | none => .error eNone
      | some i => if i < xs.length then .ok (Sum.inr (Sum.inl (xs.take i ++ xs.drop (i + 1)))) else .error eNone := rfl
    rw [hc]
    cases hpl : placeP s.data.toList with
    | none => exact cut_itemNone xs p cap s w hs hE (fun k h => by rw [hpl] at h; cases h)
    | some k =>
      simp only []
      by_cases hk : k < xs.length
      · rw [if_pos hk]
        rcases hp with ⟨rfl, rfl, rfl⟩ | ⟨rfl, hg⟩
        · simp at hk
        · exact cut_itemAt xs g cap us s w hg hlc hcm hI hcell hl hs hE k hpl hk
      · rw [if_neg hk]
        exact cut_itemNone xs p cap s w hs hE (fun k' h => by rw [hpl] at h; cases h; omega)
  | Sum.inr (Sum.inr fs), hSt, hr, hn =>
    have hl : fs.length ≤ 2000 := by have := len_nodes_obj fs; omega
    obtain ⟨p, g, cap, us, rfl, hp, hlc, hcm, hI, hF⟩ := hSt.fitems
    have hc : cutE (Sum.inr (Sum.inr fs) : J (n + 1)) s.data.toList = if fs.any (fun f => f.1 == s.data.toList) then .ok (Sum.inr (Sum.inr (cutAt fs s.data.toList))) else .error eNone := rfl
    rw [hc]
    cases ha : (fs.any fun f => f.1 == s.data.toList) with
    | true =>
      rw [if_pos rfl]
      rcases hp with ⟨rfl, rfl, rfl⟩ | ⟨rfl, hg⟩
      · simp at ha
      · exact cut_fieldAt fs g cap us s w hg hlc hcm hI hF hr.1 hl ha
    | false =>
      rw [if_neg (by decide)]
      refine cut_fieldNone p _ cap s w ?_
      rcases hp with ⟨rfl, rfl, rfl⟩ | ⟨rfl, hg⟩
      · refine (find_nil s w).mono ?_
        rintro e w1 ⟨rfl, b1⟩
        exact ⟨0, rfl, b1⟩
      · refine (find_any g cap fs us s w hF hg hr.1 hl hlc hcm).mono ?_
        rintro e w1 ⟨rfl, b1⟩
        exact ⟨_, by rw [ha], b1⟩
end Go.Proofs.YtaogilpkeeigoabGreatDoor
/- Contracts over this translation: what is made of a value by what is done at the end of a way (cutting). -/
namespace Go.Proofs.YtaogilpkeeigoabGreatDoor
open Go.RowKit
set_option linter.unusedVariables false
set_option linter.unusedSimpArgs false
/-- what the function that is handed down does -/
def EndOKC (c0 : Nat) (en : (m : Nat) → J m → Except Nat (J m)) (w0 : World) : Prop :=
  ∀ (w : World), Below w0.heap.size w0 w → ∀ (m : Nat) (j : J m) (T : TypeId) (x : Value), 11 ≤ m → S0 w m j (.iface T x) → Rise m j → nodes m j ≤ 2000 →
    Calls Tryz.prog 36 #[.iface T x, .pointer (some ⟨c0, 0, none⟩)] w (MadePost m (en m j) w)
theorem EndOKC.below {c0 : Nat} {en : (m : Nat) → J m → Except Nat (J m)} {w0 w1 : World} (h : EndOKC c0 en w0) (hb : Below w0.heap.size w0 w1) : EndOKC c0 en w1 :=
  fun w hw => h w (hb.trans (hw.mono hb.size))
set_option maxRecDepth 100000 in
set_option maxHeartbeats 2000000 in
theorem changeC_nil (c0 : Nat) (en : (m : Nat) → J m → Except Nat (J m)) (n : Nat) (j : J n) (T : TypeId) (x : Value) (q : Option Addr) (cap : Nat) (w : World) (hn : 11 ≤ n) (hSt : S0 w n j (.iface T x)) (hr : Rise n j) (hnd : nodes n j ≤ 2000) (he : EndOKC c0 en w) :
    Calls Tryz.prog 35 #[.iface T x, .slice q 0 cap, .func (.func 36) #[] #[.pointer (some ⟨c0, 0, none⟩)]] w (MadePost n (en n j) w) := by
  have HC : Hid (Calls Tryz.prog 36 #[.iface T x, .pointer (some ⟨c0, 0, none⟩)] w (MadePost n (en n j) w)) := he w (Below.refl _ _) n j T x hn hSt hr hnd
  clear he hSt hr hnd
  generalize en n j = r at *
  go_enter Tryz.func35, Tryz.ntmps35
  go_wp2_with fail
  refine Calls.mono HC.out ?_
  rintro e w1 ⟨b1, h1⟩
  have HB : Hid (Below w.heap.size w w1) := b1
  clear b1
  rcases h1 with ⟨er, h1, h2, h3, rfl⟩ | ⟨j', T', x', h1, rfl, h2⟩
  · have HR : Hid (r = .error er) := h1
    clear h1
    go_wp2_with fail
    go_ret2
    exact ⟨HB.out, Or.inl ⟨er, HR.out, h2, h3, rfl⟩⟩
  · have HR : Hid (r = .ok j') := h1
    have HS : Hid (S0 w1 n j' (.iface T' x')) := h2
    clear h1 h2
    go_wp2_with fail
    go_ret2
    exact ⟨HB.out, Or.inr ⟨_, _, _, HR.out, rfl, HS.out⟩⟩
set_option maxRecDepth 100000 in
set_option maxHeartbeats 4000000 in
theorem changeC_ok (c0 : Nat) (en : (m : Nat) → J m → Except Nat (J m)) : ∀ (L : List Bs) (n : Nat) (j : J n) (T : TypeId) (x : Value) (vl : Value) (w : World), 11 + L.length ≤ n → S0 w n j (.iface T x) → Rise n j → nodes n j ≤ 2000 → Strs w vl L → (∀ s ∈ L, s.length ≤ 8000000) → Env w → EndOKC c0 en w →
    Calls Tryz.prog 35 #[.iface T x, vl, .func (.func 36) #[] #[.pointer (some ⟨c0, 0, none⟩)]] w (MadePost n (changeP n j L en) w)
  | [], n, j, T, x, vl, w, hn, hSt, hr, hnd, hL, hsz, hE, he => by
    have hc : changeP n j [] en = en n j := by cases n <;> rfl
    rw [hc]
    have hq : ∃ q cap, vl = .slice q 0 cap := by
      rcases hL with ⟨_, q, c, h⟩ | ⟨g, o, cap, h, _⟩
      · exact ⟨q, c, h⟩
      · exact ⟨_, _, h⟩
    obtain ⟨q, cap, rfl⟩ := hq
    exact changeC_nil c0 en n j T x q cap w (by simpa using hn) hSt hr hnd he
  | s :: L, 0, j, T, x, vl, w, hn, hSt, hr, hnd, hL, hsz, hE, he => by simp at hn
  | s :: L, n + 1, j, T, x, vl, w, hn, hSt, hr, hnd, hL, hsz, hE, he => by
    have IH := changeC_ok c0 en L n
    have hq : ∃ g o cap, vl = .slice (some ⟨g, o, none⟩) (s :: L).length cap ∧ (s :: L).length ≤ cap ∧ cap ≤ maxLen ∧ g < w.heap.size ∧ w.cell? ⟨g, o, none⟩ = some (.string ⟨s.toArray⟩) := by
      rcases hL with ⟨h, _⟩ | ⟨g, o, cap, h, h1, h2, h3, h4⟩
      · cases h
      · exact ⟨g, o, cap, h, h1, h2, h3, by have := h4 0 s rfl; exact this⟩
    obtain ⟨g, o, cap, rfl, hlc, hcm, hg, hc0⟩ := hq
    obtain ⟨A, hA⟩ := named_if (cap = 1) ⟨g, o, none⟩ ⟨g, o + 1, none⟩
    have hLt := strs_tail hL hA
    have hzs : (⟨s.toArray⟩ : ByteArray).size ≤ 8000000 := by rw [size_of]; exact hsz s (by simp)
    have hsd : (⟨s.toArray⟩ : ByteArray).data.toList = s := by simp
    have hln : (s :: L).length = L.length + 1 := rfl
    have hL10 : L.length ≤ 10000 ∨ 10000 < L.length := by omega
    have HLead : Hid (Calls Tryz.prog 39 #[.iface T x, .string ⟨s.toArray⟩] w (LeadPost (fun _ => False) (childP j s) w)) := by
      have h := lead_any (fun _ => False) j (.iface T x) ⟨s.toArray⟩ w hSt hr hnd hzs hE
      rw [hsd] at h
      exact h
    have HIn : Hid (∀ w1 c T' x', Below w.heap.size w w1 → childP j s = some c → S0 w1 n c (.iface T' x') → Calls Tryz.prog 35 #[.iface T' x', .slice (some A) L.length (cap - 1), .func (.func 36) #[] #[.pointer (some ⟨c0, 0, none⟩)]] w1 (MadePost n (changeP n c L en) w1)) := by
      intro w1 c T' x' hb hc hs1
      have hnc := nodes_child hr hc
      exact IH c T' x' _ w1 (by simp at hn; omega) hs1 (rise_child hr hc) (by omega) (hLt.below hb) (fun t ht => hsz t (by simp [ht])) (hE.below hb) (he.below hb)
    have HPut : Hid (∀ w1 (c : J n) T' x', Below w.heap.size w w1 → S0 w1 n c (.iface T' x') → Calls Tryz.prog 44 #[.iface T x, .string ⟨s.toArray⟩, .iface T' x'] w1 (MadePost (n + 1) (putAt j s c) w1)) := by
      intro w1 c T' x' hb hs1
      have h := put_any j c (.iface T x) ⟨s.toArray⟩ T' x' w1 (hSt.on hb) hr hnd hs1 hzs (hE.below hb)
      rw [hsd] at h
      exact h
    have HCell : Hid (∀ w1, Below w.heap.size w w1 → w1.cell? ⟨g, o, none⟩ = some (.string ⟨s.toArray⟩)) := fun w1 hb => by
      rw [hb.cell (p := ⟨g, o, none⟩) hg]
      exact hc0
    have HCh : Hid (changeP (n + 1) j (s :: L) en = match childP j s with
        | none => .error eNone
        | some c => match changeP n c L en with
          | .error y => .error y
          | .ok c' => putAt j s c') := rfl
    unfold maxLen at hcm
    rw [hln] at hlc ⊢
    clear IH hL hLt hSt hr hnd hsz hE he hsd hL10 hzs hln
    generalize changeP (n + 1) j (s :: L) en = res at *
    generalize (⟨s.toArray⟩ : ByteArray) = sb at *
    have hI1 : ¬ ((L.length : Int) + 1 = 0) := by omega
    have hlen1 : L.length ≤ 9223372036854775806 := by omega
    go_enter Tryz.func35, Tryz.ntmps35
    go_wp2_with fail
    refine Calls.mono HLead.out ?_
    rintro e w1 ⟨b1, h1⟩
    have HB1 : Hid (Below w.heap.size w w1) := b1
    clear b1
    rcases h1 with ⟨h1, rfl⟩ | ⟨c, T', x', h1, rfl, h2⟩
    · have HR : Hid (res = .error 7) := by have := HCh.out; rw [h1] at this; exact this
      clear h1
      go_wp2_with fail
      go_ret2
      exact ⟨HB1.out, Or.inl ⟨7, HR.out, by decide, by decide, rfl⟩⟩
    · have HCc : Hid (childP j s = some c) := h1
      have HS1 : Hid (S0 w1 n c (.iface T' x')) := h2
      clear h1 h2
      go_wp2_with fail
      refine Calls.mono (HIn.out w1 c T' x' HB1.out HCc.out HS1.out) ?_
      rintro e w2 ⟨b2, h2⟩
      have HB2 : Hid (Below w.heap.size w w2) := HB1.out.trans (b2.mono HB1.out.size)
      clear b2
      rcases h2 with ⟨er, h3, h4, h5, rfl⟩ | ⟨c', T2, x2, h3, rfl, h4⟩
      · have HR : Hid (res = .error er) := by
          have := HCh.out
          rw [HCc.out] at this
          simp only [h3] at this
          exact this
        have hbe : ((er : Int) != 0) = true := by rw [bne_iff_ne]; omega
        clear h3
        go_wp2_with fail
        go_ret2
        exact ⟨HB2.out, Or.inl ⟨er, HR.out, h4, h5, rfl⟩⟩
      · have HR : Hid (res = putAt j s c') := by
          have := HCh.out
          rw [HCc.out] at this
          simp only [h3] at this
          exact this
        have HS2 : Hid (S0 w2 n c' (.iface T2 x2)) := h4
        have hc2 := HCell.out w2 HB2.out
        clear h3 h4
        go_wp2_with fail
        refine Calls.mono (HPut.out w2 c' T2 x2 HB2.out HS2.out) ?_
        rintro e w3 ⟨b3, h3⟩
        have HB3 : Hid (Below w.heap.size w w3) := HB2.out.trans (b3.mono HB2.out.size)
        clear b3
        rcases h3 with ⟨er, h3, h4, h5, rfl⟩ | ⟨j', T3, x3, h3, rfl, h4⟩
        · have HR3 : Hid (res = .error er) := HR.out.trans h3
          clear h3
          go_wp2_with fail
          go_ret2
          exact ⟨HB3.out, Or.inl ⟨er, HR3.out, h4, h5, rfl⟩⟩
        · have HR3 : Hid (res = .ok j') := HR.out.trans h3
          have HS3 : Hid (S0 w3 (n + 1) j' (.iface T3 x3)) := h4
          clear h3 h4
          go_wp2_with fail
          go_ret2
          exact ⟨HB3.out, Or.inr ⟨_, _, _, HR3.out, rfl, HS3.out⟩⟩
end Go.Proofs.YtaogilpkeeigoabGreatDoor
/- Contract over this translation of ptr.Cut. -/
namespace Go.Proofs.YtaogilpkeeigoabGreatDoor
open Go.RowKit
set_option linter.unusedVariables false
set_option linter.unusedSimpArgs false
set_option maxRecDepth 100000 in
set_option maxHeartbeats 2000000 in
theorem cutS1_any (c0 n : Nat) (j : J (n + 1)) (T : TypeId) (x : Value) (s : ByteArray) (w : World) (hc0 : w.cell? ⟨c0, 0, none⟩ = some (.string s)) (hSt : S0 w (n + 1) j (.iface T x)) (hr : Rise (n + 1) j) (hn : nodes (n + 1) j ≤ 2000) (hs : s.size ≤ 8000000) (hE : Env w) :
    Calls Tryz.prog 36 #[.iface T x, .pointer (some ⟨c0, 0, none⟩)] w (MadePost (n + 1) (cutE j s.data.toList) w) := by
  have HP : Hid (Calls Tryz.prog 37 #[.iface T x, .string s] w (MadePost (n + 1) (cutE j s.data.toList) w)) := cut_any j (.iface T x) s w hSt hr hn hs hE
  clear hSt hr hn hE
  generalize cutE j s.data.toList = r at *
  go_enter Tryz.func36, Tryz.ntmps36
  go_wp2_with fail
  refine Calls.mono HP.out ?_
  rintro e w1 ⟨b1, h1⟩
  have HB : Hid (Below w.heap.size w w1) := b1
  clear b1
  rcases h1 with ⟨er, h1, h2, h3, rfl⟩ | ⟨j', T2, x2, h1, rfl, h2⟩
  · have HR : Hid (r = .error er) := h1
    clear h1
    go_wp2_with fail
    go_ret2
    exact ⟨HB.out, Or.inl ⟨er, HR.out, h2, h3, rfl⟩⟩
  · have HR : Hid (r = .ok j') := h1
    have HS : Hid (S0 w1 (n + 1) j' (.iface T2 x2)) := h2
    clear h1 h2
    go_wp2_with fail
    go_ret2
    exact ⟨HB.out, Or.inr ⟨_, _, _, HR.out, rfl, HS.out⟩⟩
theorem cut_end {c0 : Nat} {s : ByteArray} {w0 : World} (h0 : c0 < w0.heap.size) (hc0 : w0.cell? ⟨c0, 0, none⟩ = some (.string s)) (hs : s.size ≤ 8000000) (hE : Env w0) :
    EndOKC c0 (cutEnd s.data.toList) w0 := by
  intro w hb m j T x hm hSt hr hn
  cases m with
  | zero => omega
  | succ m =>
    exact cutS1_any c0 m j T x s w (by rw [hb.cell (p := ⟨c0, 0, none⟩) h0]; exact hc0) hSt hr hn hs (hE.below hb)
/-- what is made by cutting -/
def cutR (N : Nat) (D : J N) (L : List Bs) : Except Nat (J N) := if L = [] then .error 1 else changeP N D L.dropLast (cutEnd (L.getLast?.getD []))
def cutA (N : Nat) (doc p : Bs) : Array Value :=
  match rd20 N doc with
  | .error e => #[.string ByteArray.empty, .int .i64 e]
  | .ok D => match stepsE p with
    | .error e => #[.string ByteArray.empty, .int .i64 e]
    | .ok L => madeA N (cutR N D L)
set_option maxRecDepth 100000 in
set_option maxHeartbeats 4000000 in
theorem without_any (N : Nat) (hN : 20 ≤ N) (D : J N) (L : List Bs) (T : TypeId) (x : Value) (q : Option Addr) (cap : Nat) (w : World) (tD : Told20 N D) (hSt : S0 w N D (.iface T x)) (hL : Strs w (.slice q L.length cap) L) (hlen : L.length ≤ 10) (hsz : ∀ s ∈ L, s.length ≤ 8000000) (hE : Env w) :
    Calls Tryz.prog 18 #[.iface T x, .slice q L.length cap] w (MadePost N (cutR N D L) w) := by
  have HE : Hid (Env w) := hE
  have HS1 : Hid (S0 w N D (.iface T x)) := hSt
  have HL1 : Hid (Strs w (.slice q L.length cap) L) := hL
  have HTD : Hid (Told20 N D) := tD
  have HLs : Hid (∀ s ∈ L, s.length ≤ 8000000) := hsz
  clear hSt hL hE tD hsz
  go_enter Tryz.func18, Tryz.ntmps18
  go_wp2_with fail
  by_cases hL0 : L = []
  · subst hL0
    refine (apart_nil q cap w).mono ?_
    rintro e w3 ⟨rfl, b3⟩
    have HBb : Hid (Below w.heap.size w (w3.alloc (.cells #[.string ByteArray.empty] 9))) := b3.trans (((Below.refl _ _).alloc (Nat.le_refl _) _).mono b3.size)
    clear b3
    go_wp2_with fail
    go_ret2
    exact ⟨HBb.out, Or.inl ⟨1, rfl, by decide, by decide, rfl⟩⟩
  · obtain ⟨M, s, rfl⟩ : ∃ M s, L = M ++ [s] := ⟨L.dropLast, L.getLast hL0, (List.dropLast_concat_getLast hL0).symm⟩
    have hRr : cutR N D (M ++ [s]) = changeP N D M (cutEnd s) := by
      unfold cutR
      rw [if_neg (by simp), List.dropLast_concat]
      simp
    have HRr : Hid (cutR N D (M ++ [s]) = changeP N D M (cutEnd s)) := hRr
    have hMl : M.length ≤ 9 := by simp at hlen; omega
    have hzs : (⟨s.toArray⟩ : ByteArray).size ≤ 8000000 := by rw [size_of]; exact HLs.out s (by simp)
    have hsd : (⟨s.toArray⟩ : ByteArray).data.toList = s := by simp
    refine (apart_some M s q cap w HL1.out (by omega)).mono ?_
    rintro e w3 ⟨rfl, b3, hM3⟩
    have hb3a : Below w3.heap.size w3 (w3.alloc (.cells #[.string ⟨s.toArray⟩] 9)) := (Below.refl _ _).alloc (Nat.le_refl _) _
    have hwaB : Below w.heap.size w (w3.alloc (.cells #[.string ⟨s.toArray⟩] 9)) := b3.trans (hb3a.mono b3.size)
    have HBb : Hid (Below w.heap.size w (w3.alloc (.cells #[.string ⟨s.toArray⟩] 9))) := hwaB
    have hc0 : (w3.alloc (.cells #[.string ⟨s.toArray⟩] 9)).cell? ⟨w3.heap.size, 0, none⟩ = some (.string ⟨s.toArray⟩) := by
      rw [cell_of_row _ _ _ _ _ _ (heap_alloc_new w3 _)]
      rfl
    have he := cut_end (c0 := w3.heap.size) (by simp) hc0 hzs (HE.out.below HBb.out)
    rw [hsd] at he
    have HCh' : Hid (Calls Tryz.prog 35 #[.iface T x, .slice q M.length cap, .func (.func 36) #[] #[.pointer (some ⟨w3.heap.size, 0, none⟩)]] (w3.alloc (.cells #[.string ⟨s.toArray⟩] 9)) (MadePost N (changeP N D M (cutEnd s)) (w3.alloc (.cells #[.string ⟨s.toArray⟩] 9)))) := changeC_ok w3.heap.size (cutEnd s) M N D T x (.slice q M.length cap) (w3.alloc (.cells #[.string ⟨s.toArray⟩] 9)) (by omega) (HS1.out.on hwaB) (rise_of_good _ _ HTD.out.good) (by have := HTD.out.nodes; omega) (hM3.below hb3a) (fun t ht => HLs.out t (by simp [ht])) (HE.out.below HBb.out) he
    clear b3 hb3a hwaB he hc0 hM3 hRr hsd hzs hL0
    generalize changeP N D M (cutEnd s) = r at *
    go_wp2_with fail
    generalize w3.alloc (.cells #[.string ⟨s.toArray⟩] 9) = wb at *
    refine Calls.mono HCh'.out ?_
    rintro e w4 ⟨b4, h4⟩
    have HB4 : Hid (Below w.heap.size w w4) := HBb.out.trans (b4.mono HBb.out.size)
    clear b4
    rcases h4 with ⟨er, h1, h2, h3, rfl⟩ | ⟨R, T3, x3, h1, rfl, h2⟩
    · have HR : Hid (r = .error er) := h1
      clear h1
      go_wp2_with fail
      go_ret2
      exact ⟨HB4.out, Or.inl ⟨er, HRr.out.trans HR.out, h2, h3, rfl⟩⟩
    · have HR : Hid (r = .ok R) := h1
      have HS : Hid (S0 w4 N R (.iface T3 x3)) := h2
      clear h1 h2
      go_wp2_with fail
      go_ret2
      exact ⟨HB4.out, Or.inr ⟨R, T3, x3, HRr.out.trans HR.out, rfl, HS.out⟩⟩
set_option maxRecDepth 100000 in
set_option maxHeartbeats 4000000 in
theorem cutTop_any (N : Nat) (hN : 20 ≤ N) (doc p : ByteArray) (w : World) (hd' : doc.size ≤ 8000000) (hp : p.size ≤ 8000000) (hE : Env w) (hF : ∀ D L R, rd20 N doc.data.toList = .ok D → stepsE p.data.toList = .ok L → cutR N D L = .ok R → Fine N R) :
    Calls Tryz.prog 6 #[.string doc, .string p] w fun e w' => e = .returned (.tuple (cutA N doc.data.toList p.data.toList)) ∧ Below w.heap.size w w' := by
  have HE : Hid (Env w) := hE
  have HF : Hid (∀ D L R, rd20 N doc.data.toList = .ok D → stepsE p.data.toList = .ok L → cutR N D L = .ok R → Fine N R) := hF
  obtain ⟨res, hres⟩ : ∃ res, cutA N doc.data.toList p.data.toList = res := ⟨_, rfl⟩
  have HG : Hid (cutA N doc.data.toList p.data.toList = res) := hres
  rw [hres]
  have hpl : p.data.toList.length = p.size := by simp
  clear hE hres hF
  go_enter Tryz.func6, Tryz.ntmps6
  go_wp2_with fail
  refine (readDoc_any N hN doc p w hd' hp HE.out).mono ?_
  rintro e w1 ⟨b1, h1⟩
  have HB1 : Hid (Below w.heap.size w w1) := b1
  clear b1
  rcases h1 with ⟨er, h2, h3, h4, rfl⟩ | ⟨D, er, h2, h3, h4, h5, rfl⟩ | ⟨D, L, T, x, q, cap, h2, h3, rfl, h4, h5⟩
  · have HR : Hid (res = #[.string ByteArray.empty, .int .i64 er]) := by
      show res = _
      rw [← HG.out, cutA, h2]
    have hbe : ((er : Int) != 0) = true := by rw [bne_iff_ne]; omega
    clear h2
    go_wp2_with fail
    go_ret2
    exact ⟨by rw [HR.out]; rfl, HB1.out⟩
  · have HR : Hid (res = #[.string ByteArray.empty, .int .i64 er]) := by
      show res = _
      rw [← HG.out, cutA, h2]
      simp only [h3]
    have hbe : ((er : Int) != 0) = true := by rw [bne_iff_ne]; omega
    clear h2 h3
    go_wp2_with fail
    go_ret2
    exact ⟨by rw [HR.out]; rfl, HB1.out⟩
  · have HR2 : Hid (rd20 N doc.data.toList = .ok D) := h2
    have HR3 : Hid (stepsE p.data.toList = .ok L) := h3
    have HS1 : Hid (S0 w1 N D (.iface T x)) := h4
    have HL1 : Hid (Strs w1 (.slice q L.length cap) L) := h5
    have hsum := steps_sum h3
    have hlen := (join_steps h3).2
    have HLs : Hid (∀ s ∈ L, s.length ≤ 8000000) := fun s hs => by
      obtain ⟨i, hi, rfl⟩ := List.getElem_of_mem hs
      have := len_le_sum L i hi
      omega
    have HR : Hid (res = madeA N (cutR N D L)) := by
      show res = _
      rw [← HG.out, cutA, h2]
      simp only [h3]
    have HW : Hid (Calls Tryz.prog 18 #[.iface T x, .slice q L.length cap] w1 (MadePost N (cutR N D L) w1)) := without_any N hN D L T x q cap w1 (rd20_told hN h2) h4 h5 hlen HLs.out (HE.out.below HB1.out)
    have HFr : Hid (∀ R, cutR N D L = .ok R → Fine N R) := fun R h => HF.out D L R HR2.out HR3.out h
    clear h2 h3 h4 h5 hsum
    obtain ⟨sx, ex, hform⟩ := madeA_form N (cutR N D L)
    have HX : Hid (res = #[.string sx, .int .i64 ex]) := HR.out.trans hform
    have HTo : Hid (∀ v ev w3, MadePost N (cutR N D L) w1 (.returned (.tuple #[v, .int .i64 ev])) w3 → Tab w3.heap.size w3 → Calls Tryz.prog 17 #[v, .int .i64 ev] w3 fun e w' => e = .returned (.tuple #[.string sx, .int .i64 ex]) ∧ Below w3.heap.size w3 w') := fun v ev w3 h hT => by
      have h9 := told_made N (cutR N D L) w1 v ev w3 h HFr.out hT
      rw [hform] at h9
      exact h9
    clear hform
    generalize cutR N D L = r at *
    go_wp2_with fail
    refine Calls.mono HW.out ?_
    rintro e w3 hm
    have HB3 : Hid (Below w.heap.size w w3) := HB1.out.trans (hm.1.mono HB1.out.size)
    obtain ⟨v3, e3, rfl⟩ : ∃ (v3 : Value) (e3 : Int), e = .returned (.tuple #[v3, .int .i64 e3]) := by
      rcases hm.2 with ⟨er, _, _, _, h⟩ | ⟨R, T3, x3, _, h, _⟩
      · exact ⟨_, _, h⟩
      · exact ⟨_, _, h⟩
    have HTd : Hid (Calls Tryz.prog 17 #[v3, .int .i64 e3] w3 fun e w' => e = .returned (.tuple #[.string sx, .int .i64 ex]) ∧ Below w3.heap.size w3 w') := HTo.out v3 e3 w3 hm (HE.out.below HB3.out).tab
    clear hm
    go_wp2_with fail
    refine Calls.mono HTd.out ?_
    rintro e w4 ⟨rfl, b4⟩
    have HB4 : Hid (Below w.heap.size w w4) := HB3.out.trans (b4.mono HB3.out.size)
    clear b4
    go_wp2_with fail
    go_ret2
    exact ⟨by rw [HX.out]; rfl, HB4.out⟩
end Go.Proofs.YtaogilpkeeigoabGreatDoor
/- Plain facts: what was cut out is there no more, put there again all is as it was; where the last step begins. -/
namespace Go.Proofs.YtaogilpkeeigoabGreatDoor
set_option linter.unusedVariables false
set_option linter.unusedSimpArgs false
theorem commas_less (A C : List Bs) (t : Bs) : (commas (A ++ C)).length ≤ (commas (A ++ t :: C)).length := by
  have h1 := commas_lenE (A ++ t :: C) (by simp)
  by_cases h : A ++ C = []
  · rw [h]; simp [commas]
  · have h2 := commas_lenE (A ++ C) h
    simp only [List.map_append, List.map_cons, List.sum_append, List.sum_cons, List.length_append, List.length_cons] at h1 h2
    omega
/-- what is known of what was cut -/
structure CutOK (n : Nat) (D R : J n) (M : List Bs) (s : Bs) : Prop where
  good : Good n R
  nodes : nodes n R < nodes n D
  len : (tell n R).length ≤ (tell n D).length
  holder : ∃ H, getP n D M = some H ∧ (kindJ n H = 5 ∨ kindJ n H = 6 ∧ (∃ c, getP n D (M ++ [s]) = some c ∧ ∀ it : (m : Nat) → J m, (∀ (m : Nat) (c0 : J m), m ≤ n → lift m n c0 = c → it m = c0) → changeP n R M (putEnd it s) = .ok D) ∧ getP n R (M ++ [s]) = none)
theorem cut_list {n : Nat} {xs : List (J n)} {i : Nat} (hg : Good (n + 1) (Sum.inr (Sum.inl xs))) (hi : i < xs.length) (s : Bs) : CutOK (n + 1) (Sum.inr (Sum.inl xs)) (Sum.inr (Sum.inl (xs.take i ++ xs.drop (i + 1)))) [] s := by
  obtain ⟨A, c, C, rfl, hA⟩ : ∃ A c C, xs = A ++ c :: C ∧ A.length = i := ⟨xs.take i, xs[i], xs.drop (i + 1), by rw [List.getElem_cons_drop]; simp, by simp; omega⟩
  have e : (A ++ c :: C).take i ++ (A ++ c :: C).drop (i + 1) = A ++ C := by
    subst hA
    rw [List.take_left' rfl, List.drop_append, List.drop_of_length_le (by omega)]
    simp
  rw [e]
  have hn := nodes_one n c
  refine ⟨fun x hx => hg x ?_, ?_, ?_, ⟨Sum.inr (Sum.inl (A ++ c :: C)), rfl, Or.inl rfl⟩⟩
  · rcases List.mem_append.1 hx with h | h
    · exact List.mem_append_left _ h
    · exact List.mem_append_right _ (List.mem_cons_of_mem _ h)
  · show 1 + ((A ++ C).map (Go.Proofs.YtaogilpkeeigoabGreatDoor.nodes n)).sum < 1 + ((A ++ c :: C).map (Go.Proofs.YtaogilpkeeigoabGreatDoor.nodes n)).sum
    simp only [List.map_append, List.map_cons, List.sum_append, List.sum_cons]
    omega
  · show (91 :: (commas ((A ++ C).map (tell n)) ++ [93])).length ≤ (91 :: (commas ((A ++ c :: C).map (tell n)) ++ [93])).length
    have := commas_less (A.map (tell n)) (C.map (tell n)) (tell n c)
    simp only [List.map_append, List.map_cons, List.length_cons, List.length_append, List.length_nil]
    omega
theorem cut_obj {n : Nat} {fs : List (Bs × J n)} {s : Bs} (hg : Good (n + 1) (Sum.inr (Sum.inr fs))) (ha : (fs.any fun f => f.1 == s) = true) : CutOK (n + 1) (Sum.inr (Sum.inr fs)) (Sum.inr (Sum.inr (cutAt fs s))) [] s := by
  have hr := rise_of_good _ _ hg
  obtain ⟨hlt, hfa⟩ := field_idx hr.1 ha
  obtain ⟨A, C, h1, h2, h3⟩ := fieldAt_split hr.1 hfa
  generalize (fs[placeOfName fs s]'hlt).2 = c at *
  clear hlt
  subst h1
  rw [cutAt_mid h2]
  have hn := nodes_one n c
  have hrC : Rising (A ++ C) := by
    have := hr.1
    unfold Rising at this ⊢
    rw [List.pairwise_append] at this ⊢
    rw [List.pairwise_cons] at this
    exact ⟨this.1, this.2.1.2, fun a ha b hb => this.2.2 a ha b (List.mem_cons_of_mem _ hb)⟩
  refine ⟨⟨hrC, fun f hf => hg.2 f ?_⟩, ?_, ?_, ⟨Sum.inr (Sum.inr (A ++ (s, c) :: C)), rfl, Or.inr ⟨rfl, ⟨lift n (n + 1) c, ?_, fun it hit => ?_⟩, ?_⟩⟩⟩
  · rcases List.mem_append.1 hf with h | h
    · exact List.mem_append_left _ h
    · exact List.mem_append_right _ (List.mem_cons_of_mem _ h)
  · show 1 + ((A ++ C).map fun f => Go.Proofs.YtaogilpkeeigoabGreatDoor.nodes n f.2).sum < 1 + ((A ++ (s, c) :: C).map fun f => Go.Proofs.YtaogilpkeeigoabGreatDoor.nodes n f.2).sum
    simp only [List.map_append, List.map_cons, List.sum_append, List.sum_cons]
    omega
  · show (123 :: (commas ((A ++ C).map fun f => quote f.1 ++ 58 :: tell n f.2) ++ [125])).length ≤ (123 :: (commas ((A ++ (s, c) :: C).map fun f => quote f.1 ++ 58 :: tell n f.2) ++ [125])).length
    have := commas_less (A.map fun f => quote f.1 ++ 58 :: tell n f.2) (C.map fun f => quote f.1 ++ 58 :: tell n f.2) (quote s ++ 58 :: tell n c)
    simp only [List.map_append, List.map_cons, List.length_cons, List.length_append, List.length_nil] at this ⊢
    omega
  · show ((fieldAt (A ++ (s, c) :: C) s).bind fun c => (getP n c []).map (lift n (n + 1))) = _
    rw [fieldAt_mid h2]
    cases n <;> rfl
  · have e : it n = c := hit n c (by omega) rfl
    show putAt (Sum.inr (Sum.inr (A ++ C))) s (it n) = _
    show Except.ok (Sum.inr (Sum.inr (setAt (A ++ C) s (it n)))) = _
    rw [setAt_gap h2 h3, e]
    rfl
  · show ((fieldAt (A ++ C) s).bind fun c => (getP n c []).map (lift n (n + 1))) = _
    have : fieldAt (A ++ C) s = none := by
      unfold fieldAt
      rw [any_gap h2 h3]
      rfl
    rw [this]
    rfl
theorem cut_facts (s : Bs) : ∀ (M : List Bs) (n : Nat) (D R : J n), Good n D → changeP n D M (cutEnd s) = .ok R → CutOK n D R M s
  | [], 0, D, R, hg, h => by cases h
  | [], n + 1, D, R, hg, h => by
    have h' : cutE D s = .ok R := h
    match D, hg, h' with
    | Sum.inl _, hg, h' => cases h'
    | Sum.inr (Sum.inl xs), hg, h' =>
      have hc : cutE (Sum.inr (Sum.inl xs) : J (n + 1)) s = match placeP s with
        | none => .error eNone
        | some i => if i < xs.length then .ok (Sum.inr (Sum.inl (xs.take i ++ xs.drop (i + 1)))) else .error eNone := rfl
      rw [hc] at h'
      cases hp : placeP s with
      | none => rw [hp] at h'; cases h'
      | some i =>
        rw [hp] at h'
        simp only [] at h'
        by_cases hi : i < xs.length
        · rw [if_pos hi] at h'
          cases h'
          exact cut_list hg hi s
        · rw [if_neg hi] at h'
          cases h'
    | Sum.inr (Sum.inr fs), hg, h' =>
      have hc : cutE (Sum.inr (Sum.inr fs) : J (n + 1)) s = if fs.any (fun f => f.1 == s) then .ok (Sum.inr (Sum.inr (cutAt fs s))) else .error eNone := rfl
      rw [hc] at h'
      cases ha : (fs.any fun f => f.1 == s) with
      | false => rw [ha, if_neg (by decide)] at h'; cases h'
      | true =>
        rw [ha, if_pos rfl] at h'
        cases h'
        exact cut_obj hg ha
  | t :: M, 0, D, R, hg, h => by cases h
  | t :: M, n + 1, D, R, hg, h => by
    have hr := rise_of_good _ _ hg
    have h' : (match childP D t with
      | none => .error eNone
      | some c => match changeP n c M (cutEnd s) with
        | .error x => .error x
        | .ok c' => putAt D t c') = Except.ok R := h
    cases hc : childP D t with
    | none => rw [hc] at h'; cases h'
    | some c =>
      rw [hc] at h'
      simp only [] at h'
      cases hm : changeP n c M (cutEnd s) with
      | error x => rw [hm] at h'; cases h'
      | ok c' =>
        rw [hm] at h'
        simp only [] at h'
        rw [put_repl hr hc] at h'
        cases h'
        have ih := cut_facts s M n c c' (good_child hg hc) hm
        have hz := size_repl (d := c') hr hc
        have h1 := ih.nodes
        have h2 := ih.len
        have hgR := good_repl (s := t) hg ih.good
        have hcR := child_repl (d := c') hr hc
        obtain ⟨H, hH, hk⟩ := ih.holder
        have hls := (lift_said n (n + 1) H (Nat.le_trans (depth_bound n H) (by omega))).2.2.2
        refine ⟨hgR, by omega, by omega, ⟨lift n (n + 1) H, ?_, ?_⟩⟩
        · show ((childP D t).bind fun c => (getP n c M).map (lift n (n + 1))) = _
          rw [hc, Option.bind_some, hH]
          rfl
        · rw [hls]
          rcases hk with hk | ⟨hk, ⟨x, hx, hput⟩, hno⟩
          · exact Or.inl hk
          · refine Or.inr ⟨hk, ⟨lift n (n + 1) x, ?_, fun it hit => ?_⟩, ?_⟩
            · show ((childP D t).bind fun c => (getP n c (M ++ [s])).map (lift n (n + 1))) = _
              rw [hc, Option.bind_some, hx]
              rfl
            · have ec := hput it (fun m c0 hm' e => hit m c0 (by omega) (by
                rw [← e, lift_lift _ _ _ _ (Nat.le_trans (depth_bound m c0) hm')]))
              show (match childP (replP D t c') t with
                | none => .error eNone
                | some c => match changeP n c M (putEnd it s) with
                  | .error x => .error x
                  | .ok c'' => putAt (replP D t c') t c'') = Except.ok D
              rw [hcR]
              simp only []
              rw [ec]
              simp only []
              rw [put_repl (rise_of_good _ _ hgR) hcR, replP_twice, repl_child hr hc]
            · show ((childP (replP D t c') t).bind fun c => (getP n c (M ++ [s])).map (lift n (n + 1))) = _
              rw [hcR, Option.bind_some, hno]
              rfl
theorem last_of (p : ByteArray) (a b : Bs) (h : p.data.toList = a ++ 47 :: b) (hb : 47 ∉ b) : Lib.lastIndexByte p 47 = (a.length : Int) := by
  have hsz : p.size = a.length + b.length + 1 := by
    have := congrArg List.length h
    simp at this
    have e : p.size = p.data.size := rfl
    omega
  have hat : ∀ j, j < p.size → p.data[j]! = (a ++ 47 :: b)[j]! := fun j hj => by
    rw [← h]
    have hj' : j < p.data.size := hj
    rw [getElem!_pos p.data j hj', getElem!_pos p.data.toList j (by simpa using hj')]
    simp
  rcases Lib.lastIndexByte_spec p 47 with ⟨_, hn⟩ | ⟨i, hi, he, hc, hn⟩
  · exfalso
    have := hn a.length (by omega)
    rw [hat _ (by omega)] at this
    simp at this
  · rw [he]
    rcases Nat.lt_trichotomy i a.length with hlt | heq | hgt
    · exfalso
      have := hn a.length hlt (by omega)
      rw [hat _ (by omega)] at this
      simp at this
    · omega
    · exfalso
      rw [hat _ hi] at hc
      have hib : i - a.length - 1 < b.length := by omega
      have e : (a ++ 47 :: b)[i]! = b[i - a.length - 1] := by
        have : i < (a ++ 47 :: b).length := by simp; omega
        rw [getElem!_pos _ i this, List.getElem_append_right (by omega), List.getElem_cons]
        rw [dif_neg (by omega)]
      rw [e] at hc
      have h47 : b[i - a.length - 1] = 47 := by
        apply UInt8.toNat_inj.1
        have : (47 : UInt8).toNat = 47 := rfl
        omega
      exact hb (h47 ▸ List.getElem_mem hib)
end Go.Proofs.YtaogilpkeeigoabGreatDoor
/- Plain facts for the law PtrCuts: what Cut answers. -/
namespace Go.Proofs.YtaogilpkeeigoabGreatDoor
open Go.RowKit
set_option linter.unusedVariables false
set_option linter.unusedSimpArgs false
theorem stepsE_nz {p : Bs} {e : Nat} (hs : stepsE p = .error e) : e ≠ 0 := by
  unfold stepsE at hs
  split at hs
  · cases hs
  · split at hs
    · cases hs; decide
    · split at hs
      · cases hs; decide
      · cases hs
theorem rd20_nz' {N : Nat} {x : Bs} {e : Nat} (h : rd20 N x = .error e) : e ≠ 0 := by
  unfold rd20 at h
  cases hr : read x with
  | error e' =>
    rw [hr] at h
    cases h
    exact read_err hr
  | ok j => rw [hr] at h; cases h
theorem putAt_nz {n : Nat} {j : J (n + 1)} {s : Bs} {c : J n} {e : Nat} (h : putAt j s c = .error e) : e = 7 := by
  match j, h with
  | Sum.inl _, h => cases h; rfl
  | Sum.inr (Sum.inl xs), h =>
    unfold putAt at h
    simp only [] at h
    split at h
    · cases h; rfl
    · cases h
  | Sum.inr (Sum.inr fs), h => cases h
theorem cutE_nz {n : Nat} {j : J (n + 1)} {s : Bs} {e : Nat} (h : cutE j s = .error e) : e = 7 := by
  match j, h with
  | Sum.inl _, h => cases h; rfl
  | Sum.inr (Sum.inl xs), h =>
    unfold cutE at h
    simp only [] at h
    split at h
    · cases h; rfl
    · split at h
      · cases h
      · cases h; rfl
  | Sum.inr (Sum.inr fs), h =>
    unfold cutE at h
    simp only [] at h
    split at h
    · cases h
    · cases h; rfl
theorem change_nz (s : Bs) : ∀ (M : List Bs) (n : Nat) (D : J n) (e : Nat), changeP n D M (cutEnd s) = .error e → e = 7
  | [], 0, D, e, h => by cases h; rfl
  | [], n + 1, D, e, h => cutE_nz (show cutE D s = .error e from h)
  | t :: M, 0, D, e, h => by cases h; rfl
  | t :: M, n + 1, D, e, h => by
    have h' : (match childP D t with
      | none => .error eNone
      | some c => match changeP n c M (cutEnd s) with
        | .error x => .error x
        | .ok c' => putAt D t c') = (Except.error e : Except Nat (J (n + 1))) := h
    cases hc : childP D t with
    | none => rw [hc] at h'; cases h'; rfl
    | some c =>
      rw [hc] at h'
      simp only [] at h'
      cases hm : changeP n c M (cutEnd s) with
      | error x =>
        rw [hm] at h'
        cases h'
        exact change_nz s M n c _ hm
      | ok c' =>
        rw [hm] at h'
        exact putAt_nz h'
theorem cutR_some {N : Nat} {D : J N} {M : List Bs} {s : Bs} : cutR N D (M ++ [s]) = changeP N D M (cutEnd s) := by
  unfold cutR
  rw [if_neg (by simp), List.dropLast_concat]
  simp
theorem cut_fine {N : Nat} (hN : 20 ≤ N) (hM : N ≤ 100000) {x y : Bs} : ∀ D L R, rd20 N x = .ok D → stepsE y = .ok L → cutR N D L = .ok R → Fine N R := by
  intro D L R h1 h2 h3
  have hD := rd20_told hN h1
  by_cases hL : L = []
  · subst hL; cases h3
  · obtain ⟨M, s, rfl⟩ : ∃ M s, L = M ++ [s] := ⟨L.dropLast, L.getLast hL, (List.dropLast_concat_getLast hL).symm⟩
    rw [cutR_some] at h3
    have h := cut_facts s M N D R hD.good h3
    have a := h.nodes
    have b := h.len
    have c := hD.nodes
    have d := hD.len
    have e := depth_bound N R
    exact ⟨fit_of_good _ _ h.good, by omega, by omega, by omega⟩
theorem cutA_cases (N : Nat) (hN : 20 ≤ N) (doc p : Bs) : (∃ er : Nat, er ≠ 0 ∧ cutA N doc p = #[.string ByteArray.empty, .int .i64 er]) ∨ ∃ D M s R, rd20 N doc = .ok D ∧ stepsE p = .ok (M ++ [s]) ∧ changeP N D M (cutEnd s) = .ok R ∧ Told20 N R ∧ cutA N doc p = #[.string ⟨(tell N R).toArray⟩, .int .i64 0] := by
  unfold cutA
  cases hd : rd20 N doc with
  | error e => exact Or.inl ⟨e, rd20_nz' hd, rfl⟩
  | ok D =>
    simp only []
    cases hs : stepsE p with
    | error e => exact Or.inl ⟨e, stepsE_nz hs, rfl⟩
    | ok L =>
      simp only []
      by_cases hL : L = []
      · subst hL
        exact Or.inl ⟨1, by decide, rfl⟩
      · obtain ⟨M, s, rfl⟩ : ∃ M s, L = M ++ [s] := ⟨L.dropLast, L.getLast hL, (List.dropLast_concat_getLast hL).symm⟩
        rw [cutR_some]
        cases hc : changeP N D M (cutEnd s) with
        | error e => exact Or.inl ⟨e, by rw [change_nz s M N D e hc]; decide, rfl⟩
        | ok R =>
          have hg := (cut_facts s M N D R (rd20_told hN hd).good hc).good
          show (∃ er : Nat, er ≠ 0 ∧ toldE N R = _) ∨ _
          obtain ⟨t, er, hf⟩ := toldE_form N R
          by_cases h0 : er = 0
          · subst h0
            obtain ⟨hT, ht⟩ := told_zero hg hf
            refine Or.inr ⟨D, M, s, R, rfl, rfl, hc, hT, ?_⟩
            show toldE N R = _
            rw [hf, ht]
            rfl
          · refine Or.inl ⟨er, h0, ?_⟩
            rw [hf]
            unfold toldE at hf
            split at hf
            · simp at hf; rw [hf.1]
            · split at hf
              · simp at hf; rw [hf.1]
              · split at hf
                · simp at hf; rw [hf.1]
                · simp at hf; omega
theorem cutA_one {N : Nat} : cutA N [49] [] = #[.string ByteArray.empty, .int .i64 1] := by
  unfold cutA
  rw [rd20_ok read_one, lift_leaf]
  rfl
theorem rd20_nodes {N : Nat} {doc : Bs} {D : J N} (hN : 20 ≤ N) (h : rd20 N doc = .ok D) : ∃ j, read doc = .ok j ∧ tell 10 j = tell N D ∧ nodes 10 j = nodes N D := by
  unfold rd20 at h
  cases hr : read doc with
  | error e => rw [hr] at h; cases h
  | ok j =>
    rw [hr] at h
    have e : lift 10 N j = D := by
      have h' : Except.ok (lift 10 N j) = (Except.ok D : Except Nat (J N)) := h
      exact Except.ok.inj h'
    subst e
    have := lift_said 10 N j (Nat.le_trans (depth_bound 10 j) (by omega))
    exact ⟨j, rfl, this.1.symm, this.2.1.symm⟩
theorem told_read10 {N : Nat} {D : J N} (h : Told20 N D) : ∃ j, read (tell N D) = .ok j ∧ nodes 10 j = nodes N D ∧ kindJ 10 j = kindJ N D := by
  have := lift_said N 10 D h.depth
  exact ⟨lift N 10 D, read_told h.good h.nodes h.depth h.len, this.2.1, this.2.2.2⟩
/-- the text ahead of the last step -/
theorem ahead {p : ByteArray} {M : List Bs} {s : Bs} (h : stepsE p.data.toList = .ok (M ++ [s])) : Lib.lastIndexByte p 47 = ((joinB M).length : Int) ∧ (joinB M).length ≤ p.size ∧ (p.extract 0 (joinB M).length).data.toList = joinB M ∧ stepsE (joinB M) = .ok M := by
  obtain ⟨h1, h2⟩ := join_steps h
  rw [join_app] at h1
  have h3 : p.data.toList = joinB M ++ 47 :: written s := by rw [← h1]; simp [joinB]
  have hz : p.size = p.data.toList.length := by simp
  refine ⟨last_of p _ _ h3 (written_fine s).2.2, ?_, ?_, steps_join M (by simp at h2; omega)⟩
  · rw [hz, h3]; simp
  · rw [Lib.extract_data, h3]
    simp
theorem kind_ok2 {t : ByteArray} {x : Bs} {j : J 10} {k : Nat} {w : World} (hs : t.size ≤ maxLen) (hx : t.data.toList = x) (hr : read x = .ok j) (hk : kindJ 10 j = k) :
    Says w 9 #[.string t] (.tuple #[.int .i64 k, .int .i64 0]) := by
  intro w1 hb
  have h := kind_any t w1 hs
  rw [hx] at h
  refine h.mono ?_
  rintro e w2 ⟨rfl, b2⟩
  refine ⟨?_, b2⟩
  rw [kindE, hr, ← hk]
theorem cut_says (N : Nat) (hN : 20 ≤ N) (hM : N ≤ 100000) {doc p : ByteArray} {x y : Bs} {a : Array Value} {w : World} (hE : Env w) (hd : doc.size ≤ 8000000) (hp : p.size ≤ 8000000) (hx : doc.data.toList = x) (hy : p.data.toList = y) (ha : cutA N x y = a) :
    Says w 6 #[.string doc, .string p] (.tuple a) := by
  intro w1 hb
  subst hx hy ha
  exact cutTop_any N hN doc p w1 hd hp (hE.below hb) (cut_fine hN hM)
end Go.Proofs.YtaogilpkeeigoabGreatDoor
/- Contract over this translation of json.Size at texts of which it is known what they are read as. -/
namespace Go.Proofs.YtaogilpkeeigoabGreatDoor
open Go.RowKit
set_option linter.unusedVariables false
set_option linter.unusedSimpArgs false
theorem size_ok {t : ByteArray} {x : Bs} {j : J 10} {w : World} (hs : t.size ≤ maxLen) (hx : t.data.toList = x) (hr : read x = .ok j) :
    Says w 10 #[.string t] (.tuple #[.int .i64 (nodes 10 j), .int .i64 (depth 10 j), .int .i64 0]) := by
  intro w1 hb
  have h := size_any t w1 hs
  rw [hx] at h
  refine h.mono ?_
  rintro e w2 ⟨rfl, b2⟩
  refine ⟨?_, b2⟩
  rw [sizeE, hr]
end Go.Proofs.YtaogilpkeeigoabGreatDoor
/- The law PtrCuts over this translation: it answers true at every two texts, and leaves old memory alone. -/
namespace Go.Proofs.YtaogilpkeeigoabGreatDoor
open Go.RowKit
set_option linter.unusedVariables false
set_option linter.unusedSimpArgs false
set_option maxRecDepth 100000 in
set_option maxHeartbeats 4000000 in
theorem ptrCuts_walk (N : Nat) (hN : 20 ≤ N) (hM : N ≤ 100000) (doc p : ByteArray) (w : World) (hd : doc.size ≤ 2000000) (hp : p.size ≤ 2000000) (hE : Env w) :
    Calls Tryz.prog 3 #[.string doc, .string p] w fun e w' => e = .returned (.bool true) ∧ Below w.heap.size w w' := by
  have H1 : Hid (Says w 6 #[.string ⟨#[49]⟩, .string ⟨#[]⟩] (.tuple #[.string ByteArray.empty, .int .i64 1])) := cut_says N hN hM (x := [49]) (y := []) hE (by show 1 ≤ _; omega) (by show 0 ≤ _; omega) rfl rfl cutA_one
  rcases cutA_cases N hN doc.data.toList p.data.toList with ⟨er, her, hg⟩ | ⟨D, M, s, R, hr, hs, hc, hT, hg⟩
  · have HG : Hid (Says w 6 #[.string doc, .string p] (.tuple #[.string ByteArray.empty, .int .i64 er])) := cut_says N hN hM hE (by omega) (by omega) rfl rfl hg
    have hbe : ((er : Int) != 0) = true := by rw [bne_iff_ne]; omega
    clear hE hg
    go_enter Tryz.func3, Tryz.ntmps3
    go_wp2_with fail
    refine Calls.mono (H1.out w (Below.refl _ _)) ?_
    rintro e w1 ⟨rfl, b1⟩
    have HB1 : Hid (Below w.heap.size w w1) := b1
    clear b1
    go_wp2_with fail
    refine Calls.mono (HG.out w1 HB1.out) ?_
    rintro e w2 ⟨rfl, b2⟩
    have HB2 : Hid (Below w.heap.size w w2) := HB1.out.trans (b2.mono HB1.out.size)
    clear b2
    go_wp2_with fail
    go_ret
    exact ⟨rfl, HB2.out⟩
  · have HG : Hid (Says w 6 #[.string doc, .string p] (.tuple #[.string ⟨(tell N R).toArray⟩, .int .i64 0])) := cut_says N hN hM hE (by omega) (by omega) rfl rfl hg
    have hTD := rd20_told hN hr
    have hF := cut_facts s M N D R hTD.good hc
    obtain ⟨H, hH, hk⟩ := hF.holder
    have hTH := hTD.get hH
    obtain ⟨hl1, hl2, hl3, hl4⟩ := ahead hs
    have hlR := hT.len
    have hlH := hTH.len
    have HL : Hid (∀ w, Calls Tryz.prog 7 #[.string p, .string ⟨#[47]⟩] w fun e w' => e = .returned (.int .i64 ((joinB M).length : Int)) ∧ Below w.heap.size w w') := by
      intro w
      refine (Tryz.strings_LastIndex_one p ⟨#[47]⟩ rfl (by omega) w).mono ?_
      rintro e w' ⟨rfl, rfl⟩
      refine ⟨?_, Below.refl _ _⟩
      rw [← hl1]
      rfl
    have HU : Hid (Says w 8 #[.string doc, .string (p.extract 0 (joinB M).length)] (.tuple #[.string ⟨(tell N H).toArray⟩, .int .i64 0])) := by
      refine get_says N hN hE (by omega) (by rw [ByteArray.size_extract]; omega) rfl hl3 ?_
      unfold getA
      rw [hr]
      simp only [hl4, hH]
      exact hTH.told
    obtain ⟨jH, hjH, _, hkH⟩ := told_read10 hTH
    have hzH : (⟨(tell N H).toArray⟩ : ByteArray).size ≤ maxLen := by rw [size_arr]; unfold maxLen; omega
    have hzR : (⟨(tell N R).toArray⟩ : ByteArray).size ≤ maxLen := by rw [size_arr]; unfold maxLen; omega
    have hzR' : (⟨(tell N R).toArray⟩ : ByteArray).size ≤ 8000000 := by rw [size_arr]; omega
    obtain ⟨jD, hjD, htD, hnD⟩ := rd20_nodes hN hr
    obtain ⟨jR, hjR, hnR, _⟩ := told_read10 hT
    have hnn := hF.nodes
    generalize hkk : (joinB M).length = kk at *
    clear hkk
    rcases hk with hk | ⟨hk, ⟨c, hcc, hput⟩, hno⟩
    · have HK : Hid (Says w 9 #[.string ⟨(tell N H).toArray⟩] (.tuple #[.int .i64 (5 : Nat), .int .i64 0])) := kind_ok2 hzH rfl hjH (hkH.trans hk)
      have HZ1 : Hid (Says w 10 #[.string doc] (.tuple #[.int .i64 (nodes N D), .int .i64 (depth 10 jD), .int .i64 0])) := (size_ok (by unfold maxLen; omega) rfl hjD).mono (by rw [hnD])
      have HZ2 : Hid (Says w 10 #[.string ⟨(tell N R).toArray⟩] (.tuple #[.int .i64 (nodes N R), .int .i64 (depth 10 jR), .int .i64 0])) := (size_ok hzR rfl hjR).mono (by rw [hnR])
      have hlt : ((nodes N R : Nat) : Int) < ((nodes N D : Nat) : Int) := by omega
      clear hE hg hTD hF hTH hl1 hl3 hl4 hlR hlH hzH hzR hzR' hnD hnR hnn hT hr hs hc hH hk hkH hjH hjD hjR htD
      generalize (⟨(tell N H).toArray⟩ : ByteArray) = th at *
      generalize (⟨(tell N R).toArray⟩ : ByteArray) = tr at *
      generalize nodes N R = nr at *
      generalize nodes N D = nd at *
      generalize depth 10 jD = dd at *
      generalize depth 10 jR = dr at *
      go_enter Tryz.func3, Tryz.ntmps3
      go_wp2_with fail
      refine Calls.mono (H1.out w (Below.refl _ _)) ?_
      rintro e w1 ⟨rfl, b1⟩
      have HB1 : Hid (Below w.heap.size w w1) := b1
      clear b1
      go_wp2_with fail
      refine Calls.mono (HG.out w1 HB1.out) ?_
      rintro e w2 ⟨rfl, b2⟩
      have HB2 : Hid (Below w.heap.size w w2) := HB1.out.trans (b2.mono HB1.out.size)
      clear b2
      go_wp2_with fail
      refine Calls.mono (HL.out w2) ?_
      rintro e w3 ⟨rfl, b3⟩
      have HB3 : Hid (Below w.heap.size w w3) := HB2.out.trans (b3.mono HB2.out.size)
      clear b3
      go_wp2_with fail
      refine Calls.mono (HU.out w3 HB3.out) ?_
      rintro e w4 ⟨rfl, b4⟩
      have HB4 : Hid (Below w.heap.size w w4) := HB3.out.trans (b4.mono HB3.out.size)
      clear b4
      go_wp2_with fail
      refine Calls.mono (HK.out w4 HB4.out) ?_
      rintro e w5 ⟨rfl, b5⟩
      have HB5 : Hid (Below w.heap.size w w5) := HB4.out.trans (b5.mono HB4.out.size)
      clear b5
      go_wp2_with fail
      refine Calls.mono (HZ1.out w5 HB5.out) ?_
      rintro e w6 ⟨rfl, b6⟩
      have HB6 : Hid (Below w.heap.size w w6) := HB5.out.trans (b6.mono HB5.out.size)
      clear b6
      go_wp2_with fail
      refine Calls.mono (HZ2.out w6 HB6.out) ?_
      rintro e w7 ⟨rfl, b7⟩
      have HB7 : Hid (Below w.heap.size w w7) := HB6.out.trans (b7.mono HB6.out.size)
      clear b7
      go_wp2_with fail
      go_ret
      exact ⟨rfl, HB7.out⟩
    · have HK : Hid (Says w 9 #[.string ⟨(tell N H).toArray⟩] (.tuple #[.int .i64 (6 : Nat), .int .i64 0])) := kind_ok2 hzH rfl hjH (hkH.trans hk)
      have hTc := hTD.get hcc
      have hlc := hTc.len
      have hzc : (⟨(tell N c).toArray⟩ : ByteArray).size ≤ 8000000 := by rw [size_arr]; omega
      have HW : Hid (Says w 8 #[.string doc, .string p] (.tuple #[.string ⟨(tell N c).toArray⟩, .int .i64 0])) := by
        refine get_says N hN hE (by omega) (by omega) rfl rfl ?_
        unfold getA
        rw [hr]
        simp only [hs, hcc]
        exact hTc.told
      have HX : Hid (Says w 8 #[.string ⟨(tell N R).toArray⟩, .string p] (.tuple #[.string ByteArray.empty, .int .i64 7])) := by
        refine get_says N hN hE hzR' (by omega) rfl rfl ?_
        unfold getA
        rw [hT.again hN]
        simp only [hs, hno]
      have hpr : putR N R (M ++ [s]) c = .ok D := by
        unfold putR
        rw [if_neg (by simp), List.dropLast_concat]
        have e : (M ++ [s]).getLast?.getD [] = s := by simp
        rw [e]
        refine hput _ (fun m c0 hm e => ?_)
        show lift N m c = c0
        rw [← e, lift_lift _ _ _ _ (Nat.le_trans (depth_bound m c0) hm), lift_self]
      have HP : Hid (Says w 11 #[.string ⟨(tell N R).toArray⟩, .string p, .string ⟨(tell N c).toArray⟩] (.tuple #[.string ⟨(tell N D).toArray⟩, .int .i64 0])) :=
        (put_says N hN (doc := ⟨(tell N R).toArray⟩) (v := ⟨(tell N c).toArray⟩) (G := c) hE hzR' (by omega) hzc (hT.again hN) hs (hTc.again hN) (fun R' e => by rw [hpr] at e; cases e; exact hTD.fine)).mono (by rw [hpr]; exact congrArg _ hTD.told)
      have HC : Hid (Says w 12 #[.string doc] (.tuple #[.string ⟨(tell N D).toArray⟩, .bool true])) := keep_ok hE.tab (by unfold maxLen; omega) rfl hjD htD.symm
      clear hE hg hTD hF hTH hl1 hl3 hl4 hlR hlH hzH hzR hzR' hnD hnR hnn hT hr hs hc hH hk hkH hjH hjD hjR htD hTc hlc hzc hpr hput hno hcc
      generalize (⟨(tell N H).toArray⟩ : ByteArray) = th at *
      generalize (⟨(tell N R).toArray⟩ : ByteArray) = tr at *
      generalize (⟨(tell N c).toArray⟩ : ByteArray) = tc at *
      generalize (⟨(tell N D).toArray⟩ : ByteArray) = td at *
      go_enter Tryz.func3, Tryz.ntmps3
      go_wp2_with fail
      refine Calls.mono (H1.out w (Below.refl _ _)) ?_
      rintro e w1 ⟨rfl, b1⟩
      have HB1 : Hid (Below w.heap.size w w1) := b1
      clear b1
      go_wp2_with fail
      refine Calls.mono (HG.out w1 HB1.out) ?_
      rintro e w2 ⟨rfl, b2⟩
      have HB2 : Hid (Below w.heap.size w w2) := HB1.out.trans (b2.mono HB1.out.size)
      clear b2
      go_wp2_with fail
      refine Calls.mono (HL.out w2) ?_
      rintro e w3 ⟨rfl, b3⟩
      have HB3 : Hid (Below w.heap.size w w3) := HB2.out.trans (b3.mono HB2.out.size)
      clear b3
      go_wp2_with fail
      refine Calls.mono (HU.out w3 HB3.out) ?_
      rintro e w4 ⟨rfl, b4⟩
      have HB4 : Hid (Below w.heap.size w w4) := HB3.out.trans (b4.mono HB3.out.size)
      clear b4
      go_wp2_with fail
      refine Calls.mono (HK.out w4 HB4.out) ?_
      rintro e w5 ⟨rfl, b5⟩
      have HB5 : Hid (Below w.heap.size w w5) := HB4.out.trans (b5.mono HB4.out.size)
      clear b5
      go_wp2_with fail
      refine Calls.mono (HW.out w5 HB5.out) ?_
      rintro e w6 ⟨rfl, b6⟩
      have HB6 : Hid (Below w.heap.size w w6) := HB5.out.trans (b6.mono HB5.out.size)
      clear b6
      go_wp2_with fail
      refine Calls.mono (HX.out w6 HB6.out) ?_
      rintro e w7 ⟨rfl, b7⟩
      have HB7 : Hid (Below w.heap.size w w7) := HB6.out.trans (b7.mono HB6.out.size)
      clear b7
      go_wp2_with fail
      refine Calls.mono (HP.out w7 HB7.out) ?_
      rintro e w8 ⟨rfl, b8⟩
      have HB8 : Hid (Below w.heap.size w w8) := HB7.out.trans (b8.mono HB7.out.size)
      clear b8
      go_wp2_with fail
      refine Calls.mono (HC.out w8 HB8.out) ?_
      rintro e w9 ⟨rfl, b9⟩
      have HB9 : Hid (Below w.heap.size w w9) := HB8.out.trans (b9.mono HB8.out.size)
      clear b9
      go_wp2_with fail
      go_ret
      exact ⟨rfl, HB9.out⟩
end Go.Proofs.YtaogilpkeeigoabGreatDoor
