/- Contracts over this translation: what is cut out where a step leads. -/
import Derived.Test.YthdgfehfoidnbabGreatDoorM10
namespace Go.Proofs.YthdgfehfoidnbabGreatDoor
open Go.RowKit
set_option linter.unusedVariables false
set_option linter.unusedSimpArgs false
theorem heap_one (w : World) (a : Obj) : (w.alloc a).drew.heap[w.heap.size]? = some a ∧ Below w.heap.size w (w.alloc a).drew :=
  ⟨heap_alloc_new w a, ((Below.refl _ w).alloc (Nat.le_refl _) a).drew⟩
theorem concat2L (B : Nat) (w0 w : World) (p q : Value) (a b : Nat) (x y : List Value) (gg : Nat) (h0 : w0.heap.size = B) (hb : Below B w0 w) (hg : w.heap[gg]? = some (.cells #[p, q] 69 (0, 0))) (hp : PartL w p a x) (hq : PartL w q b y) (hm : a + b ≤ 100000) :
    Calls Tryz.prog 41 #[.slice (some ⟨gg, 0, none⟩) 2 2] w fun e w' => ∃ v, e = .returned v ∧ Hid (w'.ownsRow B 36 1 v (a + b) (x ++ y)) ∧ Hid (Below B w0 w') := by
  have hs := hb.size
  rw [h0] at hs
  refine (concatL_any [(p, a, x), (q, b, y)] gg 2 w (by simp) (by simp) (by unfold maxLen; decide) (lt_of_block hg) (fun j t hj => ?_) (fun t ht => ?_) (by simp [manyL]; omega)).mono ?_
  · rw [cell_of_row _ _ _ _ _ _ hg]
    match j, hj with
    | 0, hj => simp at hj; subst hj; rfl
    | 1, hj => simp at hj; subst hj; rfl
    | j + 2, hj => simp at hj
  · simp at ht
    rcases ht with rfl | rfl
    · exact hp
    · exact hq
  · rintro e w1 ⟨v, rfl, hown, b1⟩
    refine ⟨v, rfl, ?_, hb.trans (b1.mono hs)⟩
    have h2 : manyL [(p, a, x), (q, b, y)] = a + b := by simp [manyL]
    have h3 : allL [(p, a, x), (q, b, y)] = x ++ y := by simp [allL]
    rw [h2, h3] at hown
    exact own_base hown hs
theorem concat2O (B : Nat) (w0 w : World) (p q : Value) (a b : Nat) (x y : List Value) (gg : Nat) (h0 : w0.heap.size = B) (hb : Below B w0 w) (hg : w.heap[gg]? = some (.cells #[p, q] 66 (0, 0))) (hp : PartO w p a x) (hq : PartO w q b y) (hm : a + b ≤ 100000) :
    Calls Tryz.prog 39 #[.slice (some ⟨gg, 0, none⟩) 2 2] w fun e w' => ∃ v, e = .returned v ∧ Hid (w'.ownsRow B 75 2 v (a + b) (x ++ y)) ∧ Hid (Below B w0 w') := by
  have hs := hb.size
  rw [h0] at hs
  refine (concatO_any [(p, a, x), (q, b, y)] gg 2 w (by simp) (by simp) (by unfold maxLen; decide) (lt_of_block hg) (fun j t hj => ?_) (fun t ht => ?_) (by simp [manyO]; omega)).mono ?_
  · rw [cell_of_row _ _ _ _ _ _ hg]
    match j, hj with
    | 0, hj => simp at hj; subst hj; rfl
    | 1, hj => simp at hj; subst hj; rfl
    | j + 2, hj => simp at hj
  · simp at ht
    rcases ht with rfl | rfl
    · exact hp
    · exact hq
  · rintro e w1 ⟨v, rfl, hown, b1⟩
    refine ⟨v, rfl, ?_, hb.trans (b1.mono hs)⟩
    have h2 : manyO [(p, a, x), (q, b, y)] = a + b := by simp [manyO]
    have h3 : allO [(p, a, x), (q, b, y)] = x ++ y := by simp [allO]
    rw [h2, h3] at hown
    exact own_base hown hs
theorem cutCallL {n : Nat} (xs : List (J n)) (g cap k bh d : Nat) (us : List Value) (w w1 : World) (hb : Below w.heap.size w w1) (hg : g < w.heap.size) (hlc : xs.length ≤ cap) (hI : Items w xs us) (hcell : ∀ (i : Nat) (u : Value), us[i]? = some u → w.cell? ⟨g, i, none⟩ = some u) (hl : xs.length ≤ 2000) (hk : k ≤ xs.length) (hbh : bh ≤ xs.length) (hd' : d = xs.length - bh) (A : Addr) (hA : (if cap = bh then some (⟨g, 0, none⟩ : Addr) else some ⟨g, bh, none⟩) = some A) :
    Calls Tryz.prog 41 #[.slice (some ⟨w1.heap.size, 0, none⟩) 2 2] (w1.alloc (.cells #[.slice (some ⟨g, 0, none⟩) k cap, .slice (some A) d (cap - bh)] 69)).drew
      fun e w' => ∃ q m cc, e = .returned (.slice q m cc) ∧ Hid (S0 w' (n + 1) (Sum.inr (Sum.inl (xs.take k ++ xs.drop bh))) (.iface 69 (.slice q m cc))) ∧ Hid (Below w.heap.size w w') := by
  obtain ⟨e2, e3⟩ := heap_one w1 (.cells #[.slice (some ⟨g, 0, none⟩) k cap, .slice (some A) d (cap - bh)] 69)
  have hbw : Below w.heap.size w _ := hb.trans (e3.mono hb.size)
  generalize (w1.alloc (.cells #[.slice (some ⟨g, 0, none⟩) k cap, .slice (some A) d (cap - bh)] 69)).drew = W at *
  have hgW : g < W.heap.size := by have := hbw.size; omega
  have hcW : ∀ (i : Nat) (u : Value), us[i]? = some u → W.cell? ⟨g, i, none⟩ = some u := fun i u hu => by
    rw [hbw.cell (p := ⟨g, i, none⟩) hg]
    exact hcell i u hu
  refine (concat2L w.heap.size w W _ _ k d (us.take k) (us.drop bh) w1.heap.size rfl hbw e2 (part_takeL hgW hI.1 hI.2.1 hcW hk) (part_behindL hgW hI.1 hI.2.1 hcW hbh hlc hd' hA) (by omega)).mono ?_
  rintro e w2 ⟨v, rfl, hown, hb2⟩
  obtain ⟨q, m, cc, rfl⟩ := own_shape hown.out
  refine ⟨q, m, cc, rfl, ?_, hb2⟩
  have hI2 : Items w2 (xs.take k ++ xs.drop bh) (us.take k ++ us.drop bh) := ((hI.take k).append (hI.drop bh)).below hb2.out
  exact st_of_ownsL hown.out (by simp; omega) hI2
theorem cutCallO {n : Nat} (fs : List (Bs × J n)) (g cap k bh d : Nat) (us : List Value) (w w1 : World) (hb : Below w.heap.size w w1) (hg : g < w.heap.size) (hlc : fs.length ≤ cap) (hI : FItems w fs us) (hF : Fields w g fs us) (hl : fs.length ≤ 2000) (hk : k ≤ fs.length) (hbh : bh ≤ fs.length) (hd' : d = fs.length - bh) (A : Addr) (hA : (if cap = bh then some (⟨g, 0, none⟩ : Addr) else some ⟨g, bh * 2, none⟩) = some A) :
    Calls Tryz.prog 39 #[.slice (some ⟨w1.heap.size, 0, none⟩) 2 2] (w1.alloc (.cells #[.slice (some ⟨g, 0, none⟩) k cap, .slice (some A) d (cap - bh)] 66)).drew
      fun e w' => ∃ q m cc, e = .returned (.slice q m cc) ∧ Hid (S0 w' (n + 1) (Sum.inr (Sum.inr (fs.take k ++ fs.drop bh))) (.iface 66 (.slice q m cc))) ∧ Hid (Below w.heap.size w w') := by
  obtain ⟨e2, e3⟩ := heap_one w1 (.cells #[.slice (some ⟨g, 0, none⟩) k cap, .slice (some A) d (cap - bh)] 66)
  have hbw : Below w.heap.size w _ := hb.trans (e3.mono hb.size)
  generalize (w1.alloc (.cells #[.slice (some ⟨g, 0, none⟩) k cap, .slice (some A) d (cap - bh)] 66)).drew = W at *
  have hgW : g < W.heap.size := by have := hbw.size; omega
  refine (concat2O w.heap.size w W _ _ k d (cellsF (fs.take k) (us.take k)) (cellsF (fs.drop bh) (us.drop bh)) w1.heap.size rfl hbw e2 (part_takeO hgW (hI.below hbw) (hF.below hbw hg) hk) (part_behindO hgW (hI.below hbw) (hF.below hbw hg) hbh hlc hd' hA) (by omega)).mono ?_
  rintro e w2 ⟨v, rfl, hown, hb2⟩
  obtain ⟨q, m, cc, rfl⟩ := own_shape hown.out
  refine ⟨q, m, cc, rfl, ?_, hb2⟩
  have hI2 : FItems w2 (fs.take k ++ fs.drop bh) (us.take k ++ us.drop bh) := ((hI.take k).append (hI.drop bh)).below hb2.out
  have hown' := hown.out
  rw [← cellsF_append _ _ _ _ (hI.take k).1] at hown'
  exact st_of_ownsO hown' (by simp; omega) hI2
set_option maxRecDepth 100000 in
set_option maxHeartbeats 1000000 in
theorem cut_leaf (l : Leaf) (s : ByteArray) (w : World) : Calls Tryz.prog 25 #[leafV l, .string s] w fun e w' => e = .returned (.tuple #[.nilIface, .int .i64 7]) ∧ Below w.heap.size w w' := by
  match l with
  | none =>
    obtain ⟨a1, a2, a3, a4, a5, a6⟩ := tas_Null
    unfold leafV
    go_enter Tryz.func25, Tryz.ntmps25
    go_wp2_with fail
    go_ret2
    exact ⟨rfl, Below.refl _ _⟩
  | some (Sum.inl b) =>
    obtain ⟨a1, a2, a3, a4, a5, a6⟩ := tas_Bool
    unfold leafV
    go_enter Tryz.func25, Tryz.ntmps25
    go_wp2_with fail
    go_ret2
    exact ⟨rfl, Below.refl _ _⟩
  | some (Sum.inr (Sum.inl i)) =>
    obtain ⟨a1, a2, a3, a4, a5, a6⟩ := tas_Number
    unfold leafV
    go_enter Tryz.func25, Tryz.ntmps25
    go_wp2_with fail
    go_ret2
    exact ⟨rfl, Below.refl _ _⟩
  | some (Sum.inr (Sum.inr t)) =>
    obtain ⟨a1, a2, a3, a4, a5, a6⟩ := tas_Text
    unfold leafV
    go_enter Tryz.func25, Tryz.ntmps25
    go_wp2_with fail
    go_ret2
    exact ⟨rfl, Below.refl _ _⟩
set_option maxRecDepth 100000 in
set_option maxHeartbeats 4000000 in
theorem cut_itemAt {n : Nat} (xs : List (J n)) (g cap : Nat) (us : List Value) (s : ByteArray) (w : World) (hg : g < w.heap.size) (hlc : xs.length ≤ cap) (hcm : cap ≤ maxLen) (hI : Items w xs us) (hcell : ∀ (i : Nat) (u : Value), us[i]? = some u → w.cell? ⟨g, i, none⟩ = some u) (hl : xs.length ≤ 2000) (hs : s.size ≤ 8000000) (hE : Env w) (k : Nat) (hpl : placeP s.data.toList = some k) (hk : k < xs.length) :
    Calls Tryz.prog 25 #[.iface 69 (.slice (some ⟨g, 0, none⟩) xs.length cap), .string s] w (MadePost (n + 1) (.ok (Sum.inr (Sum.inl (xs.take k ++ xs.drop (k + 1))))) w) := by
  obtain ⟨a1, a2, a3, a4, a5, a6⟩ := tas_List
  unfold maxLen at hcm
  have HP : Hid (Calls Tryz.prog 40 #[.string s] w fun e w' => e = .returned (.tuple #[.int .i64 (k : Int), .bool true]) ∧ Below w.heap.size w w') := by
    refine (place_any s w hs hE).mono ?_
    rintro e w1 ⟨b1, h1⟩
    rcases h1 with ⟨i, hi, _, rfl⟩ | ⟨m, hm, rfl⟩
    · rw [hpl] at hi
      cases hi
      exact ⟨rfl, b1⟩
    · rw [hpl] at hm
      cases hm
  obtain ⟨A, hA⟩ := named_if (cap = k + 1) ⟨g, 0, none⟩ ⟨g, k + 1, none⟩
  have HC : Hid (∀ w1, Below w.heap.size w w1 → Calls Tryz.prog 41 #[.slice (some ⟨w1.heap.size, 0, none⟩) 2 2] (w1.alloc (.cells #[.slice (some ⟨g, 0, none⟩) k cap, .slice (some A) (xs.length - (k + 1)) (cap - (k + 1))] 69)).drew
      fun e w' => ∃ q m cc, e = .returned (.slice q m cc) ∧ Hid (S0 w' (n + 1) (Sum.inr (Sum.inl (xs.take k ++ xs.drop (k + 1)))) (.iface 69 (.slice q m cc))) ∧ Hid (Below w.heap.size w w')) :=
    fun w1 hb => cutCallL xs g cap k (k + 1) (xs.length - (k + 1)) us w w1 hb hg hlc hI hcell hl (by omega) (by omega) (by omega) A hA
  have hgt : decide ((k : Int) < (xs.length : Int)) = true := decide_eq_true (by omega)
  have hgt2 : (k : Int) < (xs.length : Int) := by omega
  have hw1 : IntKind.i64.wrap (k : Int) = (k : Int) := wrap_nat _ (by omega)
  have hw2 : IntKind.i64.wrap ((k : Int) + 1) = (k : Int) + 1 := by rw [IntKind.wrap_i64]; omega
  have h1 : (k : Int) + 1 ≤ (xs.length : Int) := by omega
  have h2 : (0 : Int) ≤ (k : Int) + 1 := by omega
  have h3 : ((k : Int) + 1).toNat = k + 1 := by omega
  have h4 : (k : Int) ≤ (cap : Int) := by omega
  clear hI hcell hE hpl
  obtain ⟨R, hR⟩ : ∃ R, R = xs.take k ++ xs.drop (k + 1) := ⟨_, rfl⟩
  rw [← hR] at HC ⊢
  clear hR
  generalize xs.length = len at *
  go_enter Tryz.func25, Tryz.ntmps25
  go_wp2_with fail
  refine Calls.mono HP.out ?_
  rintro e w1 ⟨rfl, b1⟩
  have HB : Hid (Below w.heap.size w w1) := b1
  clear b1
  go_wp2_with fail
  go_region_with (go_at_call 41; refine Calls.mono (HC.out w1 HB.out) ?_; rintro e w3 ⟨q, m, cc, rfl, HS, HB3⟩)
  all_goals (go_wp2_with fail; go_ret2)
  all_goals exact ⟨HB3.out, Or.inr ⟨_, _, _, rfl, rfl, HS.out⟩⟩
set_option maxRecDepth 100000 in
set_option maxHeartbeats 4000000 in
theorem cut_itemNone {n : Nat} (xs : List (J n)) (p : Option Addr) (cap : Nat) (s : ByteArray) (w : World) (hs : s.size ≤ 8000000) (hE : Env w) (hpl : ∀ k, placeP s.data.toList = some k → xs.length ≤ k) :
    Calls Tryz.prog 25 #[.iface 69 (.slice p xs.length cap), .string s] w (MadePost (n + 1) (.error 7) w) := by
  obtain ⟨a1, a2, a3, a4, a5, a6⟩ := tas_List
  have HP : Hid (Calls Tryz.prog 40 #[.string s] w fun e w' => ∃ (k : Int) (b : Bool), e = .returned (.tuple #[.int .i64 k, .bool b]) ∧ (b = false ∨ b = true ∧ decide (k < (xs.length : Int)) = false) ∧ Below w.heap.size w w') := by
    refine (place_any s w hs hE).mono ?_
    rintro e w1 ⟨b1, h1⟩
    rcases h1 with ⟨i, hi, _, rfl⟩ | ⟨m, hm, rfl⟩
    · exact ⟨i, true, rfl, Or.inr ⟨rfl, decide_eq_false (by have := hpl i hi; omega)⟩, b1⟩
    · exact ⟨m, false, rfl, Or.inl rfl, b1⟩
  clear hE hpl
  generalize xs.length = len at *
  go_enter Tryz.func25, Tryz.ntmps25
  go_wp2_with fail
  refine Calls.mono HP.out ?_
  rintro e w1 ⟨k, b, rfl, hb, b1⟩
  have HB : Hid (Below w.heap.size w w1) := b1
  clear b1
  rcases hb with rfl | ⟨rfl, hlt⟩
  · go_wp2_with fail
    go_ret2
    exact ⟨HB.out, Or.inl ⟨7, rfl, by decide, by decide, rfl⟩⟩
  · have hlt2 : ¬ k < (len : Int) := of_decide_eq_false hlt
    go_wp2_with fail
    go_ret2
    exact ⟨HB.out, Or.inl ⟨7, rfl, by decide, by decide, rfl⟩⟩
set_option maxRecDepth 100000 in
set_option maxHeartbeats 4000000 in
theorem cut_fieldAt {n : Nat} (fs : List (Bs × J n)) (g cap : Nat) (us : List Value) (s : ByteArray) (w : World) (hg : g < w.heap.size) (hlc : fs.length ≤ cap) (hcm : cap ≤ maxLen) (hI : FItems w fs us) (hF : Fields w g fs us) (hr : Rising fs) (hl : fs.length ≤ 2000) (ha : (fs.any fun f => f.1 == s.data.toList) = true) :
    Calls Tryz.prog 25 #[.iface 66 (.slice (some ⟨g, 0, none⟩) fs.length cap), .string s] w (MadePost (n + 1) (.ok (Sum.inr (Sum.inr (cutAt fs s.data.toList)))) w) := by
  obtain ⟨a1, a2, a3, a4, a5, a6⟩ := tas_Object
  have hFi := find_any g cap fs us s w hF hg hr hl hlc hcm
  rw [ha] at hFi
  obtain ⟨hlt, hfq⟩ := field_idx hr ha
  clear hfq
  have hset : cutAt fs s.data.toList = fs.take (placeOfName fs s.data.toList) ++ fs.drop (placeOfName fs s.data.toList + 1) := rfl
  unfold maxLen at hcm
  obtain ⟨k, hk⟩ : ∃ k, placeOfName fs s.data.toList = k := ⟨_, rfl⟩
  rw [hk] at hFi hset hlt
  obtain ⟨A, hA⟩ := named_if (cap = k + 1) ⟨g, 0, none⟩ ⟨g, (k + 1) * 2, none⟩
  have HC : Hid (∀ w1, Below w.heap.size w w1 → Calls Tryz.prog 39 #[.slice (some ⟨w1.heap.size, 0, none⟩) 2 2] (w1.alloc (.cells #[.slice (some ⟨g, 0, none⟩) k cap, .slice (some A) (fs.length - (k + 1)) (cap - (k + 1))] 66)).drew
      fun e w' => ∃ q m cc, e = .returned (.slice q m cc) ∧ Hid (S0 w' (n + 1) (Sum.inr (Sum.inr (cutAt fs s.data.toList))) (.iface 66 (.slice q m cc))) ∧ Hid (Below w.heap.size w w')) := by
    intro w1 hb
    rw [hset]
    exact cutCallO fs g cap k (k + 1) (fs.length - (k + 1)) us w w1 hb hg hlc hI hF hl (by omega) (by omega) rfl A hA
  have HFi : Hid (Calls Tryz.prog 38 #[.slice (some ⟨g, 0, none⟩) fs.length cap, .string s] w fun e w' => e = .returned (.tuple #[.int .i64 k, .bool true]) ∧ Below w.heap.size w w') := hFi
  have hw1 : IntKind.i64.wrap (k : Int) = (k : Int) := wrap_nat _ (by omega)
  have hw2 : IntKind.i64.wrap ((k : Int) + 1) = (k : Int) + 1 := by rw [IntKind.wrap_i64]; omega
  have h1 : (k : Int) + 1 ≤ (fs.length : Int) := by omega
  have h2 : (0 : Int) ≤ (k : Int) + 1 := by omega
  have h3 : ((k : Int) + 1).toNat = k + 1 := by omega
  have h4 : (k : Int) ≤ (cap : Int) := by omega
  clear hI hF hFi hset hk ha hr
  generalize cutAt fs s.data.toList = R at *
  generalize fs.length = len at *
  go_enter Tryz.func25, Tryz.ntmps25
  go_wp2_with fail
  refine Calls.mono HFi.out ?_
  rintro e w1 ⟨rfl, b1⟩
  have HB : Hid (Below w.heap.size w w1) := b1
  clear b1
  go_wp2_with fail
  go_region_with (go_at_call 39; refine Calls.mono (HC.out w1 HB.out) ?_; rintro e w3 ⟨q, m, cc, rfl, HS, HB3⟩)
  all_goals (go_wp2_with fail; go_ret2)
  all_goals exact ⟨HB3.out, Or.inr ⟨_, _, _, rfl, rfl, HS.out⟩⟩
set_option maxRecDepth 100000 in
set_option maxHeartbeats 4000000 in
theorem cut_fieldNone {n : Nat} (p : Option Addr) (len cap : Nat) (s : ByteArray) (w : World) (hFi : Calls Tryz.prog 38 #[.slice p len cap, .string s] w fun e w' => ∃ k : Nat, e = .returned (.tuple #[.int .i64 k, .bool false]) ∧ Below w.heap.size w w') :
    Calls Tryz.prog 25 #[.iface 66 (.slice p len cap), .string s] w (MadePost (n + 1) (.error 7) w) := by
  obtain ⟨a1, a2, a3, a4, a5, a6⟩ := tas_Object
  have HFi : Hid (Calls Tryz.prog 38 #[.slice p len cap, .string s] w fun e w' => ∃ k : Nat, e = .returned (.tuple #[.int .i64 k, .bool false]) ∧ Below w.heap.size w w') := hFi
  clear hFi
  go_enter Tryz.func25, Tryz.ntmps25
  go_wp2_with fail
  refine Calls.mono HFi.out ?_
  rintro e w1 ⟨k, rfl, b1⟩
  have HB : Hid (Below w.heap.size w w1) := b1
  clear b1
  go_wp2_with fail
  go_ret2
  exact ⟨HB.out, Or.inl ⟨7, rfl, by decide, by decide, rfl⟩⟩
theorem cut_any {n : Nat} (j : J (n + 1)) (v : Value) (s : ByteArray) (w : World) (hSt : S0 w (n + 1) j v) (hr : Rise (n + 1) j) (hn : nodes (n + 1) j ≤ 2000) (hs : s.size ≤ 8000000) (hE : Env w) :
    Calls Tryz.prog 25 #[v, .string s] w (MadePost (n + 1) (cutE j s.data.toList) w) := by
  match j, hSt, hr, hn with
  | Sum.inl l, hSt, hr, hn =>
    have e : v = leafV l := hSt
    subst e
    refine (cut_leaf l s w).mono ?_
    rintro e w1 ⟨rfl, b1⟩
    exact ⟨b1, Or.inl ⟨7, rfl, by decide, by decide, rfl⟩⟩
  | Sum.inr (Sum.inl xs), hSt, hr, hn =>
    have hl : xs.length ≤ 2000 := by have := len_nodes_list xs; omega
    obtain ⟨p, g, cap, us, rfl, hp, hlc, hcm, hI, hcell⟩ := hSt.items
    have hc : cutE (Sum.inr (Sum.inl xs) : J (n + 1)) s.data.toList = match placeP s.data.toList with
      | none => .error eNone
      | some i => if i < xs.length then .ok (Sum.inr (Sum.inl (xs.take i ++ xs.drop (i + 1)))) else .error eNone := rfl
    rw [hc]
    cases hpl : placeP s.data.toList with
    | none => exact cut_itemNone xs p cap s w hs hE (fun k h => by rw [hpl] at h; cases h)
    | some k =>
      simp only []
      by_cases hk : k < xs.length
      · rw [if_pos hk]
        rcases hp with ⟨rfl, rfl, rfl⟩ | ⟨rfl, hg⟩
        · simp at hk
        · exact cut_itemAt xs g cap us s w hg hlc hcm hI hcell hl hs hE k hpl hk
      · rw [if_neg hk]
        exact cut_itemNone xs p cap s w hs hE (fun k' h => by rw [hpl] at h; cases h; omega)
  | Sum.inr (Sum.inr fs), hSt, hr, hn =>
    have hl : fs.length ≤ 2000 := by have := len_nodes_obj fs; omega
    obtain ⟨p, g, cap, us, rfl, hp, hlc, hcm, hI, hF⟩ := hSt.fitems
    have hc : cutE (Sum.inr (Sum.inr fs) : J (n + 1)) s.data.toList = if fs.any (fun f => f.1 == s.data.toList) then .ok (Sum.inr (Sum.inr (cutAt fs s.data.toList))) else .error eNone := rfl
    rw [hc]
    cases ha : (fs.any fun f => f.1 == s.data.toList) with
    | true =>
      rw [if_pos rfl]
      rcases hp with ⟨rfl, rfl, rfl⟩ | ⟨rfl, hg⟩
      · simp at ha
      · exact cut_fieldAt fs g cap us s w hg hlc hcm hI hF hr.1 hl ha
    | false =>
      rw [if_neg (by decide)]
      refine cut_fieldNone p _ cap s w ?_
      rcases hp with ⟨rfl, rfl, rfl⟩ | ⟨rfl, hg⟩
      · refine (find_nil s w).mono ?_
        rintro e w1 ⟨rfl, b1⟩
        exact ⟨0, rfl, b1⟩
      · refine (find_any g cap fs us s w hF hg hr.1 hl hlc hcm).mono ?_
        rintro e w1 ⟨rfl, b1⟩
        exact ⟨_, by rw [ha], b1⟩
end Go.Proofs.YthdgfehfoidnbabGreatDoor
