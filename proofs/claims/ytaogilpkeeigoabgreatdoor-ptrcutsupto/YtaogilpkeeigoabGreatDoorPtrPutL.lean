/- Contracts over this translation: what is put into a list. -/
import Derived.Test.YtaogilpkeeigoabGreatDoorPtrLead
import Derived.Test.YtaogilpkeeigoabGreatDoorConcatL
import Derived.Deep.RegionWith
import Derived.RegionTactic
namespace Go.Proofs.YtaogilpkeeigoabGreatDoor
open Go.RowKit
set_option linter.unusedVariables false
set_option linter.unusedSimpArgs false
/-- a value in memory that nobody writes any more -/
abbrev S0 (w : World) (n : Nat) (j : J n) (v : Value) : Prop := St (fun _ => False) w n j v
theorem St.s0 {av : Nat → Prop} {w : World} {n : Nat} {j : J n} {v : Value} (h : St av w n j v) : S0 w n j v := h.mono (fun c _ hf => hf.elim)
/-- the values of a list in memory -/
def Items {n : Nat} (w : World) (ys : List (J n)) (us : List Value) : Prop := us.length = ys.length ∧ (∀ u ∈ us, u.oneCell' = true) ∧ ∀ (i : Nat) (y : J n) (u : Value), ys[i]? = some y → us[i]? = some u → S0 w n y u
theorem Items.below {n : Nat} {w w' : World} {ys : List (J n)} {us : List Value} (h : Items w ys us) (hb : Below w.heap.size w w') : Items w' ys us :=
  ⟨h.1, h.2.1, fun i y u hy hu => (h.2.2 i y u hy hu).on hb⟩
theorem Items.take {n : Nat} {w : World} {ys : List (J n)} {us : List Value} (h : Items w ys us) (k : Nat) : Items w (ys.take k) (us.take k) := by
  refine ⟨by simp [h.1], fun u hu => h.2.1 u (List.mem_of_mem_take hu), fun i y u hy hu => ?_⟩
  rw [List.getElem?_take] at hy hu
  split at hy
  · rename_i hlt
    rw [if_pos hlt] at hu
    exact h.2.2 i y u hy hu
  · cases hy
theorem Items.drop {n : Nat} {w : World} {ys : List (J n)} {us : List Value} (h : Items w ys us) (k : Nat) : Items w (ys.drop k) (us.drop k) := by
  refine ⟨by simp [h.1], fun u hu => h.2.1 u (List.mem_of_mem_drop hu), fun i y u hy hu => ?_⟩
  rw [List.getElem?_drop] at hy hu
  exact h.2.2 _ y u hy hu
theorem Items.append {n : Nat} {w : World} {ys zs : List (J n)} {us ts : List Value} (h : Items w ys us) (g : Items w zs ts) : Items w (ys ++ zs) (us ++ ts) := by
  refine ⟨by simp [h.1, g.1], fun u hu => ?_, fun i y u hy hu => ?_⟩
  · rcases List.mem_append.1 hu with hu | hu
    · exact h.2.1 u hu
    · exact g.2.1 u hu
  · rcases Nat.lt_or_ge i ys.length with hlt | hge
    · rw [List.getElem?_append_left hlt] at hy
      rw [List.getElem?_append_left (by rw [h.1]; exact hlt)] at hu
      exact h.2.2 i y u hy hu
    · rw [List.getElem?_append_right hge] at hy
      rw [List.getElem?_append_right (by rw [h.1]; exact hge), h.1] at hu
      exact g.2.2 _ y u hy hu
theorem items_one {n : Nat} {w : World} {y : J n} {T : TypeId} {x : Value} (h : S0 w n y (.iface T x)) : Items w [y] [.iface T x] := by
  refine ⟨rfl, fun u hu => by simp at hu; subst hu; rfl, fun i z u hz hu => ?_⟩
  cases i with
  | zero =>
    simp at hz hu
    subst hz; subst hu
    exact h
  | succ i => simp at hz
/-- a list in memory, its values beside it -/
theorem St.items {av : Nat → Prop} {w : World} {n : Nat} {xs : List (J n)} {v : Value} (h : St av w (n + 1) (Sum.inr (Sum.inl xs)) v) : ∃ (p : Option Addr) (g cap : Nat) (us : List Value), v = .iface 78 (.slice p xs.length cap) ∧ ((p = none ∧ xs = [] ∧ cap = 0) ∨ (p = some ⟨g, 0, none⟩ ∧ g < w.heap.size)) ∧ xs.length ≤ cap ∧ cap ≤ maxLen ∧ Items w xs us ∧ ∀ (i : Nat) (u : Value), us[i]? = some u → w.cell? ⟨g, i, none⟩ = some u := by
  rcases h with ⟨rfl, rfl⟩ | ⟨g, cap, vs, hv, hl, hc, hm, hg, hlt, hcell, hel⟩
  · exact ⟨none, 0, 0, [], rfl, Or.inl ⟨rfl, rfl, rfl⟩, Nat.le_refl _, Nat.zero_le _, ⟨rfl, fun u hu => by simp at hu, fun i y u hy => by simp at hy⟩, fun i u hu => by simp at hu⟩
  · refine ⟨_, g, cap, vs, hv, Or.inr ⟨rfl, hlt⟩, hc, hm, ⟨hl, fun u hu => ?_, fun i y u hy hu => (hel i y u hy hu).s0⟩, hcell⟩
    obtain ⟨i, hi, rfl⟩ := List.getElem_of_mem hu
    obtain ⟨T, x, hx⟩ := st_iface (hel i xs[i] vs[i] (List.getElem?_eq_getElem (by omega)) (List.getElem?_eq_getElem hi))
    rw [hx]
    rfl
theorem own_base {w : World} {B b size m : Nat} {e : TypeId} {v : Value} {xs : List Value} (h : w.ownsRow b e size v m xs) (hb : B ≤ b) : w.ownsRow B e size v m xs := by
  obtain ⟨h1, h2⟩ := h
  refine ⟨h1, ?_⟩
  rcases h2 with h2 | ⟨g, cap, cur, h3, h4, h5⟩
  · exact Or.inl h2
  · exact Or.inr ⟨g, cap, cur, h3, by omega, h5⟩
theorem own_shape {w : World} {b size m : Nat} {e : TypeId} {v : Value} {xs : List Value} (h : w.ownsRow b e size v m xs) : ∃ q k cc, v = .slice q k cc := by
  rcases h.2 with ⟨rfl, _⟩ | ⟨g, cap, cur, rfl, _⟩
  · exact ⟨_, _, _, rfl⟩
  · exact ⟨_, _, _, rfl⟩
theorem st_of_ownsL {n B m : Nat} {w : World} {ys : List (J n)} {us : List Value} {v : Value} (h : w.ownsRow B 40 1 v m us) (hm : m = ys.length) (hi : Items w ys us) : S0 w (n + 1) (Sum.inr (Sum.inl ys)) (.iface 78 v) := by
  subst hm
  obtain ⟨_, h2⟩ := h
  rcases h2 with ⟨rfl, h0⟩ | ⟨g, cap, cur, rfl, hb, hh, h1, h3, h4, h5⟩
  · exact Or.inl ⟨List.eq_nil_of_length_eq_zero h0, rfl⟩
  · refine Or.inr ⟨g, cap, us, rfl, hi.1, h1, h3, fun hf => hf, lt_of_block hh, fun i u hu => ?_, hi.2.2⟩
    rw [cell_of_row _ _ _ _ _ _ hh]
    have hlt : i < us.length := (List.getElem?_eq_some_iff.1 hu).1
    have h6 : (cur.toList.take (ys.length * 1))[i]? = us[i]? := by rw [h5]
    rw [List.getElem?_take, if_pos (by have := hi.1; omega), Array.getElem?_toList, hu] at h6
    exact h6
theorem part_takeL {w : World} {g n cap k : Nat} {us : List Value} (hg : g < w.heap.size) (hl : us.length = n) (h1 : ∀ u ∈ us, u.oneCell' = true) (hc : ∀ (i : Nat) (u : Value), us[i]? = some u → w.cell? ⟨g, i, none⟩ = some u) (hk : k ≤ n) : PartL w (.slice (some ⟨g, 0, none⟩) k cap) k (us.take k) := by
  refine ⟨by rw [List.length_take, hl]; omega, fun u hu => h1 u (List.mem_of_mem_take hu), Or.inr ⟨g, 0, cap, rfl, fun _ => hg, fun j u hj => ?_⟩⟩
  rw [List.getElem?_take] at hj
  split at hj
  · rw [Nat.zero_add]
    exact hc j u hj
  · cases hj
theorem part_dropL {w : World} {g n cap k : Nat} {us : List Value} (hg : g < w.heap.size) (hl : us.length = n) (h1 : ∀ u ∈ us, u.oneCell' = true) (hc : ∀ (i : Nat) (u : Value), us[i]? = some u → w.cell? ⟨g, i, none⟩ = some u) (hk : k ≤ n) : PartL w (.slice (some ⟨g, k, none⟩) (n - k) cap) (n - k) (us.drop k) := by
  refine ⟨by rw [List.length_drop, hl]; omega, fun u hu => h1 u (List.mem_of_mem_drop hu), Or.inr ⟨g, k, cap, rfl, fun _ => hg, fun j u hj => ?_⟩⟩
  rw [List.getElem?_drop] at hj
  exact hc _ u hj
theorem part_endL {w : World} {g o cap : Nat} : PartL w (.slice (some ⟨g, o, none⟩) 0 cap) 0 [] :=
  ⟨rfl, fun u hu => by simp at hu, Or.inr ⟨g, o, cap, rfl, fun h => absurd h (Nat.lt_irrefl _), fun j u hj => by simp at hj⟩⟩
theorem part_nilL {w : World} : PartL w (.slice none 0 0) 0 [] := ⟨rfl, fun u hu => by simp at hu, Or.inl ⟨rfl, rfl⟩⟩
theorem part_newL {w : World} {g : Nat} {T : TypeId} {x : Value} (h : w.cell? ⟨g, 0, none⟩ = some (.iface T x)) (hg : g < w.heap.size) : PartL w (.slice (some ⟨g, 0, none⟩) 1 1) 1 [.iface T x] := by
  refine ⟨rfl, fun u hu => by simp at hu; subst hu; rfl, Or.inr ⟨g, 0, 1, rfl, fun _ => hg, fun j u hj => ?_⟩⟩
  cases j with
  | zero =>
    simp at hj
    subst hj
    exact h
  | succ j => simp at hj
theorem wrap_nat (n : Nat) (h : n ≤ 9223372036854775807) : IntKind.i64.wrap (n : Int) = (n : Int) := by
  rw [IntKind.wrap_i64]
  omega
/-- three slices put together, their own slice at block gg -/
theorem concat3L (B : Nat) (w0 w : World) (p q r : Value) (a b c : Nat) (x y z : List Value) (gg : Nat) (h0 : w0.heap.size = B) (hb : Below B w0 w) (hg : w.heap[gg]? = some (.cells #[p, q, r] 78 (0, 0))) (hp : PartL w p a x) (hq : PartL w q b y) (hr : PartL w r c z) (hm : a + b + c ≤ 100000) :
    Calls Tryz.prog 57 #[.slice (some ⟨gg, 0, none⟩) 3 3] w fun e w' => ∃ v, e = .returned v ∧ Hid (w'.ownsRow B 40 1 v (a + b + c) (x ++ y ++ z)) ∧ Hid (Below B w0 w') := by
  have hs := hb.size
  rw [h0] at hs
  refine (concatL_any [(p, a, x), (q, b, y), (r, c, z)] gg 3 w (by simp) (by simp) (by unfold maxLen; decide) (lt_of_block hg) (fun j t hj => ?_) (fun t ht => ?_) (by simp [manyL]; omega)).mono ?_
  · rw [cell_of_row _ _ _ _ _ _ hg]
    match j, hj with
    | 0, hj => simp at hj; subst hj; rfl
    | 1, hj => simp at hj; subst hj; rfl
    | 2, hj => simp at hj; subst hj; rfl
    | j + 3, hj => simp at hj
  · simp at ht
    rcases ht with rfl | rfl | rfl
    · exact hp
    · exact hq
    · exact hr
  · rintro e w1 ⟨v, rfl, hown, b1⟩
    refine ⟨v, rfl, ?_, hb.trans (b1.mono hs)⟩
    have h2 : manyL [(p, a, x), (q, b, y), (r, c, z)] = a + b + c := by simp [manyL]; omega
    have h3 : allL [(p, a, x), (q, b, y), (r, c, z)] = x ++ y ++ z := by simp [allL]
    rw [h2, h3] at hown
    exact own_base hown hs
/-- what is known of what was put into a list -/
def PutLPost {n : Nat} (o : Option (List (J n))) (w : World) (e : Ending) (w' : World) : Prop :=
  Below w.heap.size w w' ∧ ((o = none ∧ e = .returned (.tuple #[.nilIface, .int .i64 7])) ∨ ∃ ys T x, o = some ys ∧ e = .returned (.tuple #[.iface T x, .int .i64 0]) ∧ S0 w' (n + 1) (Sum.inr (Sum.inl ys)) (.iface T x))
theorem part_behindL {w : World} {g n cap k d : Nat} {us : List Value} (hg : g < w.heap.size) (hl : us.length = n) (h1 : ∀ u ∈ us, u.oneCell' = true) (hc : ∀ (i : Nat) (u : Value), us[i]? = some u → w.cell? ⟨g, i, none⟩ = some u) (hk : k ≤ n) (hn : n ≤ cap) (hd' : d = n - k) {A : Addr} (hA : (if cap = k then some (⟨g, 0, none⟩ : Addr) else some ⟨g, k, none⟩) = some A) :
    PartL w (.slice (some A) d (cap - k)) d (us.drop k) := by
  subst hd'
  split at hA
  · rename_i h
    cases hA
    have h0 : n - k = 0 := by omega
    rw [h0, List.drop_of_length_le (by omega)]
    exact part_endL
  · cases hA
    exact part_dropL hg hl h1 hc hk
theorem named_if (c : Prop) [Decidable c] (a b : Addr) : ∃ A, (if c then some a else some b) = some A := by
  split
  · exact ⟨_, rfl⟩
  · exact ⟨_, rfl⟩
theorem heap_two (w : World) (a b : Obj) : ((w.alloc a).alloc b).drew.heap[w.heap.size]? = some a ∧ ((w.alloc a).alloc b).drew.heap[w.heap.size + 1]? = some b ∧ Below w.heap.size w ((w.alloc a).alloc b).drew := by
  have e : (w.alloc a).heap.size = w.heap.size + 1 := by simp
  refine ⟨?_, ?_, (((Below.refl _ w).alloc (Nat.le_refl _) a).alloc (by simp) b).drew⟩
  · show ((w.alloc a).alloc b).heap[w.heap.size]? = _
    rw [Below.heap_alloc _ _ _ (by simp)]
    exact heap_alloc_new w a
  · show ((w.alloc a).alloc b).heap[w.heap.size + 1]? = _
    rw [← e]
    exact heap_alloc_new _ b
/-- what comes of the three slices: what stood ahead, the new value, what stood behind -/
theorem putCallL {n : Nat} (xs : List (J n)) (c : J n) (g cap k bh d : Nat) (us : List Value) (T : TypeId) (x : Value) (w w1 : World) (hb : Below w.heap.size w w1) (hg : g < w.heap.size) (hlc : xs.length ≤ cap) (hI : Items w xs us) (hcell : ∀ (i : Nat) (u : Value), us[i]? = some u → w.cell? ⟨g, i, none⟩ = some u) (hx : S0 w n c (.iface T x)) (hl : xs.length ≤ 2000) (hk : k ≤ xs.length) (hbh : bh ≤ xs.length) (hd' : d = xs.length - bh) (A : Addr) (hA : (if cap = bh then some (⟨g, 0, none⟩ : Addr) else some ⟨g, bh, none⟩) = some A) :
    Calls Tryz.prog 57 #[.slice (some ⟨w1.heap.size + 1, 0, none⟩) 3 3] ((w1.alloc (.cells #[.iface T x] 40)).alloc (.cells #[.slice (some ⟨g, 0, none⟩) k cap, .slice (some ⟨w1.heap.size, 0, none⟩) 1 1, .slice (some A) d (cap - bh)] 78)).drew
      fun e w' => ∃ q m cc, e = .returned (.slice q m cc) ∧ Hid (S0 w' (n + 1) (Sum.inr (Sum.inl (xs.take k ++ c :: xs.drop bh))) (.iface 78 (.slice q m cc))) ∧ Hid (Below w.heap.size w w') := by
  obtain ⟨e1, e2, e3⟩ := heap_two w1 (.cells #[.iface T x] 40) (.cells #[.slice (some ⟨g, 0, none⟩) k cap, .slice (some ⟨w1.heap.size, 0, none⟩) 1 1, .slice (some A) d (cap - bh)] 78)
  have hbw : Below w.heap.size w _ := hb.trans (e3.mono hb.size)
  generalize ((w1.alloc (.cells #[.iface T x] 40)).alloc (.cells #[.slice (some ⟨g, 0, none⟩) k cap, .slice (some ⟨w1.heap.size, 0, none⟩) 1 1, .slice (some A) d (cap - bh)] 78)).drew = W at *
  have hgW : g < W.heap.size := by have := hbw.size; omega
  have hcW : ∀ (i : Nat) (u : Value), us[i]? = some u → W.cell? ⟨g, i, none⟩ = some u := fun i u hu => by
    rw [hbw.cell (p := ⟨g, i, none⟩) hg]
    exact hcell i u hu
  refine (concat3L w.heap.size w W _ _ _ k 1 d (us.take k) [.iface T x] (us.drop bh) (w1.heap.size + 1) rfl hbw e2 (part_takeL hgW hI.1 hI.2.1 hcW hk) (part_newL (by rw [cell_of_row _ _ _ _ _ _ e1]; rfl) (lt_of_block e1)) (part_behindL hgW hI.1 hI.2.1 hcW hbh hlc hd' hA) (by omega)).mono ?_
  rintro e w2 ⟨v, rfl, hown, hb2⟩
  obtain ⟨q, m, cc, rfl⟩ := own_shape hown.out
  refine ⟨q, m, cc, rfl, ?_, hb2⟩
  have hI2 : Items w2 (xs.take k ++ [c] ++ xs.drop bh) (us.take k ++ [.iface T x] ++ us.drop bh) := (((hI.take k).append (items_one hx)).append (hI.drop bh)).below hb2.out
  have := st_of_ownsL hown.out (by simp; omega) hI2
  show S0 _ _ _ _
  simpa using this
set_option maxRecDepth 100000 in
set_option maxHeartbeats 1000000 in
theorem room_dash (p : Option Addr) (len cap : Nat) (w : World) : Calls Tryz.prog 111 #[.slice p len cap, .string ⟨#[45]⟩] w fun e w' => e = .returned (.tuple #[.int .i64 (len : Int), .bool true]) ∧ Below w.heap.size w w' := by
  go_enter Tryz.func111, Tryz.ntmps111
  go_wp2_with fail
  go_ret2
  exact ⟨rfl, Below.refl _ _⟩
set_option maxRecDepth 100000 in
set_option maxHeartbeats 1000000 in
theorem room_in (p : Option Addr) (len cap : Nat) (s : ByteArray) (w : World) (hs : s.size ≤ 8000000) (hE : Env w) (hds : (s.toList == ([45] : List UInt8)) = false) (k : Nat) (hpl : placeP s.data.toList = some k) (hk : k ≤ len) : Calls Tryz.prog 111 #[.slice p len cap, .string s] w fun e w' => e = .returned (.tuple #[.int .i64 (k : Int), .bool true]) ∧ Below w.heap.size w w' := by
  have HP : Hid (Calls Tryz.prog 56 #[.string s] w fun e w' => e = .returned (.tuple #[.int .i64 (k : Int), .bool true]) ∧ Below w.heap.size w w') := by
    refine (place_any s w hs hE).mono ?_
    rintro e w1 ⟨b1, h1⟩
    rcases h1 with ⟨i, hi, _, rfl⟩ | ⟨m, hm, rfl⟩
    · rw [hpl] at hi
      cases hi
      exact ⟨rfl, b1⟩
    · rw [hpl] at hm
      cases hm
  have hle : (k : Int) ≤ (len : Int) := by omega
  clear hE hpl
  go_enter Tryz.func111, Tryz.ntmps111
  go_wp2_with fail
  refine Calls.mono HP.out ?_
  rintro e w1 ⟨rfl, b1⟩
  have HB : Hid (Below w.heap.size w w1) := b1
  clear b1
  go_wp2_with fail
  go_ret2
  exact ⟨rfl, HB.out⟩
set_option maxRecDepth 100000 in
set_option maxHeartbeats 1000000 in
theorem room_far (p : Option Addr) (len cap : Nat) (s : ByteArray) (w : World) (hs : s.size ≤ 8000000) (hE : Env w) (hds : (s.toList == ([45] : List UInt8)) = false) (k : Nat) (hpl : placeP s.data.toList = some k) (hk : len < k) : Calls Tryz.prog 111 #[.slice p len cap, .string s] w fun e w' => e = .returned (.tuple #[.int .i64 (k : Int), .bool false]) ∧ Below w.heap.size w w' := by
  have HP : Hid (Calls Tryz.prog 56 #[.string s] w fun e w' => e = .returned (.tuple #[.int .i64 (k : Int), .bool true]) ∧ Below w.heap.size w w') := by
    refine (place_any s w hs hE).mono ?_
    rintro e w1 ⟨b1, h1⟩
    rcases h1 with ⟨i, hi, _, rfl⟩ | ⟨m, hm, rfl⟩
    · rw [hpl] at hi
      cases hi
      exact ⟨rfl, b1⟩
    · rw [hpl] at hm
      cases hm
  have hle : ¬ (k : Int) ≤ (len : Int) := by omega
  have hle2 : (len : Int) < (k : Int) := by omega
  clear hE hpl
  go_enter Tryz.func111, Tryz.ntmps111
  go_wp2_with fail
  refine Calls.mono HP.out ?_
  rintro e w1 ⟨rfl, b1⟩
  have HB : Hid (Below w.heap.size w w1) := b1
  clear b1
  go_wp2_with fail
  go_ret2
  exact ⟨by have hd : decide (k ≤ len) = false := decide_eq_false (by omega)
            show Ending.returned (.tuple #[.int .i64 (k : Int), .bool (decide (k ≤ len))]) = _
            rw [hd], HB.out⟩
set_option maxRecDepth 100000 in
set_option maxHeartbeats 1000000 in
theorem room_no (p : Option Addr) (len cap : Nat) (s : ByteArray) (w : World) (hs : s.size ≤ 8000000) (hE : Env w) (hds : (s.toList == ([45] : List UInt8)) = false) (hpl : placeP s.data.toList = none) : Calls Tryz.prog 111 #[.slice p len cap, .string s] w fun e w' => ∃ k : Int, e = .returned (.tuple #[.int .i64 k, .bool false]) ∧ Below w.heap.size w w' := by
  have HP : Hid (Calls Tryz.prog 56 #[.string s] w fun e w' => ∃ k : Int, e = .returned (.tuple #[.int .i64 k, .bool false]) ∧ Below w.heap.size w w') := by
    refine (place_any s w hs hE).mono ?_
    rintro e w1 ⟨b1, h1⟩
    rcases h1 with ⟨i, hi, _, rfl⟩ | ⟨m, hm, rfl⟩
    · rw [hpl] at hi
      cases hi
    · exact ⟨_, rfl, b1⟩
  clear hE hpl
  go_enter Tryz.func111, Tryz.ntmps111
  go_wp2_with fail
  refine Calls.mono HP.out ?_
  rintro e w1 ⟨k, rfl, b1⟩
  have HB : Hid (Below w.heap.size w w1) := b1
  clear b1
  go_wp2_with fail
  go_ret2
  exact ⟨_, rfl, HB.out⟩
set_option maxRecDepth 100000 in
set_option maxHeartbeats 4000000 in
theorem putItem_dash {n : Nat} (xs : List (J n)) (c : J n) (p : Option Addr) (g cap : Nat) (us : List Value) (T : TypeId) (x : Value) (w : World) (hp : p = some ⟨g, 0, none⟩ ∧ g < w.heap.size) (hlc : xs.length ≤ cap) (hcm : cap ≤ maxLen) (hI : Items w xs us) (hcell : ∀ (i : Nat) (u : Value), us[i]? = some u → w.cell? ⟨g, i, none⟩ = some u) (hx : S0 w n c (.iface T x)) (hl : xs.length ≤ 2000) (hE : Env w) :
    Calls Tryz.prog 68 #[.slice p xs.length cap, .string ⟨#[45]⟩, .iface T x] w (PutLPost (some (xs ++ [c])) w) := by
  obtain ⟨rfl, hg⟩ := hp
  unfold maxLen at hcm
  have HP : Hid (Calls Tryz.prog 111 #[.slice (some ⟨g, 0, none⟩) xs.length cap, .string ⟨#[45]⟩] w fun e w' => e = .returned (.tuple #[.int .i64 (xs.length : Int), .bool true]) ∧ Below w.heap.size w w') := room_dash _ _ _ w
  obtain ⟨A, hA⟩ := named_if (cap = xs.length) ⟨g, 0, none⟩ ⟨g, xs.length, none⟩
  have HC := fun w1 hb => putCallL xs c g cap xs.length xs.length 0 us T x w w1 hb hg hlc hI hcell hx hl (Nat.le_refl _) (Nat.le_refl _) (by omega) A hA
  rw [List.take_length, List.drop_length] at HC
  have HC' : Hid (∀ w1, Below w.heap.size w w1 → Calls Tryz.prog 57 #[.slice (some ⟨w1.heap.size + 1, 0, none⟩) 3 3] ((w1.alloc (.cells #[.iface T x] 40)).alloc (.cells #[.slice (some ⟨g, 0, none⟩) xs.length cap, .slice (some ⟨w1.heap.size, 0, none⟩) 1 1, .slice (some A) 0 (cap - xs.length)] 78)).drew
      fun e w' => ∃ q m cc, e = .returned (.slice q m cc) ∧ Hid (S0 w' (n + 1) (Sum.inr (Sum.inl (xs ++ [c]))) (.iface 78 (.slice q m cc))) ∧ Hid (Below w.heap.size w w')) := HC
  have hmin : min ((xs.length : Int) + 1) (xs.length : Int) = (xs.length : Int) := by omega
  have hw1 : IntKind.i64.wrap (xs.length : Int) = (xs.length : Int) := wrap_nat _ (by omega)
  clear hI hcell hx hE HC
  generalize xs.length = len at *
  go_enter Tryz.func68, Tryz.ntmps68
  go_wp2_with fail
  refine Calls.mono HP.out ?_
  rintro e w1 ⟨rfl, b1⟩
  have HB : Hid (Below w.heap.size w w1) := b1
  clear b1
  go_wp2_with fail
  go_region_with (go_at_call 57; refine Calls.mono (HC'.out w1 HB.out) ?_; rintro e w3 ⟨q, m, cc, rfl, HS, HB3⟩)
  all_goals (go_wp2_with fail; go_ret2)
  all_goals exact ⟨HB3.out, Or.inr ⟨_, _, _, rfl, rfl, HS.out⟩⟩
set_option maxRecDepth 100000 in
set_option maxHeartbeats 4000000 in
theorem putItem_at {n : Nat} (xs : List (J n)) (c : J n) (g cap : Nat) (us : List Value) (T : TypeId) (x : Value) (s : ByteArray) (w : World) (hg : g < w.heap.size) (hlc : xs.length ≤ cap) (hcm : cap ≤ maxLen) (hI : Items w xs us) (hcell : ∀ (i : Nat) (u : Value), us[i]? = some u → w.cell? ⟨g, i, none⟩ = some u) (hx : S0 w n c (.iface T x)) (hl : xs.length ≤ 2000) (hs : s.size ≤ 8000000) (hE : Env w) (hds : (s.toList == ([45] : List UInt8)) = false) (k : Nat) (hpl : placeP s.data.toList = some k) (hk : k < xs.length) :
    Calls Tryz.prog 68 #[.slice (some ⟨g, 0, none⟩) xs.length cap, .string s, .iface T x] w (PutLPost (some (xs.take k ++ c :: xs.drop (k + 1))) w) := by
  unfold maxLen at hcm
  have HP : Hid (Calls Tryz.prog 111 #[.slice (some ⟨g, 0, none⟩) xs.length cap, .string s] w fun e w' => e = .returned (.tuple #[.int .i64 (k : Int), .bool true]) ∧ Below w.heap.size w w') := room_in _ _ _ s w hs hE hds k hpl (by omega)
  obtain ⟨A, hA⟩ := named_if (cap = k + 1) ⟨g, 0, none⟩ ⟨g, k + 1, none⟩
  have HC : Hid (∀ w1, Below w.heap.size w w1 → Calls Tryz.prog 57 #[.slice (some ⟨w1.heap.size + 1, 0, none⟩) 3 3] ((w1.alloc (.cells #[.iface T x] 40)).alloc (.cells #[.slice (some ⟨g, 0, none⟩) k cap, .slice (some ⟨w1.heap.size, 0, none⟩) 1 1, .slice (some A) (xs.length - (k + 1)) (cap - (k + 1))] 78)).drew
      fun e w' => ∃ q m cc, e = .returned (.slice q m cc) ∧ Hid (S0 w' (n + 1) (Sum.inr (Sum.inl (xs.take k ++ c :: xs.drop (k + 1)))) (.iface 78 (.slice q m cc))) ∧ Hid (Below w.heap.size w w')) :=
    fun w1 hb => putCallL xs c g cap k (k + 1) (xs.length - (k + 1)) us T x w w1 hb hg hlc hI hcell hx hl (by omega) (by omega) (by omega) A hA
  have hmin : min ((k : Int) + 1) (xs.length : Int) = (k : Int) + 1 := by omega
  have hgt : decide ((xs.length : Int) < (k : Int)) = false := decide_eq_false (by omega)
  have hw1 : IntKind.i64.wrap (k : Int) = (k : Int) := wrap_nat _ (by omega)
  have hw2 : IntKind.i64.wrap ((k : Int) + 1) = (k : Int) + 1 := by rw [IntKind.wrap_i64]; omega
  have h1 : (k : Int) + 1 ≤ (xs.length : Int) := by omega
  have h2 : (0 : Int) ≤ (k : Int) + 1 := by omega
  have h3 : ((k : Int) + 1).toNat = k + 1 := by omega
  have h4 : (k : Int) ≤ (cap : Int) := by omega
  clear hI hcell hx hE hpl
  obtain ⟨R, hR⟩ : ∃ R, R = xs.take k ++ c :: xs.drop (k + 1) := ⟨_, rfl⟩
  rw [← hR] at HC ⊢
  clear hR
  generalize xs.length = len at *
  go_enter Tryz.func68, Tryz.ntmps68
  go_wp2_with fail
  refine Calls.mono HP.out ?_
  rintro e w1 ⟨rfl, b1⟩
  have HB : Hid (Below w.heap.size w w1) := b1
  clear b1
  go_wp2_with fail
  go_region_with (go_at_call 57; refine Calls.mono (HC.out w1 HB.out) ?_; rintro e w3 ⟨q, m, cc, rfl, HS, HB3⟩)
  all_goals (go_wp2_with fail; go_ret2)
  all_goals exact ⟨HB3.out, Or.inr ⟨_, _, _, rfl, rfl, HS.out⟩⟩
set_option maxRecDepth 100000 in
set_option maxHeartbeats 4000000 in
theorem putItem_end {n : Nat} (xs : List (J n)) (c : J n) (g cap : Nat) (us : List Value) (T : TypeId) (x : Value) (s : ByteArray) (w : World) (hg : g < w.heap.size) (hlc : xs.length ≤ cap) (hcm : cap ≤ maxLen) (hI : Items w xs us) (hcell : ∀ (i : Nat) (u : Value), us[i]? = some u → w.cell? ⟨g, i, none⟩ = some u) (hx : S0 w n c (.iface T x)) (hl : xs.length ≤ 2000) (hs : s.size ≤ 8000000) (hE : Env w) (hds : (s.toList == ([45] : List UInt8)) = false) (hpl : placeP s.data.toList = some xs.length) :
    Calls Tryz.prog 68 #[.slice (some ⟨g, 0, none⟩) xs.length cap, .string s, .iface T x] w (PutLPost (some (xs ++ [c])) w) := by
  unfold maxLen at hcm
  obtain ⟨k, hk⟩ : ∃ k, xs.length = k := ⟨_, rfl⟩
  rw [hk] at hpl
  have HP : Hid (Calls Tryz.prog 111 #[.slice (some ⟨g, 0, none⟩) xs.length cap, .string s] w fun e w' => e = .returned (.tuple #[.int .i64 (k : Int), .bool true]) ∧ Below w.heap.size w w') := room_in _ _ _ s w hs hE hds k hpl (by omega)
  obtain ⟨A, hA⟩ := named_if (cap = xs.length) ⟨g, 0, none⟩ ⟨g, xs.length, none⟩
  have HC : Hid (∀ w1, Below w.heap.size w w1 → Calls Tryz.prog 57 #[.slice (some ⟨w1.heap.size + 1, 0, none⟩) 3 3] ((w1.alloc (.cells #[.iface T x] 40)).alloc (.cells #[.slice (some ⟨g, 0, none⟩) xs.length cap, .slice (some ⟨w1.heap.size, 0, none⟩) 1 1, .slice (some A) (0) (cap - (xs.length))] 78)).drew
      fun e w' => ∃ q m cc, e = .returned (.slice q m cc) ∧ Hid (S0 w' (n + 1) (Sum.inr (Sum.inl (xs.take xs.length ++ c :: xs.drop xs.length))) (.iface 78 (.slice q m cc))) ∧ Hid (Below w.heap.size w w')) :=
    fun w1 hb => putCallL xs c g cap xs.length (xs.length) (0) us T x w w1 hb hg hlc hI hcell hx hl (by omega) (by omega) (by omega) A hA
  rw [List.take_length, List.drop_length, hk] at HC
  have hmin : min ((k : Int) + 1) (k : Int) = (k : Int) := by omega
  have hgt : decide ((k : Int) < (k : Int)) = false := decide_eq_false (by omega)
  have hw1 : IntKind.i64.wrap (k : Int) = (k : Int) := wrap_nat _ (by omega)
  rw [hk] at hA hlc hl HP ⊢
  clear hI hcell hx hE hpl hk
  go_enter Tryz.func68, Tryz.ntmps68
  go_wp2_with fail
  refine Calls.mono HP.out ?_
  rintro e w1 ⟨rfl, b1⟩
  have HB : Hid (Below w.heap.size w w1) := b1
  clear b1
  go_wp2_with fail
  go_region_with (go_at_call 57; refine Calls.mono (HC.out w1 HB.out) ?_; rintro e w3 ⟨q, m, cc, rfl, HS, HB3⟩)
  all_goals (go_wp2_with fail; go_ret2)
  all_goals exact ⟨HB3.out, Or.inr ⟨_, _, _, rfl, rfl, HS.out⟩⟩
set_option maxRecDepth 100000 in
set_option maxHeartbeats 4000000 in
theorem putItem_far {n : Nat} (xs : List (J n)) (p : Option Addr) (cap : Nat) (T : TypeId) (x : Value) (s : ByteArray) (w : World) (hl : xs.length ≤ 2000) (hs : s.size ≤ 8000000) (hE : Env w) (hds : (s.toList == ([45] : List UInt8)) = false) (k : Nat) (hpl : placeP s.data.toList = some k) (hk : xs.length < k) :
    Calls Tryz.prog 68 #[.slice p xs.length cap, .string s, .iface T x] w (PutLPost (none : Option (List (J n))) w) := by
  have HP : Hid (Calls Tryz.prog 111 #[.slice p xs.length cap, .string s] w fun e w' => e = .returned (.tuple #[.int .i64 (k : Int), .bool false]) ∧ Below w.heap.size w w') := room_far _ _ _ s w hs hE hds k hpl hk
  have hgt : decide ((xs.length : Int) < (k : Int)) = true := decide_eq_true (by omega)
  have hgt2 : (xs.length : Int) < (k : Int) := by omega
  clear hE hpl
  generalize xs.length = len at *
  go_enter Tryz.func68, Tryz.ntmps68
  go_wp2_with fail
  refine Calls.mono HP.out ?_
  rintro e w1 ⟨rfl, b1⟩
  have HB : Hid (Below w.heap.size w w1) := b1
  clear b1
  go_wp2_with fail
  go_ret2
  exact ⟨HB.out, Or.inl ⟨rfl, rfl⟩⟩
set_option maxRecDepth 100000 in
set_option maxHeartbeats 4000000 in
theorem putItem_none {n : Nat} (xs : List (J n)) (p : Option Addr) (cap : Nat) (T : TypeId) (x : Value) (s : ByteArray) (w : World) (hl : xs.length ≤ 2000) (hs : s.size ≤ 8000000) (hE : Env w) (hds : (s.toList == ([45] : List UInt8)) = false) (hpl : placeP s.data.toList = none) :
    Calls Tryz.prog 68 #[.slice p xs.length cap, .string s, .iface T x] w (PutLPost (none : Option (List (J n))) w) := by
  have HP : Hid (Calls Tryz.prog 111 #[.slice p xs.length cap, .string s] w fun e w' => ∃ k : Int, e = .returned (.tuple #[.int .i64 k, .bool false]) ∧ Below w.heap.size w w') := room_no _ _ _ s w hs hE hds hpl
  clear hE hpl
  generalize xs.length = len at *
  go_enter Tryz.func68, Tryz.ntmps68
  go_wp2_with fail
  refine Calls.mono HP.out ?_
  rintro e w1 ⟨k, rfl, b1⟩
  have HB : Hid (Below w.heap.size w w1) := b1
  clear b1
  go_wp2_with fail
  go_ret2
  exact ⟨HB.out, Or.inl ⟨rfl, rfl⟩⟩
theorem putCallNil {n : Nat} (c : J n) (T : TypeId) (x : Value) (w w1 : World) (hb : Below w.heap.size w w1) (hx : S0 w n c (.iface T x)) :
    Calls Tryz.prog 57 #[.slice (some ⟨w1.heap.size + 1, 0, none⟩) 3 3] ((w1.alloc (.cells #[.iface T x] 40)).alloc (.cells #[.slice none 0 0, .slice (some ⟨w1.heap.size, 0, none⟩) 1 1, .slice none 0 0] 78)).drew
      fun e w' => ∃ q m cc, e = .returned (.slice q m cc) ∧ Hid (S0 w' (n + 1) (Sum.inr (Sum.inl [c])) (.iface 78 (.slice q m cc))) ∧ Hid (Below w.heap.size w w') := by
  obtain ⟨e1, e2, e3⟩ := heap_two w1 (.cells #[.iface T x] 40) (.cells #[.slice none 0 0, .slice (some ⟨w1.heap.size, 0, none⟩) 1 1, .slice none 0 0] 78)
  have hbw : Below w.heap.size w _ := hb.trans (e3.mono hb.size)
  generalize ((w1.alloc (.cells #[.iface T x] 40)).alloc (.cells #[.slice none 0 0, .slice (some ⟨w1.heap.size, 0, none⟩) 1 1, .slice none 0 0] 78)).drew = W at *
  refine (concat3L w.heap.size w W _ _ _ 0 1 0 [] [.iface T x] [] (w1.heap.size + 1) rfl hbw e2 part_nilL (part_newL (by rw [cell_of_row _ _ _ _ _ _ e1]; rfl) (lt_of_block e1)) part_nilL (by omega)).mono ?_
  rintro e w2 ⟨v, rfl, hown, hb2⟩
  obtain ⟨q, m, cc, rfl⟩ := own_shape hown.out
  refine ⟨q, m, cc, rfl, ?_, hb2⟩
  have := st_of_ownsL hown.out (by simp) ((items_one hx).below hb2.out)
  exact this
set_option maxRecDepth 100000 in
set_option maxHeartbeats 4000000 in
theorem putItem_nilDash {n : Nat} (c : J n) (T : TypeId) (x : Value) (w : World) (hx : S0 w n c (.iface T x)) (hE : Env w) :
    Calls Tryz.prog 68 #[.slice none 0 0, .string ⟨#[45]⟩, .iface T x] w (PutLPost (some [c]) w) := by
  have HP : Hid (Calls Tryz.prog 111 #[.slice none 0 0, .string ⟨#[45]⟩] w fun e w' => e = .returned (.tuple #[.int .i64 0, .bool true]) ∧ Below w.heap.size w w') := room_dash _ 0 0 w
  have HC : Hid (∀ w1, Below w.heap.size w w1 → _) := fun w1 hb => putCallNil c T x w w1 hb hx
  clear hx hE
  go_enter Tryz.func68, Tryz.ntmps68
  go_wp2_with fail
  refine Calls.mono HP.out ?_
  rintro e w1 ⟨rfl, b1⟩
  have HB : Hid (Below w.heap.size w w1) := b1
  clear b1
  go_wp2_with fail
  go_region_with (go_at_call 57; refine Calls.mono (HC.out w1 HB.out) ?_; rintro e w3 ⟨q, m, cc, rfl, HS, HB3⟩)
  all_goals (go_wp2_with fail; go_ret2)
  all_goals exact ⟨HB3.out, Or.inr ⟨_, _, _, rfl, rfl, HS.out⟩⟩
set_option maxRecDepth 100000 in
set_option maxHeartbeats 4000000 in
theorem putItem_nilZero {n : Nat} (c : J n) (T : TypeId) (x : Value) (s : ByteArray) (w : World) (hx : S0 w n c (.iface T x)) (hs : s.size ≤ 8000000) (hE : Env w) (hds : (s.toList == ([45] : List UInt8)) = false) (hpl : placeP s.data.toList = some 0) :
    Calls Tryz.prog 68 #[.slice none 0 0, .string s, .iface T x] w (PutLPost (some [c]) w) := by
  have HP : Hid (Calls Tryz.prog 111 #[.slice none 0 0, .string s] w fun e w' => e = .returned (.tuple #[.int .i64 0, .bool true]) ∧ Below w.heap.size w w') := room_in _ 0 0 s w hs hE hds 0 hpl (by omega)
  have HC : Hid (∀ w1, Below w.heap.size w w1 → _) := fun w1 hb => putCallNil c T x w w1 hb hx
  clear hx hE hpl
  go_enter Tryz.func68, Tryz.ntmps68
  go_wp2_with fail
  refine Calls.mono HP.out ?_
  rintro e w1 ⟨rfl, b1⟩
  have HB : Hid (Below w.heap.size w w1) := b1
  clear b1
  go_wp2_with fail
  go_region_with (go_at_call 57; refine Calls.mono (HC.out w1 HB.out) ?_; rintro e w3 ⟨q, m, cc, rfl, HS, HB3⟩)
  all_goals (go_wp2_with fail; go_ret2)
  all_goals exact ⟨HB3.out, Or.inr ⟨_, _, _, rfl, rfl, HS.out⟩⟩
theorem putItem_any {n : Nat} (av : Nat → Prop) (xs : List (J n)) (c : J n) (v : Value) (T : TypeId) (x : Value) (s : ByteArray) (w : World) (hSt : St av w (n + 1) (Sum.inr (Sum.inl xs)) (.iface 78 v)) (hx : S0 w n c (.iface T x)) (hl : xs.length ≤ 2000) (hs : s.size ≤ 8000000) (hE : Env w) :
    Calls Tryz.prog 68 #[v, .string s, .iface T x] w (PutLPost ((putIdx xs.length s.data.toList).map fun i => xs.take i ++ c :: xs.drop (i + 1)) w) := by
  obtain ⟨p, g, cap, us, hv, hp, hlc, hcm, hI, hcell⟩ := hSt.items
  cases hv
  by_cases hd : s.data.toList = [45]
  · have e : s = ⟨#[45]⟩ := by rw [← ba_self s, hd]
    subst e
    have hi : putIdx xs.length (⟨#[45]⟩ : ByteArray).data.toList = some xs.length := by unfold putIdx; rw [if_pos rfl]
    rw [hi, Option.map_some, List.take_length, List.drop_of_length_le (by omega)]
    rcases hp with ⟨rfl, rfl, rfl⟩ | hp
    · exact putItem_nilDash c T x w hx hE
    · exact putItem_dash xs c p g cap us T x w hp hlc hcm hI hcell hx hl hE
  · have hds : (s.toList == ([45] : List UInt8)) = false := by
      rw [ByteArray.toList_eq, beq_eq_false_iff_ne]
      exact hd
    have hi : putIdx xs.length s.data.toList = (placeP s.data.toList).bind fun i => if i ≤ xs.length then some i else none := by unfold putIdx; rw [if_neg hd]
    rw [hi]
    cases hpl : placeP s.data.toList with
    | none => exact putItem_none xs p cap T x s w hl hs hE hds hpl
    | some k =>
      simp only [Option.bind_some]
      rcases Nat.lt_trichotomy k xs.length with hk | hk | hk
      · rw [if_pos (by omega), Option.map_some]
        rcases hp with ⟨rfl, rfl, rfl⟩ | ⟨rfl, hg⟩
        · simp at hk
        · exact putItem_at xs c g cap us T x s w hg hlc hcm hI hcell hx hl hs hE hds k hpl hk
      · subst hk
        rw [if_pos (Nat.le_refl _), Option.map_some, List.take_length, List.drop_of_length_le (by omega)]
        rcases hp with ⟨rfl, rfl, rfl⟩ | ⟨rfl, hg⟩
        · exact putItem_nilZero c T x s w hx hs hE hds hpl
        · exact putItem_end xs c g cap us T x s w hg hlc hcm hI hcell hx hl hs hE hds hpl
      · rw [if_neg (by omega)]
        exact putItem_far xs p cap T x s w hl hs hE hds k hpl hk
end Go.Proofs.YtaogilpkeeigoabGreatDoor
