/- Contracts over this translation: what is put into an object. -/
import Derived.Test.YtaogilpkeeigoabGreatDoorPtrPutL
import Derived.Test.YtaogilpkeeigoabGreatDoorConcatO
namespace Go.Proofs.YtaogilpkeeigoabGreatDoor
open Go.RowKit
set_option linter.unusedVariables false
set_option linter.unusedSimpArgs false
/-- the cells of fields -/
def cellsF {α : Type} : List (Bs × α) → List Value → List Value
  | f :: fs, u :: us => strV f.1 :: u :: cellsF fs us
  | _, _ => []
theorem cellsF_len {α : Type} : ∀ (fs : List (Bs × α)) (us : List Value), us.length = fs.length → (cellsF fs us).length = fs.length * 2
  | [], [], _ => rfl
  | f :: fs, u :: us, h => by
    have := cellsF_len fs us (by simpa using h)
    simp only [cellsF, List.length_cons, this]
    omega
  | [], _ :: _, h => by simp at h
  | _ :: _, [], h => by simp at h
theorem cellsF_at {α : Type} : ∀ (fs : List (Bs × α)) (us : List Value) (j : Nat) (u : Value), (cellsF fs us)[j]? = some u → ∃ (i : Nat) (f : Bs × α) (v : Value), fs[i]? = some f ∧ us[i]? = some v ∧ ((j = i * 2 ∧ u = strV f.1) ∨ (j = i * 2 + 1 ∧ u = v))
  | [], _, j, u, h => by simp [cellsF] at h
  | _ :: _, [], j, u, h => by simp [cellsF] at h
  | f :: fs, v :: us, 0, u, h => by
    simp [cellsF] at h
    exact ⟨0, f, v, rfl, rfl, Or.inl ⟨rfl, h.symm⟩⟩
  | f :: fs, v :: us, 1, u, h => by
    simp [cellsF] at h
    exact ⟨0, f, v, rfl, rfl, Or.inr ⟨rfl, h.symm⟩⟩
  | f :: fs, v :: us, j + 2, u, h => by
    simp only [cellsF, List.getElem?_cons_succ] at h
    obtain ⟨i, g, x, h1, h2, h3⟩ := cellsF_at fs us j u h
    refine ⟨i + 1, g, x, by simpa using h1, by simpa using h2, ?_⟩
    rcases h3 with ⟨h3, h4⟩ | ⟨h3, h4⟩
    · exact Or.inl ⟨by omega, h4⟩
    · exact Or.inr ⟨by omega, h4⟩
theorem cellsF_get {α : Type} : ∀ (fs : List (Bs × α)) (us : List Value) (i : Nat) (f : Bs × α) (u : Value), fs[i]? = some f → us[i]? = some u → (cellsF fs us)[i * 2]? = some (strV f.1) ∧ (cellsF fs us)[i * 2 + 1]? = some u
  | [], _, i, f, u, h, _ => by simp at h
  | _ :: _, [], i, f, u, _, h => by simp at h
  | g :: fs, v :: us, 0, f, u, h, h2 => by
    simp at h h2
    subst h; subst h2
    exact ⟨rfl, rfl⟩
  | g :: fs, v :: us, i + 1, f, u, h, h2 => by
    have := cellsF_get fs us i f u (by simpa using h) (by simpa using h2)
    have e1 : (i + 1) * 2 = i * 2 + 2 := by omega
    rw [e1]
    exact this
theorem cellsF_append {α : Type} : ∀ (fs gs : List (Bs × α)) (us vs : List Value), us.length = fs.length → cellsF (fs ++ gs) (us ++ vs) = cellsF fs us ++ cellsF gs vs
  | [], gs, [], vs, _ => rfl
  | f :: fs, gs, u :: us, vs, h => by
    have := cellsF_append fs gs us vs (by simpa using h)
    simp only [List.cons_append, cellsF, this]
  | [], _, _ :: _, _, h => by simp at h
  | _ :: _, _, [], _, h => by simp at h
/-- the fields of an object in memory -/
def FItems {n : Nat} (w : World) (fs : List (Bs × J n)) (us : List Value) : Prop := us.length = fs.length ∧ (∀ u ∈ us, u.oneCell' = true) ∧ ∀ (i : Nat) (f : Bs × J n) (u : Value), fs[i]? = some f → us[i]? = some u → S0 w n f.2 u
section
variable {n : Nat} {w w' : World} {fs gs : List (Bs × J n)} {us ts : List Value}
theorem FItems.below (h : FItems w fs us) (hb : Below w.heap.size w w') : FItems w' fs us := ⟨h.1, h.2.1, fun i y u hy hu => (h.2.2 i y u hy hu).on hb⟩
theorem FItems.take (h : FItems w fs us) (k : Nat) : FItems w (fs.take k) (us.take k) := by
  refine ⟨by simp [h.1], fun u hu => h.2.1 u (List.mem_of_mem_take hu), fun i y u hy hu => ?_⟩
  rw [List.getElem?_take] at hy hu
  split at hy
  · rename_i hlt
    rw [if_pos hlt] at hu
    exact h.2.2 i y u hy hu
  · cases hy
theorem FItems.drop (h : FItems w fs us) (k : Nat) : FItems w (fs.drop k) (us.drop k) := by
  refine ⟨by simp [h.1], fun u hu => h.2.1 u (List.mem_of_mem_drop hu), fun i y u hy hu => ?_⟩
  rw [List.getElem?_drop] at hy hu
  exact h.2.2 _ y u hy hu
theorem FItems.append (h : FItems w fs us) (g : FItems w gs ts) : FItems w (fs ++ gs) (us ++ ts) := by
  refine ⟨by simp [h.1, g.1], fun u hu => ?_, fun i y u hy hu => ?_⟩
  · rcases List.mem_append.1 hu with hu | hu
    · exact h.2.1 u hu
    · exact g.2.1 u hu
  · rcases Nat.lt_or_ge i fs.length with hlt | hge
    · rw [List.getElem?_append_left hlt] at hy
      rw [List.getElem?_append_left (by rw [h.1]; exact hlt)] at hu
      exact h.2.2 i y u hy hu
    · rw [List.getElem?_append_right hge] at hy
      rw [List.getElem?_append_right (by rw [h.1]; exact hge), h.1] at hu
      exact g.2.2 _ y u hy hu
theorem fitems_one {nm : Bs} {y : J n} {T : TypeId} {x : Value} (h : S0 w n y (.iface T x)) : FItems w [(nm, y)] [.iface T x] := by
  refine ⟨rfl, fun u hu => by simp at hu; subst hu; rfl, fun i z u hz hu => ?_⟩
  cases i with
  | zero =>
    simp at hz hu
    subst hz; subst hu
    exact h
  | succ i => simp at hz
theorem one_cells (h : FItems w fs us) : ∀ u ∈ cellsF fs us, u.oneCell' = true := by
  intro u hu
  obtain ⟨j, hj, rfl⟩ := List.getElem_of_mem hu
  obtain ⟨i, f, v, h1, h2, h3⟩ := cellsF_at fs us j _ (List.getElem?_eq_getElem hj)
  rcases h3 with ⟨_, h4⟩ | ⟨_, h4⟩
  · rw [h4]; rfl
  · rw [h4]; exact h.2.1 v (List.mem_of_getElem? h2)
theorem St.fitems {av : Nat → Prop} {v : Value} (h : St av w (n + 1) (Sum.inr (Sum.inr fs)) v) : ∃ (p : Option Addr) (g cap : Nat) (us : List Value), v = .iface 80 (.slice p fs.length cap) ∧ ((p = none ∧ fs = [] ∧ cap = 0) ∨ (p = some ⟨g, 0, none⟩ ∧ g < w.heap.size)) ∧ fs.length ≤ cap ∧ cap ≤ maxLen ∧ FItems w fs us ∧ Fields w g fs us := by
  rcases h with ⟨rfl, rfl⟩ | ⟨g, cap, vs, hv, hl, hc, hm, hg, hlt, hcell, hel⟩
  · exact ⟨none, 0, 0, [], rfl, Or.inl ⟨rfl, rfl, rfl⟩, Nat.le_refl _, Nat.zero_le _, ⟨rfl, fun u hu => by simp at hu, fun i y u hy => by simp at hy⟩, ⟨rfl, fun i f u hf => by simp at hf⟩⟩
  · refine ⟨_, g, cap, vs, hv, Or.inr ⟨rfl, hlt⟩, hc, hm, ⟨hl, fun u hu => ?_, fun i y u hy hu => (hel i y u hy hu).s0⟩, ⟨hl, hcell⟩⟩
    obtain ⟨i, hi, rfl⟩ := List.getElem_of_mem hu
    obtain ⟨T, x, hx⟩ := st_iface (hel i fs[i] vs[i] (List.getElem?_eq_getElem (by omega)) (List.getElem?_eq_getElem hi))
    rw [hx]
    rfl
theorem st_of_ownsO {B m : Nat} {v : Value} (h : w.ownsRow B 83 2 v m (cellsF fs us)) (hm : m = fs.length) (hi : FItems w fs us) : S0 w (n + 1) (Sum.inr (Sum.inr fs)) (.iface 80 v) := by
  subst hm
  obtain ⟨_, h2⟩ := h
  rcases h2 with ⟨rfl, h0⟩ | ⟨g, cap, cur, rfl, hb, hh, h1, h3, h4, h5⟩
  · exact Or.inl ⟨List.eq_nil_of_length_eq_zero h0, rfl⟩
  · refine Or.inr ⟨g, cap, us, rfl, hi.1, h1, h3, fun hf => hf, lt_of_block hh, fun i f u hf hu => ?_, hi.2.2⟩
    have hlt : i < fs.length := (List.getElem?_eq_some_iff.1 hf).1
    have hg := cellsF_get fs us i f u hf hu
    have h6 : ∀ j, j < fs.length * 2 → cur[j]? = (cellsF fs us)[j]? := fun j hj => by
      have : (cur.toList.take (fs.length * 2))[j]? = (cellsF fs us)[j]? := by rw [h5]
      rw [List.getElem?_take, if_pos hj, Array.getElem?_toList] at this
      exact this
    rw [cell_of_row _ _ _ _ _ _ hh, cell_of_row _ _ _ _ _ _ hh, h6 _ (by omega), h6 _ (by omega)]
    exact hg
theorem part_takeO {g cap k : Nat} (hg : g < w.heap.size) (hI : FItems w fs us) (hF : Fields w g fs us) (hk : k ≤ fs.length) : PartO w (.slice (some ⟨g, 0, none⟩) k cap) k (cellsF (fs.take k) (us.take k)) := by
  refine ⟨by rw [cellsF_len _ _ (hI.take k).1, List.length_take]; omega, one_cells (hI.take k), Or.inr ⟨g, 0, cap, rfl, fun _ => hg, fun j u hj => ?_⟩⟩
  obtain ⟨i, f, v, h1, h2, h3⟩ := cellsF_at _ _ j u hj
  rw [List.getElem?_take] at h1 h2
  split at h1
  · rename_i hlt
    rw [if_pos hlt] at h2
    have hc := hF.2 i f v h1 h2
    rw [Nat.zero_add]
    rcases h3 with ⟨rfl, rfl⟩ | ⟨rfl, rfl⟩
    · exact hc.1
    · exact hc.2
  · cases h1
theorem part_dropO {g cap k : Nat} (hg : g < w.heap.size) (hI : FItems w fs us) (hF : Fields w g fs us) (hk : k ≤ fs.length) : PartO w (.slice (some ⟨g, k * 2, none⟩) (fs.length - k) cap) (fs.length - k) (cellsF (fs.drop k) (us.drop k)) := by
  refine ⟨by rw [cellsF_len _ _ (hI.drop k).1, List.length_drop], one_cells (hI.drop k), Or.inr ⟨g, k * 2, cap, rfl, fun _ => hg, fun j u hj => ?_⟩⟩
  obtain ⟨i, f, v, h1, h2, h3⟩ := cellsF_at _ _ j u hj
  rw [List.getElem?_drop] at h1 h2
  have hc := hF.2 (k + i) f v h1 h2
  rcases h3 with ⟨rfl, rfl⟩ | ⟨rfl, rfl⟩
  · rw [show k * 2 + i * 2 = (k + i) * 2 from by omega]
    exact hc.1
  · rw [show k * 2 + (i * 2 + 1) = (k + i) * 2 + 1 from by omega]
    exact hc.2
theorem part_endO {g o cap : Nat} : PartO w (.slice (some ⟨g, o, none⟩) 0 cap) 0 [] :=
  ⟨rfl, fun u hu => by simp at hu, Or.inr ⟨g, o, cap, rfl, fun h => absurd h (Nat.lt_irrefl _), fun j u hj => by simp at hj⟩⟩
theorem part_nilO : PartO w (.slice none 0 0) 0 [] := ⟨rfl, fun u hu => by simp at hu, Or.inl ⟨rfl, rfl⟩⟩
theorem part_newO {g : Nat} {nm : Bs} {T : TypeId} {x : Value} (h : w.heap[g]? = some (.cells #[strV nm, .iface T x] 83 (0, 0))) : PartO w (.slice (some ⟨g, 0, none⟩) 1 1) 1 [strV nm, .iface T x] := by
  refine ⟨rfl, fun u hu => ?_, Or.inr ⟨g, 0, 1, rfl, fun _ => lt_of_block h, fun j u hj => ?_⟩⟩
  · simp at hu
    rcases hu with rfl | rfl <;> rfl
  · rw [cell_of_row _ _ _ _ _ _ h]
    match j, hj with
    | 0, hj => simp at hj; subst hj; rfl
    | 1, hj => simp at hj; subst hj; rfl
    | j + 2, hj => simp at hj
theorem part_behindO {g cap k d : Nat} (hg : g < w.heap.size) (hI : FItems w fs us) (hF : Fields w g fs us) (hk : k ≤ fs.length) (hn : fs.length ≤ cap) (hd' : d = fs.length - k) {A : Addr} (hA : (if cap = k then some (⟨g, 0, none⟩ : Addr) else some ⟨g, k * 2, none⟩) = some A) :
    PartO w (.slice (some A) d (cap - k)) d (cellsF (fs.drop k) (us.drop k)) := by
  subst hd'
  split at hA
  · rename_i h
    cases hA
    have h0 : fs.length - k = 0 := by omega
    rw [h0, List.drop_of_length_le (by omega)]
    exact part_endO
  · cases hA
    exact part_dropO hg hI hF hk
end
/-- three slices put together, their own slice at block gg -/
theorem concat3O (B : Nat) (w0 w : World) (p q r : Value) (a b c : Nat) (x y z : List Value) (gg : Nat) (h0 : w0.heap.size = B) (hb : Below B w0 w) (hg : w.heap[gg]? = some (.cells #[p, q, r] 80 (0, 0))) (hp : PartO w p a x) (hq : PartO w q b y) (hr : PartO w r c z) (hm : a + b + c ≤ 100000) :
    Calls Tryz.prog 55 #[.slice (some ⟨gg, 0, none⟩) 3 3] w fun e w' => ∃ v, e = .returned v ∧ Hid (w'.ownsRow B 83 2 v (a + b + c) (x ++ y ++ z)) ∧ Hid (Below B w0 w') := by
  have hs := hb.size
  rw [h0] at hs
  refine (concatO_any [(p, a, x), (q, b, y), (r, c, z)] gg 3 w (by simp) (by simp) (by unfold maxLen; decide) (lt_of_block hg) (fun j t hj => ?_) (fun t ht => ?_) (by simp [manyO]; omega)).mono ?_
  · rw [cell_of_row _ _ _ _ _ _ hg]
    match j, hj with
    | 0, hj => simp at hj; subst hj; rfl
    | 1, hj => simp at hj; subst hj; rfl
    | 2, hj => simp at hj; subst hj; rfl
    | j + 3, hj => simp at hj
  · simp at ht
    rcases ht with rfl | rfl | rfl
    · exact hp
    · exact hq
    · exact hr
  · rintro e w1 ⟨v, rfl, hown, b1⟩
    refine ⟨v, rfl, ?_, hb.trans (b1.mono hs)⟩
    have h2 : manyO [(p, a, x), (q, b, y), (r, c, z)] = a + b + c := by simp [manyO]; omega
    have h3 : allO [(p, a, x), (q, b, y), (r, c, z)] = x ++ y ++ z := by simp [allO]
    rw [h2, h3] at hown
    exact own_base hown hs
theorem putCallO {n : Nat} (fs : List (Bs × J n)) (c : J n) (g cap k bh d : Nat) (us : List Value) (nm : ByteArray) (T : TypeId) (x : Value) (w w1 : World) (hb : Below w.heap.size w w1) (hg : g < w.heap.size) (hlc : fs.length ≤ cap) (hI : FItems w fs us) (hF : Fields w g fs us) (hx : S0 w n c (.iface T x)) (hl : fs.length ≤ 2000) (hk : k ≤ fs.length) (hbh : bh ≤ fs.length) (hd' : d = fs.length - bh) (A : Addr) (hA : (if cap = bh then some (⟨g, 0, none⟩ : Addr) else some ⟨g, bh * 2, none⟩) = some A) :
    Calls Tryz.prog 55 #[.slice (some ⟨w1.heap.size + 1, 0, none⟩) 3 3] ((w1.alloc (.cells #[.string nm, .iface T x] 83)).alloc (.cells #[.slice (some ⟨g, 0, none⟩) k cap, .slice (some ⟨w1.heap.size, 0, none⟩) 1 1, .slice (some A) d (cap - bh)] 80)).drew
      fun e w' => ∃ q m cc, e = .returned (.slice q m cc) ∧ Hid (S0 w' (n + 1) (Sum.inr (Sum.inr (fs.take k ++ (nm.data.toList, c) :: fs.drop bh))) (.iface 80 (.slice q m cc))) ∧ Hid (Below w.heap.size w w') := by
  obtain ⟨e1, e2, e3⟩ := heap_two w1 (.cells #[.string nm, .iface T x] 83) (.cells #[.slice (some ⟨g, 0, none⟩) k cap, .slice (some ⟨w1.heap.size, 0, none⟩) 1 1, .slice (some A) d (cap - bh)] 80)
  have hbw : Below w.heap.size w _ := hb.trans (e3.mono hb.size)
  generalize ((w1.alloc (.cells #[.string nm, .iface T x] 83)).alloc (.cells #[.slice (some ⟨g, 0, none⟩) k cap, .slice (some ⟨w1.heap.size, 0, none⟩) 1 1, .slice (some A) d (cap - bh)] 80)).drew = W at *
  have hgW : g < W.heap.size := by have := hbw.size; omega
  have hnm : Value.string nm = strV nm.data.toList := by unfold strV; rw [ba_self]
  rw [hnm] at e1
  refine (concat3O w.heap.size w W _ _ _ k 1 d (cellsF (fs.take k) (us.take k)) [strV nm.data.toList, .iface T x] (cellsF (fs.drop bh) (us.drop bh)) (w1.heap.size + 1) rfl hbw e2 (part_takeO hgW (hI.below hbw) (hF.below hbw hg) hk) (part_newO e1) (part_behindO hgW (hI.below hbw) (hF.below hbw hg) hbh hlc hd' hA) (by omega)).mono ?_
  rintro e w2 ⟨v, rfl, hown, hb2⟩
  obtain ⟨q, m, cc, rfl⟩ := own_shape hown.out
  refine ⟨q, m, cc, rfl, ?_, hb2⟩
  have hI2 : FItems w2 (fs.take k ++ [(nm.data.toList, c)] ++ fs.drop bh) (us.take k ++ [.iface T x] ++ us.drop bh) := (((hI.take k).append (fitems_one hx)).append (hI.drop bh)).below hb2.out
  have e9 : cellsF (fs.take k ++ [(nm.data.toList, c)] ++ fs.drop bh) (us.take k ++ [.iface T x] ++ us.drop bh) = cellsF (fs.take k) (us.take k) ++ [strV nm.data.toList, .iface T x] ++ cellsF (fs.drop bh) (us.drop bh) := by
    rw [cellsF_append _ _ _ _ (by simp [hI.1]), cellsF_append _ _ _ _ (hI.take k).1]
    rfl
  have hown' := hown.out
  rw [← e9] at hown'
  have := st_of_ownsO hown' (by simp; omega) hI2
  show S0 _ _ _ _
  simpa using this
/-- what is known of what was put into an object -/
def PutOPost {n : Nat} (ys : List (Bs × J n)) (w : World) (e : Ending) (w' : World) : Prop :=
  Below w.heap.size w w' ∧ ∃ T x, e = .returned (.iface T x) ∧ S0 w' (n + 1) (Sum.inr (Sum.inr ys)) (.iface T x)
set_option maxRecDepth 100000 in
set_option maxHeartbeats 4000000 in
theorem putField_there {n : Nat} (fs : List (Bs × J n)) (c : J n) (g cap : Nat) (us : List Value) (T : TypeId) (x : Value) (s : ByteArray) (w : World) (hg : g < w.heap.size) (hlc : fs.length ≤ cap) (hcm : cap ≤ maxLen) (hI : FItems w fs us) (hF : Fields w g fs us) (hr : Rising fs) (hx : S0 w n c (.iface T x)) (hl : fs.length ≤ 2000) (ha : (fs.any fun f => f.1 == s.data.toList) = true) :
    Calls Tryz.prog 67 #[.slice (some ⟨g, 0, none⟩) fs.length cap, .string s, .iface T x] w (PutOPost (setAt fs s.data.toList c) w) := by
  have hFi := find_any g cap fs us s w hF hg hr hl hlc hcm
  rw [ha] at hFi
  obtain ⟨hlt, hfq⟩ := field_idx hr ha
  clear hfq
  have hset : setAt fs s.data.toList c = fs.take (placeOfName fs s.data.toList) ++ (s.data.toList, c) :: fs.drop (placeOfName fs s.data.toList + 1) := by
    unfold setAt
    rw [ha, if_pos rfl]
  unfold maxLen at hcm
  obtain ⟨k, hk⟩ : ∃ k, placeOfName fs s.data.toList = k := ⟨_, rfl⟩
  rw [hk] at hFi hset hlt
  obtain ⟨A, hA⟩ := named_if (cap = k + 1) ⟨g, 0, none⟩ ⟨g, (k + 1) * 2, none⟩
  have HC : Hid (∀ w1, Below w.heap.size w w1 → Calls Tryz.prog 55 #[.slice (some ⟨w1.heap.size + 1, 0, none⟩) 3 3] ((w1.alloc (.cells #[.string s, .iface T x] 83)).alloc (.cells #[.slice (some ⟨g, 0, none⟩) k cap, .slice (some ⟨w1.heap.size, 0, none⟩) 1 1, .slice (some A) (fs.length - (k + 1)) (cap - (k + 1))] 80)).drew
      fun e w' => ∃ q m cc, e = .returned (.slice q m cc) ∧ Hid (S0 w' (n + 1) (Sum.inr (Sum.inr (setAt fs s.data.toList c))) (.iface 80 (.slice q m cc))) ∧ Hid (Below w.heap.size w w')) := by
    intro w1 hb
    rw [hset]
    exact putCallO fs c g cap k (k + 1) (fs.length - (k + 1)) us s T x w w1 hb hg hlc hI hF hx hl (by omega) (by omega) rfl A hA
  have HFi : Hid (Calls Tryz.prog 54 #[.slice (some ⟨g, 0, none⟩) fs.length cap, .string s] w fun e w' => e = .returned (.tuple #[.int .i64 k, .bool true]) ∧ Below w.heap.size w w') := hFi
  have hw1 : IntKind.i64.wrap (k : Int) = (k : Int) := wrap_nat _ (by omega)
  have hw2 : IntKind.i64.wrap ((k : Int) + 1) = (k : Int) + 1 := by rw [IntKind.wrap_i64]; omega
  have h1 : (k : Int) + 1 ≤ (fs.length : Int) := by omega
  have h2 : (0 : Int) ≤ (k : Int) + 1 := by omega
  have h3 : ((k : Int) + 1).toNat = k + 1 := by omega
  have h4 : (k : Int) ≤ (cap : Int) := by omega
  clear hI hF hx hFi hset hk ha hr
  generalize setAt fs s.data.toList c = R at *
  generalize fs.length = len at *
  go_enter Tryz.func67, Tryz.ntmps67
  go_wp2_with fail
  refine Calls.mono HFi.out ?_
  rintro e w1 ⟨rfl, b1⟩
  have HB : Hid (Below w.heap.size w w1) := b1
  clear b1
  go_wp2_with fail
  go_region_with (go_at_call 55; refine Calls.mono (HC.out w1 HB.out) ?_; rintro e w3 ⟨q, m, cc, rfl, HS, HB3⟩)
  all_goals (go_wp2_with fail; go_ret)
  all_goals exact ⟨HB3.out, _, _, rfl, HS.out⟩
set_option maxRecDepth 100000 in
set_option maxHeartbeats 4000000 in
theorem putField_new {n : Nat} (fs : List (Bs × J n)) (c : J n) (g cap : Nat) (us : List Value) (T : TypeId) (x : Value) (s : ByteArray) (w : World) (hg : g < w.heap.size) (hlc : fs.length ≤ cap) (hcm : cap ≤ maxLen) (hI : FItems w fs us) (hF : Fields w g fs us) (hr : Rising fs) (hx : S0 w n c (.iface T x)) (hl : fs.length ≤ 2000) (ha : (fs.any fun f => f.1 == s.data.toList) = false) :
    Calls Tryz.prog 67 #[.slice (some ⟨g, 0, none⟩) fs.length cap, .string s, .iface T x] w (PutOPost (setAt fs s.data.toList c) w) := by
  have hFi := find_any g cap fs us s w hF hg hr hl hlc hcm
  rw [ha] at hFi
  have hlt := place_le fs s.data.toList
  have hset : setAt fs s.data.toList c = fs.take (placeOfName fs s.data.toList) ++ (s.data.toList, c) :: fs.drop (placeOfName fs s.data.toList) := by
    unfold setAt
    rw [ha, if_neg (by decide), Nat.add_zero]
  unfold maxLen at hcm
  obtain ⟨k, hk⟩ : ∃ k, placeOfName fs s.data.toList = k := ⟨_, rfl⟩
  rw [hk] at hFi hset hlt
  obtain ⟨A, hA⟩ := named_if (cap = k) ⟨g, 0, none⟩ ⟨g, k * 2, none⟩
  have HC : Hid (∀ w1, Below w.heap.size w w1 → Calls Tryz.prog 55 #[.slice (some ⟨w1.heap.size + 1, 0, none⟩) 3 3] ((w1.alloc (.cells #[.string s, .iface T x] 83)).alloc (.cells #[.slice (some ⟨g, 0, none⟩) k cap, .slice (some ⟨w1.heap.size, 0, none⟩) 1 1, .slice (some A) (fs.length - k) (cap - k)] 80)).drew
      fun e w' => ∃ q m cc, e = .returned (.slice q m cc) ∧ Hid (S0 w' (n + 1) (Sum.inr (Sum.inr (setAt fs s.data.toList c))) (.iface 80 (.slice q m cc))) ∧ Hid (Below w.heap.size w w')) := by
    intro w1 hb
    rw [hset]
    exact putCallO fs c g cap k k (fs.length - k) us s T x w w1 hb hg hlc hI hF hx hl (by omega) (by omega) rfl A hA
  have HFi : Hid (Calls Tryz.prog 54 #[.slice (some ⟨g, 0, none⟩) fs.length cap, .string s] w fun e w' => e = .returned (.tuple #[.int .i64 k, .bool false]) ∧ Below w.heap.size w w') := hFi
  have hw1 : IntKind.i64.wrap (k : Int) = (k : Int) := wrap_nat _ (by omega)
  have h1 : (k : Int) ≤ (fs.length : Int) := by omega
  have h4 : (k : Int) ≤ (cap : Int) := by omega
  clear hI hF hx hFi hset hk ha hr
  generalize setAt fs s.data.toList c = R at *
  generalize fs.length = len at *
  go_enter Tryz.func67, Tryz.ntmps67
  go_wp2_with fail
  refine Calls.mono HFi.out ?_
  rintro e w1 ⟨rfl, b1⟩
  have HB : Hid (Below w.heap.size w w1) := b1
  clear b1
  go_wp2_with fail
  go_region_with (go_at_call 55; refine Calls.mono (HC.out w1 HB.out) ?_; rintro e w3 ⟨q, m, cc, rfl, HS, HB3⟩)
  all_goals (go_wp2_with fail; go_ret)
  all_goals exact ⟨HB3.out, _, _, rfl, HS.out⟩
theorem putCallNilO {n : Nat} (c : J n) (nm : ByteArray) (T : TypeId) (x : Value) (w w1 : World) (hb : Below w.heap.size w w1) (hx : S0 w n c (.iface T x)) :
    Calls Tryz.prog 55 #[.slice (some ⟨w1.heap.size + 1, 0, none⟩) 3 3] ((w1.alloc (.cells #[.string nm, .iface T x] 83)).alloc (.cells #[.slice none 0 0, .slice (some ⟨w1.heap.size, 0, none⟩) 1 1, .slice none 0 0] 80)).drew
      fun e w' => ∃ q m cc, e = .returned (.slice q m cc) ∧ Hid (S0 w' (n + 1) (Sum.inr (Sum.inr [(nm.data.toList, c)])) (.iface 80 (.slice q m cc))) ∧ Hid (Below w.heap.size w w') := by
  obtain ⟨e1, e2, e3⟩ := heap_two w1 (.cells #[.string nm, .iface T x] 83) (.cells #[.slice none 0 0, .slice (some ⟨w1.heap.size, 0, none⟩) 1 1, .slice none 0 0] 80)
  have hbw : Below w.heap.size w _ := hb.trans (e3.mono hb.size)
  generalize ((w1.alloc (.cells #[.string nm, .iface T x] 83)).alloc (.cells #[.slice none 0 0, .slice (some ⟨w1.heap.size, 0, none⟩) 1 1, .slice none 0 0] 80)).drew = W at *
  have hnm : Value.string nm = strV nm.data.toList := by unfold strV; rw [ba_self]
  rw [hnm] at e1
  refine (concat3O w.heap.size w W _ _ _ 0 1 0 [] [strV nm.data.toList, .iface T x] [] (w1.heap.size + 1) rfl hbw e2 part_nilO (part_newO e1) part_nilO (by omega)).mono ?_
  rintro e w2 ⟨v, rfl, hown, hb2⟩
  obtain ⟨q, m, cc, rfl⟩ := own_shape hown.out
  refine ⟨q, m, cc, rfl, ?_, hb2⟩
  exact st_of_ownsO (fs := [(nm.data.toList, c)]) (us := [.iface T x]) hown.out (by simp) ((fitems_one hx).below hb2.out)
set_option maxRecDepth 100000 in
set_option maxHeartbeats 4000000 in
theorem putField_nil {n : Nat} (c : J n) (T : TypeId) (x : Value) (s : ByteArray) (w : World) (hx : S0 w n c (.iface T x)) :
    Calls Tryz.prog 67 #[.slice none 0 0, .string s, .iface T x] w (PutOPost [(s.data.toList, c)] w) := by
  have HC : Hid (∀ w1, Below w.heap.size w w1 → _) := fun w1 hb => putCallNilO c s T x w w1 hb hx
  have HFi : Hid (Calls Tryz.prog 54 #[.slice none 0 0, .string s] w fun e w' => e = .returned (.tuple #[.int .i64 0, .bool false]) ∧ Below w.heap.size w w') := find_nil s w
  clear hx
  go_enter Tryz.func67, Tryz.ntmps67
  go_wp2_with fail
  refine Calls.mono HFi.out ?_
  rintro e w1 ⟨rfl, b1⟩
  have HB : Hid (Below w.heap.size w w1) := b1
  clear b1
  go_wp2_with fail
  go_region_with (go_at_call 55; refine Calls.mono (HC.out w1 HB.out) ?_; rintro e w3 ⟨q, m, cc, rfl, HS, HB3⟩)
  all_goals (go_wp2_with fail; go_ret)
  all_goals exact ⟨HB3.out, _, _, rfl, HS.out⟩
theorem putField_any {n : Nat} (av : Nat → Prop) (fs : List (Bs × J n)) (c : J n) (v : Value) (T : TypeId) (x : Value) (s : ByteArray) (w : World) (hSt : St av w (n + 1) (Sum.inr (Sum.inr fs)) (.iface 80 v)) (hr : Rising fs) (hx : S0 w n c (.iface T x)) (hl : fs.length ≤ 2000) :
    Calls Tryz.prog 67 #[v, .string s, .iface T x] w (PutOPost (setAt fs s.data.toList c) w) := by
  obtain ⟨p, g, cap, us, hv, hp, hlc, hcm, hI, hF⟩ := hSt.fitems
  cases hv
  rcases hp with ⟨rfl, rfl, rfl⟩ | ⟨rfl, hg⟩
  · exact putField_nil c T x s w hx
  · cases ha : (fs.any fun f => f.1 == s.data.toList) with
    | true => exact putField_there fs c g cap us T x s w hg hlc hcm hI hF hr hx hl ha
    | false => exact putField_new fs c g cap us T x s w hg hlc hcm hI hF hr hx hl ha
end Go.Proofs.YtaogilpkeeigoabGreatDoor
