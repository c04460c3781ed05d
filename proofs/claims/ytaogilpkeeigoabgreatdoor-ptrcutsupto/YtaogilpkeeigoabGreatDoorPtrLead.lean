/- Contracts over this translation: what a step leads to, and what several lead to. -/
import Derived.Test.YtaogilpkeeigoabGreatDoorPtrWay
import Derived.Test.YtaogilpkeeigoabGreatDoorMeasure
namespace Go.Proofs.YtaogilpkeeigoabGreatDoor
open Go.RowKit
set_option linter.unusedVariables false
set_option linter.unusedSimpArgs false
theorem St.on {av : Nat → Prop} {w w' : World} {n : Nat} {j : J n} {v : Value} (h : St av w n j v) (hb : Below w.heap.size w w') : St av w' n j v := h.step hb.size (fun c hc _ => hb.block c hc)
/-! how great what a step leads to is -/
theorem nodes_item {n : Nat} {xs : List (J n)} {x : J n} (h : x ∈ xs) : nodes n x < nodes (n + 1) (Sum.inr (Sum.inl xs)) := by
  show nodes n x < 1 + (xs.map (nodes n)).sum
  have : ∀ l : List Nat, ∀ y ∈ l, y ≤ l.sum := by
    intro l
    induction l with
    | nil => intro y hy; simp at hy
    | cons a l ih =>
      intro y hy
      rcases List.mem_cons.1 hy with rfl | hy
      · simp
      · have := ih y hy
        simp only [List.sum_cons]
        omega
  have := this (xs.map (nodes n)) _ (List.mem_map.2 ⟨x, h, rfl⟩)
  omega
theorem nodes_field {n : Nat} {fs : List (Bs × J n)} {f : Bs × J n} (h : f ∈ fs) : nodes n f.2 < nodes (n + 1) (Sum.inr (Sum.inr fs)) := by
  show nodes n f.2 < 1 + (fs.map fun f => nodes n f.2).sum
  have : ∀ l : List Nat, ∀ y ∈ l, y ≤ l.sum := by
    intro l
    induction l with
    | nil => intro y hy; simp at hy
    | cons a l ih =>
      intro y hy
      rcases List.mem_cons.1 hy with rfl | hy
      · simp
      · have := ih y hy
        simp only [List.sum_cons]
        omega
  have := this (fs.map fun f => nodes n f.2) _ (List.mem_map.2 ⟨f, h, rfl⟩)
  omega
theorem len_nodes_list {n : Nat} (xs : List (J n)) : xs.length < nodes (n + 1) (Sum.inr (Sum.inl xs)) := by
  show xs.length < 1 + (xs.map (nodes n)).sum
  have h := sum_ge (xs.map (nodes n)) (fun y hy => by
    obtain ⟨z, _, rfl⟩ := List.mem_map.1 hy
    exact nodes_pos _ _)
  rw [List.length_map] at h
  omega
theorem len_nodes_obj {n : Nat} (fs : List (Bs × J n)) : fs.length < nodes (n + 1) (Sum.inr (Sum.inr fs)) := by
  show fs.length < 1 + (fs.map fun f => nodes n f.2).sum
  have h := sum_ge (fs.map fun f => nodes n f.2) (fun y hy => by
    obtain ⟨z, _, rfl⟩ := List.mem_map.1 hy
    exact nodes_pos _ _)
  rw [List.length_map] at h
  omega
theorem nodes_child {n : Nat} {j : J (n + 1)} {s : Bs} {c : J n} (hr : Rise (n + 1) j) (h : childP j s = some c) : nodes n c < nodes (n + 1) j := by
  match j, hr, h with
  | Sum.inr (Sum.inl xs), hr, h =>
    obtain ⟨i, hi, hx⟩ := Option.bind_eq_some_iff.1 (show ((placeP s).bind fun i => xs[i]?) = some c from h)
    exact nodes_item (List.mem_of_getElem? hx)
  | Sum.inr (Sum.inr fs), hr, h => exact nodes_field (f := (s, c)) (fieldAt_mem hr.1 h)
/-- what is known of a step's answer -/
def LeadPost {n : Nat} (av : Nat → Prop) (o : Option (J n)) (w : World) (e : Ending) (w' : World) : Prop :=
  Below w.heap.size w w' ∧ ((o = none ∧ e = .returned .nilIface) ∨ ∃ c T x, o = some c ∧ e = .returned (.iface T x) ∧ St av w' n c (.iface T x))
theorem ta_nil {P : Program} {T xT : TypeId} {d : TypeDesc} {z : Value} (w : World) (hu : P.underlying T = some d) (hd : (match d with | .interface _ => false | _ => true) = true) (hz : ∀ w, (zeroValue T).run P w = .ok z w) :
    (Instr.typeAssert .nilIface xT T true).run P w = .ok (.tuple #[z, .bool false]) w := by
  unfold Instr.typeAssert
  simp only [Sem.run_bind, run_underlying hu, Result.andThen]
  cases d <;> simp_all [Sem.run_pure, Sem.run_bind, Result.andThen]
set_option maxRecDepth 100000 in
set_option maxHeartbeats 1000000 in
theorem lead_nil (s : ByteArray) (w : World) : Calls Tryz.prog 39 #[.nilIface, .string s] w fun e w' => e = .returned .nilIface ∧ Below w.heap.size w w' := by
  have a1 : ∀ w : World, (Instr.typeAssert .nilIface 40 80 true).run Tryz.prog w = .ok (.tuple #[.slice none 0 0, .bool false]) w := fun w => ta_nil w Tryz.underlying80 rfl Tryz.zeroValue80
  have a2 : ∀ w : World, (Instr.typeAssert .nilIface 40 78 true).run Tryz.prog w = .ok (.tuple #[.slice none 0 0, .bool false]) w := fun w => ta_nil w Tryz.underlying78 rfl Tryz.zeroValue78
  go_enter Tryz.func39, Tryz.ntmps39
  go_wp2_with fail
  go_ret
  exact ⟨rfl, Below.refl _ _⟩
set_option maxRecDepth 100000 in
set_option maxHeartbeats 1000000 in
theorem lead_leaf (l : Leaf) (s : ByteArray) (w : World) : Calls Tryz.prog 39 #[leafV l, .string s] w fun e w' => e = .returned .nilIface ∧ Below w.heap.size w w' := by
  match l with
  | none =>
    obtain ⟨a1, a2, a3, a4, a5, a6⟩ := tas_Null
    unfold leafV
    go_enter Tryz.func39, Tryz.ntmps39
    go_wp2_with fail
    go_ret
    exact ⟨rfl, Below.refl _ _⟩
  | some (Sum.inl b) =>
    obtain ⟨a1, a2, a3, a4, a5, a6⟩ := tas_Bool
    unfold leafV
    go_enter Tryz.func39, Tryz.ntmps39
    go_wp2_with fail
    go_ret
    exact ⟨rfl, Below.refl _ _⟩
  | some (Sum.inr (Sum.inl i)) =>
    obtain ⟨a1, a2, a3, a4, a5, a6⟩ := tas_Number
    unfold leafV
    go_enter Tryz.func39, Tryz.ntmps39
    go_wp2_with fail
    go_ret
    exact ⟨rfl, Below.refl _ _⟩
  | some (Sum.inr (Sum.inr t)) =>
    obtain ⟨a1, a2, a3, a4, a5, a6⟩ := tas_Text
    unfold leafV
    go_enter Tryz.func39, Tryz.ntmps39
    go_wp2_with fail
    go_ret
    exact ⟨rfl, Below.refl _ _⟩
theorem field_idx {α : Type} {fs : List (Bs × α)} (hr : Rising fs) {s : Bs} (ha : (fs.any fun f => f.1 == s) = true) : ∃ h : placeOfName fs s < fs.length, fieldAt fs s = some (fs[placeOfName fs s]'h).2 := by
  obtain ⟨A, c, C, hfs, hp, hA, hC⟩ := rise_split hr ha
  have hlt : placeOfName fs s < fs.length := by rw [hp, hfs]; simp
  refine ⟨hlt, ?_⟩
  unfold fieldAt
  rw [ha, if_pos rfl, List.getElem?_eq_getElem hlt]
  rfl
set_option maxRecDepth 100000 in
set_option maxHeartbeats 2000000 in
theorem under_obj {n : Nat} (av : Nat → Prop) (fs : List (Bs × J n)) (v : Value) (s : ByteArray) (w : World) (hSt : St av w (n + 1) (Sum.inr (Sum.inr fs)) (.iface 80 v)) (hr : Rising fs) (hl : fs.length ≤ 2000) (hs : s.size ≤ 8000000) :
    Calls Tryz.prog 58 #[v, .string s] w (LeadPost av (fieldAt fs s.data.toList) w) := by
  rcases hSt with ⟨rfl, e⟩ | ⟨g, cap, vs, e, hvl, hlc, hcm, hg, hgw, hcell, hel⟩
  · injection e with _ e
    subst e
    have hF : Calls Tryz.prog 54 #[.slice none 0 0, .string s] w fun e w' => e = .returned (.tuple #[.int .i64 0, .bool false]) ∧ Below w.heap.size w w' := find_nil s w
    have HF : Hid (Calls Tryz.prog 54 #[.slice none 0 0, .string s] w fun e w' => e = .returned (.tuple #[.int .i64 0, .bool false]) ∧ Below w.heap.size w w') := hF
    clear hF
    go_enter Tryz.func58, Tryz.ntmps58
    go_wp2_with fail
    refine Calls.mono HF.out ?_
    rintro e w1 ⟨rfl, b1⟩
    have HB : Hid (Below w.heap.size w w1) := b1
    clear b1
    go_wp2_with fail
    go_ret
    exact ⟨HB.out, Or.inl ⟨rfl, rfl⟩⟩
  · injection e with _ e
    subst e
    have hF := find_any g cap fs vs s w ⟨hvl, hcell⟩ hgw hr hl hlc hcm
    cases ha : (fs.any fun f => f.1 == s.data.toList) with
    | false =>
      rw [ha] at hF
      have HN : Hid (fieldAt fs s.data.toList = none) := by
        show fieldAt _ _ = _
        unfold fieldAt
        rw [ha, if_neg (by decide)]
      have HF : Hid (Calls Tryz.prog 54 #[.slice (some ⟨g, 0, none⟩) fs.length cap, .string s] w fun e w' => e = .returned (.tuple #[.int .i64 (placeOfName fs s.data.toList), .bool false]) ∧ Below w.heap.size w w') := hF
      clear hF hcell hel ha
      generalize placeOfName fs s.data.toList = pl at *
      go_enter Tryz.func58, Tryz.ntmps58
      go_wp2_with fail
      refine Calls.mono HF.out ?_
      rintro e w1 ⟨rfl, b1⟩
      have HB : Hid (Below w.heap.size w w1) := b1
      clear b1
      go_wp2_with fail
      go_ret
      exact ⟨HB.out, Or.inl ⟨HN.out, rfl⟩⟩
    | true =>
      rw [ha] at hF
      have HF : Hid (Calls Tryz.prog 54 #[.slice (some ⟨g, 0, none⟩) fs.length cap, .string s] w fun e w' => e = .returned (.tuple #[.int .i64 (placeOfName fs s.data.toList), .bool true]) ∧ Below w.heap.size w w') := hF
      obtain ⟨hlt, hfi⟩ := field_idx hr ha
      have hu : vs[placeOfName fs s.data.toList]? = some (vs[placeOfName fs s.data.toList]'(by omega)) := List.getElem?_eq_getElem (by omega)
      have hc := (hcell _ _ _ (List.getElem?_eq_getElem hlt) hu).2
      have hst := hel _ _ _ (List.getElem?_eq_getElem hlt) hu
      have HN : Hid (fieldAt fs s.data.toList = some (fs[placeOfName fs s.data.toList]).2) := hfi
      generalize vs[placeOfName fs s.data.toList]'(by omega) = u at *
      obtain ⟨T, x, rfl⟩ := st_iface hst
      have HSt : Hid (St av w n (fs[placeOfName fs s.data.toList]).2 (.iface T x)) := hst
      have HC : Hid (∀ w1, Below w.heap.size w w1 → w1.cell? ⟨g, placeOfName fs s.data.toList * 2 + 1, none⟩ = some (.iface T x)) := fun w1 hb => by
        rw [hb.cell (p := ⟨g, placeOfName fs s.data.toList * 2 + 1, none⟩) hgw]
        exact hc
      generalize (fs[placeOfName fs s.data.toList]).2 = c at *
      generalize placeOfName fs s.data.toList = pl at *
      unfold maxLen at hcm
      have hI : (pl : Int) < (fs.length : Int) := by omega
      clear hF hcell hel ha hfi hc hst hu
      go_enter Tryz.func58, Tryz.ntmps58
      go_wp2_with fail
      refine Calls.mono HF.out ?_
      rintro e w1 ⟨rfl, b1⟩
      have HB : Hid (Below w.heap.size w w1) := b1
      have hc1 := HC.out w1 b1
      clear b1
      go_wp2_with fail
      go_ret
      exact ⟨HB.out, Or.inr ⟨c, T, x, HN.out, rfl, HSt.out.on HB.out⟩⟩
set_option maxRecDepth 100000 in
set_option maxHeartbeats 2000000 in
theorem lead_obj {n : Nat} (av : Nat → Prop) (fs : List (Bs × J n)) (v : Value) (s : ByteArray) (w : World) (hSt : St av w (n + 1) (Sum.inr (Sum.inr fs)) v) (hr : Rising fs) (hl : fs.length ≤ 2000) (hs : s.size ≤ 8000000) :
    Calls Tryz.prog 39 #[v, .string s] w (LeadPost av (fieldAt fs s.data.toList) w) := by
  obtain ⟨a1, a2, a3, a4, a5, a6⟩ := tas_Object
  obtain ⟨p, g, cap, vs, hv, _⟩ := hSt.obj
  subst hv
  have HU : Hid (Calls Tryz.prog 58 #[.slice p fs.length cap, .string s] w (LeadPost av (fieldAt fs s.data.toList) w)) := under_obj av fs _ s w hSt hr hl hs
  clear hSt hr hl
  generalize fieldAt fs s.data.toList = o at *
  go_enter Tryz.func39, Tryz.ntmps39
  go_wp2_with fail
  refine Calls.mono HU.out ?_
  rintro e w1 ⟨b1, h1⟩
  have HB : Hid (Below w.heap.size w w1) := b1
  clear b1
  rcases h1 with ⟨h1, rfl⟩ | ⟨c, T, x, h1, rfl, h2⟩
  · have HN : Hid (o = none) := h1
    clear h1
    go_wp2_with fail
    go_ret
    exact ⟨HB.out, Or.inl ⟨HN.out, rfl⟩⟩
  · have HN : Hid (o = some c) := h1
    have HSt : Hid (St av w1 n c (.iface T x)) := h2
    clear h1 h2
    go_wp2_with fail
    go_ret
    exact ⟨HB.out, Or.inr ⟨c, T, x, HN.out, rfl, HSt.out⟩⟩
set_option maxRecDepth 100000 in
set_option maxHeartbeats 2000000 in
theorem lead_list {n : Nat} (av : Nat → Prop) (xs : List (J n)) (v : Value) (s : ByteArray) (w : World) (hSt : St av w (n + 1) (Sum.inr (Sum.inl xs)) v) (hs : s.size ≤ 8000000) (hE : Env w) :
    Calls Tryz.prog 39 #[v, .string s] w (LeadPost av ((placeP s.data.toList).bind fun i => xs[i]?) w) := by
  obtain ⟨a1, a2, a3, a4, a5, a6⟩ := tas_List
  obtain ⟨p, g, cap, vs, rfl, hpp, hvl, hlc, hcm, hcell, hel⟩ := hSt.list
  unfold maxLen at hcm
  have HP : Hid (Calls Tryz.prog 56 #[.string s] w (PlacePost s.data.toList w)) := place_any s w hs hE
  have HEl : Hid (∀ w1, Below w.heap.size w w1 → ∀ k (hk : k < xs.length), ∃ T x, p = some ⟨g, 0, none⟩ ∧ w1.cell? ⟨g, k, none⟩ = some (.iface T x) ∧ St av w1 n xs[k] (.iface T x)) := by
    intro w1 hb k hk
    have hu : vs[k]? = some (vs[k]'(by omega)) := List.getElem?_eq_getElem (by omega)
    have hst := hel k xs[k] _ (List.getElem?_eq_getElem hk) hu
    obtain ⟨T, x, hx⟩ := st_iface hst
    rw [hx] at hu hst
    exact ⟨T, x, (hpp k hk).1, by rw [hb.cell (p := ⟨g, k, none⟩) (hpp k hk).2.2]; exact hcell k _ hu, hst.on hb⟩
  clear hcell hel hpp
  go_enter Tryz.func39, Tryz.ntmps39
  go_wp2_with fail
  refine Calls.mono HP.out ?_
  rintro e w1 ⟨b1, h1⟩
  have HB : Hid (Below w.heap.size w w1) := b1
  clear b1
  rcases h1 with ⟨i, hi, hi63, rfl⟩ | ⟨k, hk, rfl⟩
  · have HI : Hid (placeP s.data.toList = some i) := hi
    clear hi
    by_cases hlt : i < xs.length
    · obtain ⟨T, x, rfl, hc, hst⟩ := HEl.out w1 HB.out i hlt
      have HSt : Hid (St av w1 n xs[i] (.iface T x)) := hst
      have hI : (i : Int) < (xs.length : Int) := by omega
      clear hst
      go_wp2_with fail
      go_ret
      exact ⟨HB.out, Or.inr ⟨xs[i], T, x, by rw [HI.out, Option.bind_some, List.getElem?_eq_getElem hlt], rfl, HSt.out⟩⟩
    · have hI : decide ((i : Int) < (xs.length : Int)) = false := decide_eq_false (by omega)
      go_wp2_with fail
      go_ret
      exact ⟨HB.out, Or.inl ⟨by rw [HI.out, Option.bind_some, List.getElem?_eq_none (by omega)], rfl⟩⟩
  · have HI : Hid (placeP s.data.toList = none) := hk
    clear hk
    go_wp2_with fail
    go_ret
    exact ⟨HB.out, Or.inl ⟨by rw [HI.out]; rfl, rfl⟩⟩
theorem lead_any {n : Nat} (av : Nat → Prop) (j : J (n + 1)) (v : Value) (s : ByteArray) (w : World) (hSt : St av w (n + 1) j v) (hr : Rise (n + 1) j) (hn : nodes (n + 1) j ≤ 2000) (hs : s.size ≤ 8000000) (hE : Env w) :
    Calls Tryz.prog 39 #[v, .string s] w (LeadPost av (childP j s.data.toList) w) := by
  match j, hSt, hr, hn with
  | Sum.inl l, hSt, hr, hn =>
    have e : v = leafV l := hSt
    subst e
    refine (lead_leaf l s w).mono ?_
    rintro e w1 ⟨rfl, b1⟩
    exact ⟨b1, Or.inl ⟨rfl, rfl⟩⟩
  | Sum.inr (Sum.inl xs), hSt, hr, hn => exact lead_list av xs v s w hSt hs hE
  | Sum.inr (Sum.inr fs), hSt, hr, hn => exact lead_obj av fs v s w hSt hr.1 (by have := len_nodes_obj fs; omega) hs
/-- the steps that are left lead to what all steps lead to -/
theorem getP_child {n : Nat} {j : J (n + 1)} {s : Bs} {r : List Bs} {c : J n} (h : childP j s = some c) : getP (n + 1) j (s :: r) = (getP n c r).map (lift n (n + 1)) := by
  show ((childP j s).bind fun c => (getP n c r).map (lift n (n + 1))) = _
  rw [h]
  rfl
theorem getP_lost {n : Nat} {j : J (n + 1)} {s : Bs} {r : List Bs} (h : childP j s = none) : getP (n + 1) j (s :: r) = none := by
  show ((childP j s).bind fun c => (getP n c r).map (lift n (n + 1))) = _
  rw [h]
  rfl
theorem getP_nil (n : Nat) (j : J n) : getP n j [] = some j := by cases n <;> rfl
/-- what is known of what several steps lead to -/
def FindPost {N : Nat} (av : Nat → Prop) (o : Option (J N)) (w : World) (e : Ending) (w' : World) : Prop :=
  Below w.heap.size w w' ∧ ((o = none ∧ e = .returned .nilIface) ∨ ∃ (m : Nat) (c : J m) (T : TypeId) (x : Value), m ≤ N ∧ o = some (lift m N c) ∧ e = .returned (.iface T x) ∧ St av w' m c (.iface T x))
/-- a value on the way -/
def OnWay {N : Nat} (av : Nat → Prop) (D : J N) (L : List Bs) (k : Nat) (u : Value) (wr : World) : Prop :=
  (u = .nilIface ∧ getP N D L = none) ∨ ∃ (m : Nat) (c : J m) (T : TypeId) (x : Value), u = .iface T x ∧ m ≤ N ∧ St av wr m c (.iface T x) ∧ Rise m c ∧ nodes m c ≤ 2000 ∧ getP N D L = (getP m c (L.drop k)).map (lift m N)
theorem onWay_step {N : Nat} {av : Nat → Prop} {D : J N} {L : List Bs} {k : Nat} {wr w1 : World} {e : Ending} {m : Nat} {c : J (m + 1)} (hk : k < L.length) (hm : m + 1 ≤ N) (hr : Rise (m + 1) c) (hn : nodes (m + 1) c ≤ 2000) (hg : getP N D L = (getP (m + 1) c (L.drop k)).map (lift (m + 1) N))
    (h : LeadPost av (childP c L[k]) wr e w1) : ∃ u, e = .returned u ∧ (u = .nilIface ∨ ∃ T x, u = .iface T x) ∧ OnWay av D L (k + 1) u w1 := by
  obtain ⟨_, h⟩ := h
  rw [List.drop_eq_getElem_cons hk] at hg
  rcases h with ⟨h1, rfl⟩ | ⟨c', T, x, h1, rfl, h2⟩
  · exact ⟨_, rfl, Or.inl rfl, Or.inl ⟨rfl, by rw [hg, getP_lost h1]; rfl⟩⟩
  · refine ⟨_, rfl, Or.inr ⟨T, x, rfl⟩, Or.inr ⟨m, c', T, x, rfl, by omega, h2, rise_child hr h1, by have := nodes_child hr h1; omega, ?_⟩⟩
    rw [hg, getP_child h1, Option.map_map]
    congr 1
    funext y
    exact lift_lift m (m + 1) N y (Nat.le_trans (depth_bound m y) (by omega))
theorem onWay_leaf {N : Nat} {av : Nat → Prop} {D : J N} {L : List Bs} {k : Nat} {w1 : World} {c : J 0} (hk : k < L.length) (hg : getP N D L = (getP 0 c (L.drop k)).map (lift 0 N)) : OnWay av D L (k + 1) .nilIface w1 := by
  rw [List.drop_eq_getElem_cons hk] at hg
  exact Or.inl ⟨rfl, by rw [hg]; rfl⟩
set_option maxRecDepth 100000 in
set_option maxHeartbeats 4000000 in
theorem findSteps_any {N : Nat} (av : Nat → Prop) (D : J N) (T : TypeId) (x : Value) (vl : Value) (L : List Bs) (w : World) (hSt : St av w N D (.iface T x)) (hr : Rise N D) (hn : nodes N D ≤ 2000) (hL : Strs w vl L) (hlen : L.length ≤ 100) (hsz : ∀ s ∈ L, s.length ≤ 8000000) (hE : Env w) :
    Calls Tryz.prog 21 #[.iface T x, vl] w (FindPost av (getP N D L) w) := by
  have HO : Hid (OnWay av D L 0 (.iface T x) w) := Or.inr ⟨N, D, T, x, rfl, Nat.le_refl _, hSt, hr, hn, by
    rw [List.drop_zero]
    cases getP N D L with
    | none => rfl
    | some c => show some c = some (lift N N c); rw [lift_self]⟩
  have HEnd : Hid (∀ u wr, OnWay av D L L.length u wr → (u = .nilIface ∧ getP N D L = none) ∨ ∃ (m : Nat) (c : J m) (T : TypeId) (x : Value), u = .iface T x ∧ m ≤ N ∧ getP N D L = some (lift m N c) ∧ St av wr m c (.iface T x)) := by
    intro u wr h
    rcases h with h | ⟨m, c, T, x, h1, h2, h3, _, _, h4⟩
    · exact Or.inl h
    · rw [List.drop_length, getP_nil] at h4
      exact Or.inr ⟨m, c, T, x, h1, h2, h4, h3⟩
  have HE : Hid (Env w) := hE
  have HC : Hid (∀ w1, Below w.heap.size w w1 → ∀ k (hk : k < L.length), ∃ g o cap, vl = .slice (some ⟨g, o, none⟩) L.length cap ∧ L.length ≤ cap ∧ w1.cell? ⟨g, o + k, none⟩ = some (.string ⟨L[k].toArray⟩)) := by
    intro w1 hb k hk
    rcases hL with ⟨rfl, _⟩ | ⟨g, o, cap, h1, h2, h3, h4, h5⟩
    · simp at hk
    · exact ⟨g, o, cap, h1, h2, by rw [hb.cell (p := ⟨g, o + k, none⟩) h4]; exact h5 k _ (List.getElem?_eq_getElem hk)⟩
  have HZ : Hid (∀ k (hk : k < L.length), (⟨L[k].toArray⟩ : ByteArray).size ≤ 8000000) := fun k hk => by
    rw [size_of]
    exact hsz _ (List.getElem_mem hk)
  have hsh : ∃ q c, vl = .slice q L.length c := by
    rcases hL with ⟨rfl, q, c, h⟩ | ⟨g, o, cap, h1, _⟩
    · exact ⟨q, c, h⟩
    · exact ⟨_, _, h1⟩
  obtain ⟨q, cp, hq⟩ := hsh
  subst hq
  clear hSt hr hn hL hsz hE
  go_enter Tryz.func21, Tryz.ntmps21
  go_wp2_with fail
  go_loopw [0, 9] (fun u i wr => ∃ k : Nat, k ≤ L.length ∧ i = .int .i64 k ∧ OnWay av D L k u wr ∧ Below w.heap.size w wr) (fun _ i _ => L.length - (intOf i).toNat)
  case atStart => exact ⟨0, Nat.zero_le _, rfl, HO.out, Below.refl _ _⟩
  case round =>
    obtain ⟨k, hk, rfl, hon, hbel⟩ := hrel
    have HB : Hid (Below w.heap.size w wr) := hbel
    have HOn : Hid (OnWay av D L k u0 wr) := hon
    clear hbel hon
    by_cases hlt : k < L.length
    · obtain ⟨g, o, cap, hvl, hlc, hc⟩ := HC.out wr HB.out k hlt
      cases hvl
      have hz := HZ.out k hlt
      have HD : Hid ((⟨L[k].toArray⟩ : ByteArray).data.toList = L[k]) := by show _ = _; simp
      generalize hy : (⟨L[k].toArray⟩ : ByteArray) = y at *
      have HL' : Hid (Calls Tryz.prog 39 #[u0, .string y] wr fun e w' => (∃ u, e = .returned u ∧ (u = .nilIface ∨ ∃ T x, u = .iface T x) ∧ OnWay av D L (k + 1) u w') ∧ Below wr.heap.size wr w') := by
        show Calls Tryz.prog 39 #[u0, .string y] wr fun e w' => (∃ u, e = .returned u ∧ (u = .nilIface ∨ ∃ T x, u = .iface T x) ∧ OnWay av D L (k + 1) u w') ∧ Below wr.heap.size wr w'
        rcases HOn.out with ⟨rfl, h1⟩ | ⟨m, c, T, x, rfl, h2, h3, h4, h5, h6⟩
        · refine (lead_nil y wr).mono ?_
          rintro e w1 ⟨rfl, b1⟩
          exact ⟨⟨_, rfl, Or.inl rfl, Or.inl ⟨rfl, h1⟩⟩, b1⟩
        · cases m with
          | zero =>
            have e : Value.iface T x = leafV c := h3
            rw [e]
            refine (lead_leaf c y wr).mono ?_
            rintro e w1 ⟨rfl, b1⟩
            exact ⟨⟨_, rfl, Or.inl rfl, onWay_leaf hlt h6⟩, b1⟩
          | succ m =>
            have h := lead_any av c (.iface T x) y wr h3 h4 h5 hz (HE.out.below HB.out)
            rw [HD.out] at h
            refine h.mono ?_
            intro e w1 h7
            exact ⟨onWay_step hlt h2 h4 h5 h6 h7, h7.1⟩
      go_wp2_with fail
      refine Calls.mono HL'.out ?_
      rintro e w1 ⟨⟨u, rfl, hu, hon⟩, b1⟩
      have HOn1 : Hid (OnWay av D L (k + 1) u w1) := hon
      have HB1 : Hid (Below w.heap.size w w1) := HB.out.trans (b1.mono HB.out.size)
      clear b1 hon hu hc
      go_wp2_with fail
      go_roundw
      case rel => exact ⟨k + 1, by omega, by go_num, HOn1.out, HB1.out⟩
      case measure => simp [intOf]; omega
    · have hke : k = L.length := by omega
      have HX := HEnd.out u0 wr (by have := HOn.out; rw [hke] at this; exact this)
      have HX' : Hid ((u0 = .nilIface ∧ getP N D L = none) ∨ ∃ (m : Nat) (c : J m) (T : TypeId) (x : Value), u0 = .iface T x ∧ m ≤ N ∧ getP N D L = some (lift m N c) ∧ St av wr m c (.iface T x)) := HX
      clear HX
      go_wp2_with fail
      go_ret
      refine ⟨HB.out, ?_⟩
      rcases HX'.out with ⟨rfl, h⟩ | ⟨m, c, T, x, rfl, h1, h2, h3⟩
      · exact Or.inl ⟨h, rfl⟩
      · exact Or.inr ⟨m, c, T, x, h1, h2, rfl, h3⟩
end Go.Proofs.YtaogilpkeeigoabGreatDoor
