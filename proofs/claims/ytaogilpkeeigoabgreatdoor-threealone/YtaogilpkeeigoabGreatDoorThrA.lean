/- Contracts over this translation of FieldsOf and of what an object has under a name. -/
import Derived.Test.YtaogilpkeeigoabGreatDoorThrNames
import Derived.Test.YtaogilpkeeigoabGreatDoorTop
import Derived.Test.YtaogilpkeeigoabGreatDoorKindAny
import Derived.Test.YtaogilpkeeigoabGreatDoorInsert
import Derived.Test.YtaogilpkeeigoabGreatDoorObjPlain
import Derived.Handy
namespace Go.Proofs.YtaogilpkeeigoabGreatDoor
open Go.RowKit
set_option linter.unusedVariables false
set_option linter.unusedSimpArgs false
theorem St.ona {av : Nat → Prop} {w w' : World} {n : Nat} {j : J n} {v : Value} (h : St av w n j v) (hb : Below w.heap.size w w') : St av w' n j v := h.step hb.size (fun c hc _ => hb.block c hc)
/-- a value that may lack -/
def OptV (av : Nat → Prop) (w : World) (n : Nat) (o : Option (J n)) (v : Value) : Prop :=
  (o = none ∧ v = .nilIface) ∨ ∃ (j : J n) (T : TypeId) (x : Value), o = some j ∧ v = .iface T x ∧ St av w n j (.iface T x)
theorem OptV.below {av : Nat → Prop} {w w' : World} {n : Nat} {o : Option (J n)} {v : Value} (h : OptV av w n o v) (hb : Below w.heap.size w w') : OptV av w' n o v := by
  rcases h with h | ⟨j, T, x, h1, h2, h3⟩
  · exact Or.inl h
  · exact Or.inr ⟨j, T, x, h1, h2, h3.ona hb⟩
theorem OptV.move {av av' : Nat → Prop} {w w' : World} {n : Nat} {o : Option (J n)} {v : Value} (h : OptV av w n o v) (hs : w.heap.size ≤ w'.heap.size) (hb : ∀ c, c < w.heap.size → ¬ av c → w'.heap[c]? = w.heap[c]?) (ha : ∀ c, c < w.heap.size → ¬ av c → ¬ av' c) : OptV av' w' n o v := by
  rcases h with h | ⟨j, T, x, h1, h2, h3⟩
  · exact Or.inl h
  · exact Or.inr ⟨j, T, x, h1, h2, St.move hs hb ha n j _ h3⟩
theorem below_grown {w w' : World} (h : Below w.heap.size w w') : w.grownBy w' none := ⟨h.os, h.tape, h.output, h.size, fun k hk _ => h.block k hk⟩
theorem new_two (w : World) (x y : Value) (e : TypeId) : ∀ (j : Nat) (u : Value), [x, y][j]? = some u → (w.alloc (.cells #[x, y] e)).cell? ((⟨w.heap.size, 0, none⟩ : Addr).add j) = some u := by
  intro j u hj
  match j, hj with
  | 0, hj => simp at hj; subst hj; simp [Addr.add]
  | 1, hj => simp at hj; subst hj; simp [Addr.add]
theorem two_of {x y : Value} (h : x.oneCell' = true) (k : y.oneCell' = true) : ∀ u ∈ [x, y], u.oneCell' = true := by
  intro u hu
  simp at hu
  rcases hu with rfl | rfl
  · exact h
  · exact k
theorem Tab.on {w w' : World} (h : Tab w.heap.size w) (hb : Below w.heap.size w w') : Tab w'.heap.size w' := (h.below hb).mono hb.size
def isObjJ : (n : Nat) → J n → Bool
  | 0, _ => false
  | _ + 1, Sum.inl _ => false
  | _ + 1, Sum.inr (Sum.inl _) => false
  | _ + 1, Sum.inr (Sum.inr _) => true
theorem leaf_type {l : Leaf} {T : TypeId} {x : Value} (h : Value.iface T x = leafV l) : T ≠ 80 := by
  rcases l with _ | b | i | s
  · cases h; decide
  · cases h; decide
  · cases h; decide
  · cases h; decide
theorem flat_type {av : Nat → Prop} {w : World} : ∀ {n : Nat} {j : J n} {T : TypeId} {x : Value}, St av w n j (.iface T x) → isObjJ n j = false → T ≠ 80
  | 0, _, _, _, h, _ => leaf_type h
  | _ + 1, Sum.inl _, _, _, h, _ => leaf_type h
  | _ + 1, Sum.inr (Sum.inl xs), _, _, h, _ => by
    obtain ⟨p, g, cap, vs, hv, _⟩ := h.list
    cases hv
    decide
  | _ + 1, Sum.inr (Sum.inr _), _, _, _, h => by cases h
theorem ta_flat {T : TypeId} (h : T ≠ 80) : ∀ (x : Value) (w : World), (Instr.typeAssert (.iface T x) 40 80 true).run Tryz.prog w = .ok (.tuple #[.slice none 0 0, .bool false]) w :=
  fun x w => ta_miss w Tryz.underlying80 rfl Tryz.zeroValue80 h x
theorem ta_nil (w : World) : (Instr.typeAssert .nilIface 40 80 true).run Tryz.prog w = .ok (.tuple #[.slice none 0 0, .bool false]) w := by
  unfold Instr.typeAssert
  simp [Sem.run_bind, run_underlying Tryz.underlying80, Result.andThen, Sem.run_pure, Tryz.zeroValue80]
theorem fields_flat {n : Nat} {j : J (n + 1)} (h : isObjJ (n + 1) j = false) : fieldsP (some j) = [] := by
  match j, h with
  | Sum.inl _, _ => rfl
  | Sum.inr (Sum.inl _), _ => rfl
theorem obj_st {av : Nat → Prop} {w : World} {n : Nat} {fs : List (Bs × J n)} {T : TypeId} {x : Value} (h : St av w (n + 1) (Sum.inr (Sum.inr fs)) (.iface T x)) : T = 80 ∧ ∃ p cap, x = .slice p fs.length cap := by
  obtain ⟨p, g, cap, vs, e, _⟩ := h.obj
  injection e with e1 e2
  exact ⟨e1, p, cap, e2⟩
set_option maxRecDepth 100000 in
set_option maxHeartbeats 1000000 in
theorem fieldsOf_val (av : Nat → Prop) (n : Nat) (d : Option (J (n + 1))) (v : Value) (w : World) (h : OptV av w (n + 1) d v) :
    ∃ p cap, (∀ w1, Calls Tryz.prog 112 #[v] w1 fun e w' => e = .returned (.slice p (fieldsP d).length cap) ∧ w' = w1) ∧ St av w (n + 1) (Sum.inr (Sum.inr (fieldsP d))) (.iface 80 (.slice p (fieldsP d).length cap)) := by
  rcases h with ⟨rfl, rfl⟩ | ⟨j, T, x, rfl, rfl, hst⟩
  · have ht := ta_nil
    refine ⟨none, 0, fun w1 => ?_, Or.inl ⟨rfl, rfl⟩⟩
    go_enter Tryz.func112, Tryz.ntmps112
    go_wp2_with fail
    go_ret
    exact ⟨rfl, rfl⟩
  · cases hj : isObjJ (n + 1) j with
    | false =>
      have ht := ta_flat (flat_type hst hj)
      rw [fields_flat hj]
      refine ⟨none, 0, fun w1 => ?_, Or.inl ⟨rfl, rfl⟩⟩
      clear hst hj
      go_enter Tryz.func112, Tryz.ntmps112
      go_wp2_with fail
      go_ret
      exact ⟨rfl, rfl⟩
    | true =>
      match j, hj, hst with
      | Sum.inr (Sum.inr fs), _, hst =>
        obtain ⟨rfl, p, cap, rfl⟩ := obj_st hst
        refine ⟨p, cap, fun w1 => ?_, hst⟩
        obtain ⟨a1, a2, a3, a4, a5, a6⟩ := tas_Object
        have HF : Hid (fieldsP (some (Sum.inr (Sum.inr fs) : J (n + 1))) = fs) := rfl
        rw [HF.out]
        clear hst
        go_enter Tryz.func112, Tryz.ntmps112
        go_wp2_with fail
        go_ret
        exact ⟨rfl, rfl⟩
theorem look_place {α : Type} {fs : List (Bs × α)} (hr : Rising fs) {s : Bs} (ha : (fs.any fun f => f.1 == s) = true) : ∃ h : placeOfName fs s < fs.length, look fs s = some (fs[placeOfName fs s]'h).2 := by
  have h := any_place hr s
  rw [ha] at h
  cases hf : fs[placeOfName fs s]? with
  | none => rw [hf] at h; cases h
  | some f =>
    rw [hf] at h
    have hc : Lib.compareBytes f.1 s = 0 := of_decide_eq_true h.symm
    have e := cmp_eq _ _ hc
    obtain ⟨hlt, he⟩ := List.getElem?_eq_some_iff.1 hf
    refine ⟨hlt, ?_⟩
    rw [he, ← e]
    exact look_of_mem hr (List.mem_of_getElem? hf)
theorem look_any {α : Type} {fs : List (Bs × α)} {s : Bs} (ha : (fs.any fun f => f.1 == s) = false) : look fs s = none := by
  refine look_not ?_
  rintro ⟨f, hf, rfl⟩
  rw [List.any_eq_false] at ha
  exact ha f hf (by simp)
set_option maxRecDepth 100000 in
set_option maxHeartbeats 1000000 in
theorem under_val (av : Nat → Prop) (n : Nat) (fs : List (Bs × J n)) (p : Option Addr) (cap : Nat) (nm : ByteArray) (w : World) (h : St av w (n + 1) (Sum.inr (Sum.inr fs)) (.iface 80 (.slice p fs.length cap))) (hr : Rising fs) (hl : fs.length ≤ 2000) :
    ∃ u, OptV av w n (look fs nm.data.toList) u ∧ ∀ w1, Below w.heap.size w w1 → Calls Tryz.prog 58 #[.slice p fs.length cap, .string nm] w1 fun e w' => e = .returned u ∧ Below w1.heap.size w1 w' := by
  rcases h with ⟨rfl, e⟩ | ⟨g, cap', vs, e, hvl, hlc, hcm, hg, hgw, hcell, hel⟩
  · injection e with _ e
    injection e with e1 _ e2
    subst e1 e2
    refine ⟨.nilIface, Or.inl ⟨rfl, rfl⟩, fun w1 b1 => ?_⟩
    have HF : Hid (Calls Tryz.prog 54 #[.slice none 0 0, .string nm] w1 fun e w' => e = .returned (.tuple #[.int .i64 0, .bool false]) ∧ Below w1.heap.size w1 w') := find_nil nm w1
    clear b1 hr hl
    rw [List.length_nil]
    go_enter Tryz.func58, Tryz.ntmps58
    go_wp2_with fail
    refine Calls.mono HF.out ?_
    rintro e w2 ⟨rfl, b2⟩
    have HB : Hid (Below w1.heap.size w1 w2) := b2
    clear b2
    go_wp2_with fail
    go_ret
    exact ⟨rfl, HB.out⟩
  · injection e with _ e
    injection e with e1 _ e2
    subst e1 e2
    cases ha : (fs.any fun f => f.1 == nm.data.toList) with
    | false =>
      refine ⟨.nilIface, Or.inl ⟨look_any ha, rfl⟩, fun w1 b1 => ?_⟩
      have hF := find_any g cap fs vs nm w1 (Fields.below ⟨hvl, hcell⟩ b1 hgw) (by have := b1.size; omega) hr hl hlc hcm
      rw [ha] at hF
      have HF : Hid (Calls Tryz.prog 54 #[.slice (some ⟨g, 0, none⟩) fs.length cap, .string nm] w1 fun e w' => e = .returned (.tuple #[.int .i64 (placeOfName fs nm.data.toList), .bool false]) ∧ Below w1.heap.size w1 w') := hF
      clear hF hcell hel ha b1
      generalize placeOfName fs nm.data.toList = pl at *
      go_enter Tryz.func58, Tryz.ntmps58
      go_wp2_with fail
      refine Calls.mono HF.out ?_
      rintro e w2 ⟨rfl, b2⟩
      have HB : Hid (Below w1.heap.size w1 w2) := b2
      clear b2
      go_wp2_with fail
      go_ret
      exact ⟨rfl, HB.out⟩
    | true =>
      obtain ⟨hlt, hfi⟩ := look_place hr ha
      have hu : vs[placeOfName fs nm.data.toList]? = some (vs[placeOfName fs nm.data.toList]'(by omega)) := List.getElem?_eq_getElem (by omega)
      have hc := hcell _ _ _ (List.getElem?_eq_getElem hlt) hu
      have hst := hel _ _ _ (List.getElem?_eq_getElem hlt) hu
      obtain ⟨T, x, hx⟩ := st_iface hst
      rw [hx] at hc hst
      refine ⟨.iface T x, Or.inr ⟨_, T, x, hfi, rfl, hst⟩, fun w1 b1 => ?_⟩
      have hF := find_any g cap fs vs nm w1 (Fields.below ⟨hvl, hcell⟩ b1 hgw) (by have := b1.size; omega) hr hl hlc hcm
      rw [ha] at hF
      have HF : Hid (Calls Tryz.prog 54 #[.slice (some ⟨g, 0, none⟩) fs.length cap, .string nm] w1 fun e w' => e = .returned (.tuple #[.int .i64 (placeOfName fs nm.data.toList), .bool true]) ∧ Below w1.heap.size w1 w') := hF
      have HC : Hid (∀ w2, Below w1.heap.size w1 w2 → w2.cell? ⟨g, placeOfName fs nm.data.toList * 2, none⟩ = some (.string ⟨(fs[placeOfName fs nm.data.toList].1).toArray⟩) ∧ w2.cell? ⟨g, placeOfName fs nm.data.toList * 2 + 1, none⟩ = some (.iface T x)) := fun w2 b2 => by
        have b12 := b1.trans (b2.mono b1.size)
        exact ⟨by rw [b12.cell (p := ⟨g, placeOfName fs nm.data.toList * 2, none⟩) hgw]; exact hc.1, by rw [b12.cell (p := ⟨g, placeOfName fs nm.data.toList * 2 + 1, none⟩) hgw]; exact hc.2⟩
      unfold maxLen at hcm
      clear hF hcell hel ha b1 hu hst hx hc hfi
      generalize (⟨(fs[placeOfName fs nm.data.toList].1).toArray⟩ : ByteArray) = nm' at *
      generalize placeOfName fs nm.data.toList = pl at *
      go_enter Tryz.func58, Tryz.ntmps58
      go_wp2_with fail
      refine Calls.mono HF.out ?_
      rintro e w2 ⟨rfl, b2⟩
      have HB : Hid (Below w1.heap.size w1 w2) := b2
      obtain ⟨c1, c2⟩ := HC.out w2 b2
      have hpI : (pl : Int) < (fs.length : Int) := by omega
      clear b2
      go_wp2_with fail
      go_ret
      exact ⟨rfl, HB.out⟩
end Go.Proofs.YtaogilpkeeigoabGreatDoor
