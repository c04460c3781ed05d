/- Contracts over this translation: what is put where a step leads. -/
import Derived.Test.YtaogilpkeeigoabGreatDoorPtrPutO
namespace Go.Proofs.YtaogilpkeeigoabGreatDoor
open Go.RowKit
set_option linter.unusedVariables false
set_option linter.unusedSimpArgs false
/-- what is known of a value that was made -/
def MadePost (n : Nat) (r : Except Nat (J n)) (w : World) (e : Ending) (w' : World) : Prop :=
  Below w.heap.size w w' ∧ ((∃ er : Nat, r = .error er ∧ er ≠ 0 ∧ er < 100 ∧ e = .returned (.tuple #[.nilIface, .int .i64 er])) ∨ ∃ j' T x, r = .ok j' ∧ e = .returned (.tuple #[.iface T x, .int .i64 0]) ∧ S0 w' n j' (.iface T x))
set_option maxRecDepth 100000 in
set_option maxHeartbeats 1000000 in
theorem put_leaf (l : Leaf) (s : ByteArray) (y : Value) (w : World) : Calls Tryz.prog 44 #[leafV l, .string s, y] w fun e w' => e = .returned (.tuple #[.nilIface, .int .i64 7]) ∧ Below w.heap.size w w' := by
  match l with
  | none =>
    obtain ⟨a1, a2, a3, a4, a5, a6⟩ := tas_Null
    unfold leafV
    go_enter Tryz.func44, Tryz.ntmps44
    go_wp2_with fail
    go_ret2
    exact ⟨rfl, Below.refl _ _⟩
  | some (Sum.inl b) =>
    obtain ⟨a1, a2, a3, a4, a5, a6⟩ := tas_Bool
    unfold leafV
    go_enter Tryz.func44, Tryz.ntmps44
    go_wp2_with fail
    go_ret2
    exact ⟨rfl, Below.refl _ _⟩
  | some (Sum.inr (Sum.inl i)) =>
    obtain ⟨a1, a2, a3, a4, a5, a6⟩ := tas_Number
    unfold leafV
    go_enter Tryz.func44, Tryz.ntmps44
    go_wp2_with fail
    go_ret2
    exact ⟨rfl, Below.refl _ _⟩
  | some (Sum.inr (Sum.inr t)) =>
    obtain ⟨a1, a2, a3, a4, a5, a6⟩ := tas_Text
    unfold leafV
    go_enter Tryz.func44, Tryz.ntmps44
    go_wp2_with fail
    go_ret2
    exact ⟨rfl, Below.refl _ _⟩
theorem put_leafP {n : Nat} (l : Leaf) (s : ByteArray) (c : J n) (y : Value) (w : World) : Calls Tryz.prog 44 #[leafV l, .string s, y] w (MadePost (n + 1) (putAt (Sum.inl l) s.data.toList c) w) := by
  refine (put_leaf l s y w).mono ?_
  rintro e w1 ⟨rfl, b1⟩
  exact ⟨b1, Or.inl ⟨7, rfl, by decide, by decide, rfl⟩⟩
set_option maxRecDepth 100000 in
set_option maxHeartbeats 2000000 in
theorem put_list2 {n : Nat} (xs : List (J n)) (c : J n) (v : Value) (s : ByteArray) (T : TypeId) (x : Value) (w : World) (hSt : S0 w (n + 1) (Sum.inr (Sum.inl xs)) v) (hx : S0 w n c (.iface T x)) (hl : xs.length ≤ 2000) (hs : s.size ≤ 8000000) (hE : Env w) :
    Calls Tryz.prog 44 #[v, .string s, .iface T x] w (MadePost (n + 1) (putAt (Sum.inr (Sum.inl xs)) s.data.toList c) w) := by
  obtain ⟨a1, a2, a3, a4, a5, a6⟩ := tas_List
  obtain ⟨p, g, cap, us, rfl, _⟩ := hSt.items
  have hP := putItem_any _ xs c _ T x s w hSt hx hl hs hE
  have HE : Hid (putAt (Sum.inr (Sum.inl xs)) s.data.toList c = match (putIdx xs.length s.data.toList).map fun i => xs.take i ++ c :: xs.drop (i + 1) with
      | none => .error eNone
      | some ys => .ok (Sum.inr (Sum.inl ys))) := by
    show putAt _ _ _ = _
    unfold putAt
    cases hq : putIdx xs.length s.data.toList <;> simp [hq]
  generalize ((putIdx xs.length s.data.toList).map fun i => xs.take i ++ c :: xs.drop (i + 1)) = o at *
  generalize putAt (Sum.inr (Sum.inl xs)) s.data.toList c = r at *
  have HP : Hid (Calls Tryz.prog 68 #[.slice p xs.length cap, .string s, .iface T x] w (PutLPost o w)) := hP
  clear hP hSt hx hE
  go_enter Tryz.func44, Tryz.ntmps44
  go_wp2_with fail
  refine Calls.mono HP.out ?_
  rintro e w1 ⟨b1, h1⟩
  have HB : Hid (Below w.heap.size w w1) := b1
  clear b1
  rcases h1 with ⟨h1, rfl⟩ | ⟨ys, T', x', h1, rfl, h2⟩
  · have HR : Hid (r = .error 7) := by have := HE.out; rw [h1] at this; exact this
    clear h1
    go_wp2_with fail
    go_ret2
    exact ⟨HB.out, Or.inl ⟨7, HR.out, by decide, by decide, rfl⟩⟩
  · have HR : Hid (r = .ok (Sum.inr (Sum.inl ys))) := by have := HE.out; rw [h1] at this; exact this
    have HS : Hid (S0 w1 (n + 1) (Sum.inr (Sum.inl ys)) (.iface T' x')) := h2
    clear h1 h2
    go_wp2_with fail
    go_ret2
    exact ⟨HB.out, Or.inr ⟨_, _, _, HR.out, rfl, HS.out⟩⟩
set_option maxRecDepth 100000 in
set_option maxHeartbeats 2000000 in
theorem put_obj2 {n : Nat} (fs : List (Bs × J n)) (c : J n) (v : Value) (s : ByteArray) (T : TypeId) (x : Value) (w : World) (hSt : S0 w (n + 1) (Sum.inr (Sum.inr fs)) v) (hr : Rising fs) (hx : S0 w n c (.iface T x)) (hl : fs.length ≤ 2000) :
    Calls Tryz.prog 44 #[v, .string s, .iface T x] w (MadePost (n + 1) (putAt (Sum.inr (Sum.inr fs)) s.data.toList c) w) := by
  obtain ⟨a1, a2, a3, a4, a5, a6⟩ := tas_Object
  obtain ⟨p, g, cap, us, rfl, _⟩ := hSt.fitems
  have hP := putField_any _ fs c _ T x s w hSt hr hx hl
  have HE : Hid (putAt (Sum.inr (Sum.inr fs)) s.data.toList c = .ok (Sum.inr (Sum.inr (setAt fs s.data.toList c)))) := rfl
  generalize setAt fs s.data.toList c = ys at *
  generalize putAt (Sum.inr (Sum.inr fs)) s.data.toList c = r at *
  have HP : Hid (Calls Tryz.prog 67 #[.slice p fs.length cap, .string s, .iface T x] w (PutOPost ys w)) := hP
  clear hP hSt hx hr
  go_enter Tryz.func44, Tryz.ntmps44
  go_wp2_with fail
  refine Calls.mono HP.out ?_
  rintro e w1 ⟨b1, T', x', rfl, h2⟩
  have HB : Hid (Below w.heap.size w w1) := b1
  have HS : Hid (S0 w1 (n + 1) (Sum.inr (Sum.inr ys)) (.iface T' x')) := h2
  clear b1 h2
  go_wp2_with fail
  go_ret2
  exact ⟨HB.out, Or.inr ⟨_, _, _, HE.out, rfl, HS.out⟩⟩
theorem put_any {n : Nat} (j : J (n + 1)) (c : J n) (v : Value) (s : ByteArray) (T : TypeId) (x : Value) (w : World) (hSt : S0 w (n + 1) j v) (hr : Rise (n + 1) j) (hn : nodes (n + 1) j ≤ 2000) (hx : S0 w n c (.iface T x)) (hs : s.size ≤ 8000000) (hE : Env w) :
    Calls Tryz.prog 44 #[v, .string s, .iface T x] w (MadePost (n + 1) (putAt j s.data.toList c) w) := by
  match j, hSt, hr, hn with
  | Sum.inl l, hSt, hr, hn =>
    have e : v = leafV l := hSt
    subst e
    exact put_leafP l s c _ w
  | Sum.inr (Sum.inl xs), hSt, hr, hn => exact put_list2 xs c v s T x w hSt hx (by have := len_nodes_list xs; omega) hs hE
  | Sum.inr (Sum.inr fs), hSt, hr, hn => exact put_obj2 fs c v s T x w hSt hr.1 hx (by have := len_nodes_obj fs; omega)
theorem strs_tail {w : World} {g o cap : Nat} {s : Bs} {L : List Bs} (h : Strs w (.slice (some ⟨g, o, none⟩) (s :: L).length cap) (s :: L)) {A : Addr} (hA : (if cap = 1 then some (⟨g, o, none⟩ : Addr) else some ⟨g, o + 1, none⟩) = some A) : Strs w (.slice (some A) L.length (cap - 1)) L := by
  rcases h with ⟨h, _⟩ | ⟨g', o', cap', hv, h1, h2, h3, h4⟩
  · cases h
  · simp only [Value.slice.injEq, Option.some.injEq, Addr.mk.injEq] at hv
    obtain ⟨⟨rfl, rfl, _⟩, _, rfl⟩ := hv
    split at hA
    · rename_i hc
      have h0 : L = [] := List.eq_nil_of_length_eq_zero (by simp at h1; omega)
      subst h0
      exact Or.inl ⟨rfl, _, _, rfl⟩
    · cases hA
      refine Or.inr ⟨g, o + 1, cap - 1, rfl, by simp at h1; omega, by omega, h3, fun i t ht => ?_⟩
      have := h4 (i + 1) t (by simpa using ht)
      rw [show o + 1 + i = o + (i + 1) from by omega]
      exact this
end Go.Proofs.YtaogilpkeeigoabGreatDoor
