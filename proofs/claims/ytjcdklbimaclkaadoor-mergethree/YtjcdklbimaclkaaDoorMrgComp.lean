/- Contracts over this translation of what composes two merges. -/
import Derived.Test.YtjcdklbimaclkaaDoorMrgAll
namespace Go.Proofs.YtjcdklbimaclkaaDoor
open Go.RowKit
set_option linter.unusedVariables false
set_option linter.unusedSimpArgs false
def ComposedOK (n : Nat) : Prop := ∀ (av : Nat → Prop) (w : World) (p q : J n) (Tp : TypeId) (xp : Value) (T : TypeId) (x : Value), (∀ c, av c → c < w.heap.size) → St av w n p (.iface Tp xp) → St av w n q (.iface T x) → Okv n p → Okv n q → Tab w.heap.size w →
  Calls Tryd.prog 10 #[.iface Tp xp, .iface T x] w (MadeV av n (composedP n p q) w)
set_option maxRecDepth 100000 in
set_option maxHeartbeats 1000000 in
theorem composed_flat (av : Nat → Prop) (n : Nat) (w : World) (p q : J n) (vp : Value) (T : TypeId) (x : Value) (hst : St av w n q (.iface T x)) (hj : isObjJ n q = false) :
    Calls Tryd.prog 10 #[vp, .iface T x] w (MadeV av n (composedP n p q) w) := by
  have ht := ta_flat (flat_type hst hj)
  rw [composed_flatP p hj]
  have HS : Hid (St av w n q (.iface T x)) := hst
  clear hst hj
  go_enter Tryd.func10, Tryd.ntmps10
  go_wp2_with fail
  go_ret2
  exact ⟨Below.refl _ _, Or.inr ⟨_, _, _, rfl, rfl, HS.out⟩⟩
theorem enterC (args : Array Value) (w : World) : (callFunc 17 args).run Tryd.prog w = .ok (.enter 17 args) w := by
  have h1 : (Tryd.f17.name == "runtime.NumGoroutine") = false := by kernel_rfl
  obtain ⟨c, hb⟩ : ∃ c, Tryd.f17.body = some c := ⟨_, rfl⟩
  simp only [beq_eq_false_iff_ne, ne_eq] at h1
  simp [callFunc, Tryd.func17, h1, hb]
set_option maxRecDepth 100000 in
set_option maxHeartbeats 1000000 in
theorem closureC (n : Nat) (hM : ComposedOK n) : OfOK 17 n (ofC (composedP n)) := by
  intro av w v u vv vu hav hv hu okv oku hT
  rcases hu with ⟨rfl, rfl⟩ | ⟨j, T, x, rfl, rfl, hst⟩
  · have HV : Hid (OptV av w n v vv) := hv
    clear hv okv oku hT hM
    go_enter Tryd.func17, Tryd.ntmps17
    go_wp2_with fail
    go_ret2
    exact ⟨Below.refl _ _, Or.inr ⟨_, _, rfl, rfl, HV.out⟩⟩
  · rcases hv with ⟨rfl, rfl⟩ | ⟨i, Ti, xi, rfl, rfl, hsi⟩
    · have HS : Hid (St av w n j (.iface T x)) := hst
      clear hst okv oku hT hM
      go_enter Tryd.func17, Tryd.ntmps17
      go_wp2_with fail
      go_ret2
      exact ⟨Below.refl _ _, Or.inr ⟨_, _, rfl, rfl, Or.inr ⟨_, _, _, rfl, rfl, HS.out⟩⟩⟩
    · have HC : Hid (Calls Tryd.prog 10 #[.iface Ti xi, .iface T x] w (MadeV av n (composedP n i j) w)) := hM av w i j Ti xi T x hav hsi hst (okv i rfl) (oku j rfl) hT
      have HO : Hid (ofC (composedP n) (some i) (some j) = match composedP n i j with
        | .error e => .error e
        | .ok c => .ok (some c)) := rfl
      clear hM hsi hst okv oku hT hav
      generalize ofC (composedP n) (some i) (some j) = res at *
      go_enter Tryd.func17, Tryd.ntmps17
      go_wp2_with fail
      refine Calls.mono HC.out ?_
      rintro e w2 ⟨b2, h2⟩
      have HB : Hid (Below w.heap.size w w2) := b2
      clear b2
      rcases h2 with ⟨er, h3, h4, h5, rfl⟩ | ⟨k, T', x', h3, rfl, h4⟩
      · have HR : Hid (res = .error er) := by show res = _; rw [HO.out, h3]
        clear h3
        go_wp2_with fail
        go_ret2
        exact ⟨HB.out, Or.inl ⟨er, HR.out, h4, h5, rfl⟩⟩
      · have HR : Hid (res = .ok (some k)) := by show res = _; rw [HO.out, h3]
        have HS : Hid (St av w2 n k (.iface T' x')) := h4
        clear h3 h4
        go_wp2_with fail
        go_ret2
        exact ⟨HB.out, Or.inr ⟨_, _, HR.out, rfl, Or.inr ⟨_, _, _, rfl, rfl, HS.out⟩⟩⟩
set_option maxRecDepth 100000 in
set_option maxHeartbeats 1000000 in
theorem composed_mix (n : Nat) (av : Nat → Prop) (w : World) (p : J (n + 1)) (fs : List (Bs × J n)) (Tp : TypeId) (xp : Value) (T : TypeId) (x : Value) (hp : St av w (n + 1) p (.iface Tp xp)) (hj : isObjJ (n + 1) p = false) (hst : St av w (n + 1) (Sum.inr (Sum.inr fs)) (.iface T x)) :
    Calls Tryd.prog 10 #[.iface Tp xp, .iface T x] w (MadeV av (n + 1) (composedP (n + 1) p (Sum.inr (Sum.inr fs))) w) := by
  obtain ⟨q, cap, e, hf⟩ := flds_of_st hst
  cases e
  obtain ⟨a1, a2, a3, a4, a5, a6⟩ := tas_Object
  have ht := ta_flat (flat_type hp hj)
  rw [composed_mixP fs hj]
  clear hst hf hp hj
  go_enter Tryd.func10, Tryd.ntmps10
  go_wp2_with fail
  go_ret2
  exact ⟨Below.refl _ _, Or.inl ⟨9, rfl, by decide, by decide, rfl⟩⟩
set_option maxRecDepth 100000 in
set_option maxHeartbeats 1000000 in
theorem composed_object (n : Nat) (hM : ComposedOK n) (av : Nat → Prop) (w : World) (fp fq : List (Bs × J n)) (Tp : TypeId) (xp : Value) (T : TypeId) (x : Value) (hav : ∀ c, av c → c < w.heap.size) (hp : St av w (n + 1) (Sum.inr (Sum.inr fp)) (.iface Tp xp)) (hst : St av w (n + 1) (Sum.inr (Sum.inr fq)) (.iface T x)) (okp : Okv (n + 1) (Sum.inr (Sum.inr fp))) (okq : Okv (n + 1) (Sum.inr (Sum.inr fq))) (hT : Tab w.heap.size w) :
    Calls Tryd.prog 10 #[.iface Tp xp, .iface T x] w (MadeV av (n + 1) (composedP (n + 1) (Sum.inr (Sum.inr fp)) (Sum.inr (Sum.inr fq))) w) := by
  obtain ⟨p, cap, e, hf⟩ := flds_of_st hst
  cases e
  obtain ⟨p', cap', e, hf'⟩ := flds_of_st hp
  cases e
  obtain ⟨a1, a2, a3, a4, a5, a6⟩ := tas_Object
  have okf := okv_field okp
  have okg := okv_field okq
  have HMt : Hid (Calls Tryd.prog 13 #[.slice p' fp.length cap', .slice p fq.length cap, .func (.func 17) #[] #[]] w (MadeV av (n + 1) (composedP (n + 1) (Sum.inr (Sum.inr fp)) (Sum.inr (Sum.inr fq))) w)) :=
    meet_any 17 n enterC (ofC (composedP n)) (closureC n hM) av fp fq _ _ w hav hf' hf okf.1 okg.1 okf.2 okg.2 hT
  clear hst hf hp hf' okp okq hT hM okf okg hav
  generalize composedP (n + 1) (Sum.inr (Sum.inr fp)) (Sum.inr (Sum.inr fq)) = res at *
  go_enter Tryd.func10, Tryd.ntmps10
  go_wp2_with fail
  refine Calls.mono HMt.out ?_
  rintro e w2 ⟨b2, h2⟩
  have HB : Hid (Below w.heap.size w w2) := b2
  clear b2
  rcases h2 with ⟨er, h3, h4, h5, rfl⟩ | ⟨k, T', x', h3, rfl, h4⟩
  · have HR : Hid (res = .error er) := h3
    clear h3
    go_wp2_with fail
    go_ret2
    exact ⟨HB.out, Or.inl ⟨er, HR.out, h4, h5, rfl⟩⟩
  · have HR : Hid (res = .ok k) := h3
    have HS : Hid (St av w2 (n + 1) k (.iface T' x')) := h4
    clear h3 h4
    go_wp2_with fail
    go_ret2
    exact ⟨HB.out, Or.inr ⟨_, _, _, HR.out, rfl, HS.out⟩⟩
theorem composed_ok : ∀ n, ComposedOK n
  | 0 => fun av w p q Tp xp T x hav hp hst okp okq hT => composed_flat av 0 w p q _ T x hst rfl
  | n + 1 => fun av w p q Tp xp T x hav hp hst okp okq hT => by
    match p, q, hp, hst, okp, okq with
    | p, Sum.inl l, _, hst, _, _ => exact composed_flat av _ w p _ _ T x hst rfl
    | p, Sum.inr (Sum.inl xs), _, hst, _, _ => exact composed_flat av _ w p _ _ T x hst rfl
    | Sum.inl l, Sum.inr (Sum.inr fs), hp, hst, _, _ => exact composed_mix n av w _ fs Tp xp T x hp rfl hst
    | Sum.inr (Sum.inl xs), Sum.inr (Sum.inr fs), hp, hst, _, _ => exact composed_mix n av w _ fs Tp xp T x hp rfl hst
    | Sum.inr (Sum.inr fp), Sum.inr (Sum.inr fs), hp, hst, okp, okq => exact composed_object n (composed_ok n) av w fp fs Tp xp T x hav hp hst okp okq hT
end Go.Proofs.YtjcdklbimaclkaaDoor
