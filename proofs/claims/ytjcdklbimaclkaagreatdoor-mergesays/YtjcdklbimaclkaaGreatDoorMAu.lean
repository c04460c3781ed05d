/- MrgDiff, MrgEnd, RfMTop, Laid, MSaysWalk -/
import Derived.Test.YtjcdklbimaclkaaGreatDoorMAl
import Derived.Test.YtjcdklbimaclkaaGreatDoorMAk
import Derived.Test.YtjcdklbimaclkaaGreatDoorMAt
import Derived.Test.YtjcdklbimaclkaaGreatDoorMAo
import Derived.Test.YtjcdklbimaclkaaGreatDoorMAi
import Derived.Lib.LaidTab
import Derived.MakeChecks
import Derived.Test.YtjcdklbimaclkaaGreatDoorMAj
namespace Go.Proofs.YtjcdklbimaclkaaGreatDoor
open Go.RowKit
set_option linter.unusedVariables false
set_option linter.unusedSimpArgs false
set_option maxRecDepth 100000 in
set_option maxHeartbeats 1000000 in
theorem equal_any (av : Nat -> Prop) (n : Nat) (i j : J n) (Ti : TypeId) (xi : Value) (T : TypeId) (x : Value) (w : World) (hi : St av w n i (.iface Ti xi)) (hj : St av w n j (.iface T x)) (oki : Okv n i) (okj : Okv n j) (hT : Tab w.heap.size w) :
  Calls Tryz.prog 38 #[.iface Ti xi, .iface T x] w fun e w' => e = .returned (.bool (decide (tell n i = tell n j))) /\ Below w.heap.size w w' := by
 have H1 : Hid (Calls Tryz.prog 44 #[.iface Ti xi] w fun e w' => e = .returned (.string ⟨(tell n i).toArray⟩) /\ Below w.heap.size w w') := text_any n av i _ w hi oki.fit hT (by have := oki.len; omega)
 have H2 : Hid (∀ w1, Below w.heap.size w w1 -> Calls Tryz.prog 44 #[.iface T x] w1 fun e w' => e = .returned (.string ⟨(tell n j).toArray⟩) /\ Below w1.heap.size w1 w') := fun w1 hb => text_any n av j _ w1 (hj.ona hb) okj.fit (hT.on hb) (by have := okj.len; omega)
 have hbe : ((⟨(tell n i).toArray⟩ : ByteArray).toList == (⟨(tell n j).toArray⟩ : ByteArray).toList) = decide (tell n i = tell n j) := bytes_eq _ _
 clear hi hj oki okj hT
 generalize decide (tell n i = tell n j) = r at *
 generalize (⟨(tell n i).toArray⟩ : ByteArray) = ti at *
 generalize (⟨(tell n j).toArray⟩ : ByteArray) = tj at *
 go_enter Tryz.func38, Tryz.ntmps38
 go_wp2_with fail
 refine Calls.mono H1.out ?_
 rintro e w1 ⟨rfl, b1⟩
 have HB1 : Hid (Below w.heap.size w w1) := b1
 clear b1
 go_wp2_with fail
 refine Calls.mono (H2.out w1 HB1.out) ?_
 rintro e w2 ⟨rfl, b2⟩
 have HB2 : Hid (Below w.heap.size w w2) := HB1.out.trans (b2.mono HB1.out.size)
 clear b2
 go_wp2_with fail
 go_ret
 exact ⟨by rw [<- hbe]; rfl, HB2.out⟩
def BetweenOK (n : Nat) : Prop := ∀ (av : Nat -> Prop) (w : World) (a : Option (J n)) (b : J n) (va : Value) (T : TypeId) (x : Value), (∀ c, av c -> c < w.heap.size) -> OptV av w n a va -> St av w n b (.iface T x) -> OkO n a -> Okv n b -> Tab w.heap.size w ->
 Calls Tryz.prog 19 #[va, .iface T x] w (MadeV av n (betweenP n a b) w)
set_option maxRecDepth 100000 in
set_option maxHeartbeats 1000000 in
theorem between_flat (av : Nat -> Prop) (n : Nat) (w : World) (a : Option (J n)) (b : J n) (va : Value) (T : TypeId) (x : Value) (hst : St av w n b (.iface T x)) (hj : isObjJ n b = false) :
  Calls Tryz.prog 19 #[va, .iface T x] w (MadeV av n (betweenP n a b) w) := by
 have ht := ta_flat (flat_type hst hj)
 rw [between_flatP a hj]
 have HS : Hid (St av w n b (.iface T x)) := hst
 clear hst hj
 go_enter Tryz.func19, Tryz.ntmps19
 go_wp2_with fail
 go_ret2
 exact ⟨Below.refl _ _, Or.inr ⟨_, _, _, rfl, rfl, HS.out⟩⟩
theorem enterD (args : Array Value) (w : World) : (callFunc 37 args).run Tryz.prog w = .ok (.enter 37 args) w := by
 have h1 : (Tryz.f37.name == "runtime.NumGoroutine") = false := by kernel_rfl
 obtain ⟨c, hb⟩ : ∃ c, Tryz.f37.body = some c := ⟨_, rfl⟩
 simp only [beq_eq_false_iff_ne, ne_eq] at h1
 simp [callFunc, Tryz.func37, h1, hb]
set_option maxRecDepth 100000 in
set_option maxHeartbeats 1000000 in
theorem closureD_nil (n : Nat) (av : Nat -> Prop) (w : World) (v : Option (J n)) (vv : Value) (hv : OptV av w n v vv) (g : Option (J n) -> J n -> Except Nat (J n)) :
  Calls Tryz.prog 37 #[vv, .nilIface] w (MakePost av n (ofDz (some (leaf n none)) g v none) w) := by
 have HR : Hid (ofDz (some (leaf n none)) g v none = .ok (some (leaf n none))) := by
  show ofDz (some (leaf n none)) g v none = _
  cases v <;> rfl
 rw [HR.out]
 have HS : Hid (St av w n (leaf n none) (.iface 66 (.agg #[]))) := st_leaf av w n none
 clear hv
 go_enter Tryz.func37, Tryz.ntmps37
 go_wp2_with fail
 go_ret2
 exact ⟨Below.refl _ _, Or.inr ⟨_, _, rfl, rfl, Or.inr ⟨_, _, _, rfl, rfl, HS.out⟩⟩⟩
set_option maxRecDepth 100000 in
set_option maxHeartbeats 1000000 in
theorem closureD_new (n : Nat) (hM : BetweenOK n) (av : Nat -> Prop) (w : World) (j : J n) (T : TypeId) (x : Value) (hav : ∀ c, av c -> c < w.heap.size) (hst : St av w n j (.iface T x)) (okj : Okv n j) (hT : Tab w.heap.size w) (z : Option (J n)) :
  Calls Tryz.prog 37 #[.nilIface, .iface T x] w (MakePost av n (ofDz z (betweenP n) none (some j)) w) := by
 have HN : Hid (Calls Tryz.prog 31 #[.iface T x] w fun e w' => e = .returned (.bool (isNullJ n j)) /\ w' = w) := isNull_any av n j T x w hst
 have HC : Hid (Calls Tryz.prog 19 #[.nilIface, .iface T x] w (MadeV av n (betweenP n none j) w)) := hM av w none j .nilIface T x hav (Or.inl ⟨rfl, rfl⟩) hst (fun x hx => by cases hx) okj hT
 have HO : Hid (ofDz z (betweenP n) none (some j) = if isNullJ n j then .error 9 else match betweenP n none j with
  | .error e => .error e
  | .ok c => .ok (some c)) := rfl
 clear hM hst okj hT hav
 generalize ofDz z (betweenP n) none (some j) = res at *
 cases hb : isNullJ n j with
 | true =>
  rw [hb] at HN HO
  have HR : Hid (res = .error 9) := by show res = _; rw [HO.out]; rfl
  go_enter Tryz.func37, Tryz.ntmps37
  go_wp2_with fail
  refine Calls.mono HN.out ?_
  rintro e w1 ⟨rfl, rfl⟩
  go_wp2_with fail
  go_ret2
  exact ⟨Below.refl _ _, Or.inl ⟨9, HR.out, by decide, by decide, rfl⟩⟩
 | false =>
  rw [hb] at HN HO
  go_enter Tryz.func37, Tryz.ntmps37
  go_wp2_with fail
  refine Calls.mono HN.out ?_
  rintro e w1 ⟨rfl, rfl⟩
  go_wp2_with fail
  refine Calls.mono HC.out ?_
  rintro e w2 ⟨b2, h2⟩
  have HB : Hid (Below w1.heap.size w1 w2) := b2
  clear b2
  rcases h2 with ⟨er, h3, h4, h5, rfl⟩ | ⟨k, T', x', h3, rfl, h4⟩
  ·have HR : Hid (res = .error er) := by show res = _; rw [HO.out, h3]; rfl
   clear h3
   go_wp2_with fail
   go_ret2
   exact ⟨HB.out, Or.inl ⟨er, HR.out, h4, h5, rfl⟩⟩
  ·have HR : Hid (res = .ok (some k)) := by show res = _; rw [HO.out, h3]; rfl
   have HS : Hid (St av w2 n k (.iface T' x')) := h4
   clear h3 h4
   go_wp2_with fail
   go_ret2
   exact ⟨HB.out, Or.inr ⟨_, _, HR.out, rfl, Or.inr ⟨_, _, _, rfl, rfl, HS.out⟩⟩⟩
set_option maxRecDepth 100000 in
set_option maxHeartbeats 1000000 in
theorem closureD_two (n : Nat) (hM : BetweenOK n) (av : Nat -> Prop) (w : World) (i j : J n) (Ti : TypeId) (xi : Value) (T : TypeId) (x : Value) (hav : ∀ c, av c -> c < w.heap.size) (hsi : St av w n i (.iface Ti xi)) (hst : St av w n j (.iface T x)) (oki : Okv n i) (okj : Okv n j) (hT : Tab w.heap.size w) (z : Option (J n)) :
  Calls Tryz.prog 37 #[.iface Ti xi, .iface T x] w (MakePost av n (ofDz z (betweenP n) (some i) (some j)) w) := by
 have HQ : Hid (Calls Tryz.prog 38 #[.iface Ti xi, .iface T x] w fun e w' => e = .returned (.bool (decide (tell n i = tell n j))) /\ Below w.heap.size w w') := equal_any av n i j Ti xi T x w hsi hst oki okj hT
 have HN : Hid (∀ w1, Below w.heap.size w w1 -> Calls Tryz.prog 31 #[.iface T x] w1 fun e w' => e = .returned (.bool (isNullJ n j)) /\ w' = w1) := fun w1 hb => isNull_any av n j T x w1 (hst.ona hb)
 have HC : Hid (∀ w1, Below w.heap.size w w1 -> Calls Tryz.prog 19 #[.iface Ti xi, .iface T x] w1 (MadeV av n (betweenP n (some i) j) w1)) := fun w1 hb =>
  hM av w1 (some i) j _ T x (fun c hc => by have := hav c hc; have := hb.size; omega) (Or.inr ⟨i, Ti, xi, rfl, rfl, hsi.ona hb⟩) (hst.ona hb) (fun x hx => by cases hx; exact oki) okj (hT.on hb)
 have HO : Hid (ofDz z (betweenP n) (some i) (some j) = if decide (tell n i = tell n j) then .ok none else if isNullJ n j then .error 9 else match betweenP n (some i) j with
  | .error e => .error e
  | .ok c => .ok (some c)) := rfl
 clear hM hst hsi oki okj hT hav
 generalize ofDz z (betweenP n) (some i) (some j) = res at *
 generalize decide (tell n i = tell n j) = q at *
 cases q with
 | true =>
  have HR : Hid (res = .ok none) := by show res = _; rw [HO.out]; rfl
  go_enter Tryz.func37, Tryz.ntmps37
  go_wp2_with fail
  refine Calls.mono HQ.out ?_
  rintro e w1 ⟨rfl, b1⟩
  have HB : Hid (Below w.heap.size w w1) := b1
  clear b1
  go_wp2_with fail
  go_ret2
  exact ⟨HB.out, Or.inr ⟨_, _, HR.out, rfl, Or.inl ⟨rfl, rfl⟩⟩⟩
 | false =>
  have HO2 : Hid (res = if isNullJ n j then .error 9 else match betweenP n (some i) j with
   | .error e => .error e
   | .ok c => .ok (some c)) := by show res = _; rw [HO.out]; rfl
  clear HO
  go_enter Tryz.func37, Tryz.ntmps37
  go_wp2_with fail
  refine Calls.mono HQ.out ?_
  rintro e w1 ⟨rfl, b1⟩
  have HB1 : Hid (Below w.heap.size w w1) := b1
  clear b1
  go_wp2_with fail
  refine Calls.mono (HN.out w1 HB1.out) ?_
  rintro e w2 ⟨rfl, rfl⟩
  cases hb : isNullJ n j with
  | true =>
   have HR : Hid (res = .error 9) := by show res = _; rw [HO2.out, hb]; rfl
   go_wp2_with fail
   go_ret2
   exact ⟨HB1.out, Or.inl ⟨9, HR.out, by decide, by decide, rfl⟩⟩
  | false =>
   have HO3 : Hid (res = match betweenP n (some i) j with
    | .error e => .error e
    | .ok c => .ok (some c)) := by show res = _; rw [HO2.out, hb]; rfl
   go_wp2_with fail
   refine Calls.mono (HC.out w2 HB1.out) ?_
   rintro e w3 ⟨b3, h3⟩
   have HB3 : Hid (Below w.heap.size w w3) := HB1.out.trans (b3.mono HB1.out.size)
   clear b3
   rcases h3 with ⟨er, h3, h4, h5, rfl⟩ | ⟨k, T', x', h3, rfl, h4⟩
   ·have HR : Hid (res = .error er) := by show res = _; rw [HO3.out, h3]
    clear h3
    go_wp2_with fail
    go_ret2
    exact ⟨HB3.out, Or.inl ⟨er, HR.out, h4, h5, rfl⟩⟩
   ·have HR : Hid (res = .ok (some k)) := by show res = _; rw [HO3.out, h3]
    have HS : Hid (St av w3 n k (.iface T' x')) := h4
    clear h3 h4
    go_wp2_with fail
    go_ret2
    exact ⟨HB3.out, Or.inr ⟨_, _, HR.out, rfl, Or.inr ⟨_, _, _, rfl, rfl, HS.out⟩⟩⟩
theorem closureD (n : Nat) (hM : BetweenOK n) : OfOK 37 n (ofDz (some (leaf n none)) (betweenP n)) := by
 intro av w v u vv vu hav hv hu okv oku hT
 rcases hu with ⟨rfl, rfl⟩ | ⟨j, T, x, rfl, rfl, hst⟩
 ·exact closureD_nil n av w v vv hv _
 ·rcases hv with ⟨rfl, rfl⟩ | ⟨i, Ti, xi, rfl, rfl, hsi⟩
  ·exact closureD_new n hM av w j T x hav hst (oku j rfl) hT _
  ·exact closureD_two n hM av w i j Ti xi T x hav hsi hst (okv i rfl) (oku j rfl) hT _
set_option maxRecDepth 100000 in
set_option maxHeartbeats 1000000 in
theorem between_object (n : Nat) (hM : BetweenOK n) (av : Nat -> Prop) (w : World) (d : Option (J (n + 1))) (fs : List (Bs × J n)) (vd : Value) (T : TypeId) (x : Value) (hav : ∀ c, av c -> c < w.heap.size) (hd' : OptV av w (n + 1) d vd) (hst : St av w (n + 1) (Sum.inr (Sum.inr fs)) (.iface T x)) (okd : OkO (n + 1) d) (okv : Okv (n + 1) (Sum.inr (Sum.inr fs))) (hT : Tab w.heap.size w) :
  Calls Tryz.prog 19 #[vd, .iface T x] w (MadeV av (n + 1) (betweenP (n + 1) d (Sum.inr (Sum.inr fs))) w) := by
 obtain ⟨p, cap, e, hf⟩ := flds_of_st hst
 cases e
 obtain ⟨a1, a2, a3, a4, a5, a6⟩ := tas_Object
 have HFo' : Hid (Calls Tryz.prog 29 #[vd] w fun e w' => ∃ v', e = .returned v' /\ w' = w /\ Flds av w n (fieldsP d) v') := fieldsOf_any av n d vd w hd'
 have okf := okv_fields okd
 have okg := okv_field okv
 have HMt : Hid (∀ v', Flds av w n (fieldsP d) v' -> Calls Tryz.prog 28 #[v', .slice p fs.length cap, .func (.func 37) #[] #[]] w (MadeV av (n + 1) (betweenP (n + 1) d (Sum.inr (Sum.inr fs))) w)) := fun v' hv' => by
  have h := meet_any 37 n enterD (ofDz (some (leaf n none)) (betweenP n)) (closureD n hM) av (fieldsP d) fs v' (.slice p fs.length cap) w hav hv' hf okf.1 okg.1 okf.2 okg.2 hT
  rw [ofD_congr] at h
  exact h
 clear hst hf hd' okd okv hT hM okf okg hav
 generalize betweenP (n + 1) d (Sum.inr (Sum.inr fs)) = res at *
 go_enter Tryz.func19, Tryz.ntmps19
 go_wp2_with fail
 refine Calls.mono HFo'.out ?_
 rintro e w1 ⟨v', rfl, rfl, hv'⟩
 have HMv : Hid _ := HMt.out v' hv'
 clear hv'
 go_wp2_with fail
 refine Calls.mono HMv.out ?_
 rintro e w2 ⟨b2, h2⟩
 have HB : Hid (Below w1.heap.size w1 w2) := b2
 clear b2
 rcases h2 with ⟨er, h3, h4, h5, rfl⟩ | ⟨k, T', x', h3, rfl, h4⟩
 ·have HR : Hid (res = .error er) := h3
  clear h3
  go_wp2_with fail
  go_ret2
  exact ⟨HB.out, Or.inl ⟨er, HR.out, h4, h5, rfl⟩⟩
 ·have HR : Hid (res = .ok k) := h3
  have HS : Hid (St av w2 (n + 1) k (.iface T' x')) := h4
  clear h3 h4
  go_wp2_with fail
  go_ret2
  exact ⟨HB.out, Or.inr ⟨_, _, _, HR.out, rfl, HS.out⟩⟩
theorem between_ok : ∀ n, BetweenOK n
 | 0 => fun av w d v vd T x hav hd' hst okd okv hT => between_flat av 0 w d v vd T x hst rfl
 | n + 1 => fun av w d v vd T x hav hd' hst okd okv hT => by
  match v, hst, okv with
  | Sum.inl l, hst, _ => exact between_flat av _ w d _ vd T x hst rfl
  | Sum.inr (Sum.inl xs), hst, _ => exact between_flat av _ w d _ vd T x hst rfl
  | Sum.inr (Sum.inr fs), hst, okv => exact between_object n (between_ok n) av w d fs vd T x hav hd' hst okd okv hT
def SaysM (w : World) (f : Nat) (args : Array Value) (v : Value) : Prop := ∀ w1, Below w.heap.size w w1 -> Calls Tryz.prog f args w1 fun e w' => e = .returned v /\ Below w1.heap.size w1 w'
theorem enterMerged (args : Array Value) (w : World) : (callFunc 15 args).run Tryz.prog w = .ok (.enter 15 args) w := by
 have h1 : (Tryz.f15.name == "runtime.NumGoroutine") = false := by kernel_rfl
 obtain ⟨c, hb⟩ : ∃ c, Tryz.f15.body = some c := ⟨_, rfl⟩
 simp only [beq_eq_false_iff_ne, ne_eq] at h1
 simp [callFunc, Tryz.func15, h1, hb]
theorem enterComposed (args : Array Value) (w : World) : (callFunc 22 args).run Tryz.prog w = .ok (.enter 22 args) w := by
 have h1 : (Tryz.f22.name == "runtime.NumGoroutine") = false := by kernel_rfl
 obtain ⟨c, hb⟩ : ∃ c, Tryz.f22.body = some c := ⟨_, rfl⟩
 simp only [beq_eq_false_iff_ne, ne_eq] at h1
 simp [callFunc, Tryz.func22, h1, hb]
theorem apply_both {N : Nat} (hN : N <= 1000) : BothOK 15 N (applyR N) :=
 ⟨fun w A B Ta xa Tb xb hA hB tA tB hT => merged_ok N (fun _ => False) w (some A) B _ Tb xb (fun c h => h.elim) (Or.inr ⟨A, Ta, xa, rfl, rfl, hA⟩) hB (fun x hx => by cases hx; exact tA.okv) tB.okv hT, fun A B j tA tB h => (apply_makes N).fine hN tA tB h⟩
theorem compose_both {N : Nat} (hN : N <= 1000) : BothOK 22 N (composedP N) :=
 ⟨fun w A B Ta xa Tb xb hA hB tA tB hT => composed_ok N (fun _ => False) w A B Ta xa Tb xb (fun c h => h.elim) hA hB tA.okv tB.okv hT, fun A B j tA tB h => (compose_makes N).fine hN tA tB h⟩
set_option maxRecDepth 100000 in
set_option maxHeartbeats 2000000 in
theorem apply_says {N : Nat} (hN : 20 <= N) (hN2 : N <= 1000) {a b : ByteArray} {x y : Bs} {w : World} {r : Array Value} (hT : Tab w.heap.size w) (ha : a.size <= maxLen) (hb : b.size <= maxLen) (hx : a.data.toList = x) (hy : b.data.toList = y) (hr : bothA N (applyR N) x y = r) (hform : ∃ (s : ByteArray) (er : Nat), r = #[.string s, .int .i64 er]) :
  SaysM w 6 #[.string a, .string b] (.tuple r) := by
 intro w1 hb1
 obtain ⟨s, er, rfl⟩ := hform
 have HC : Hid (Calls Tryz.prog 14 #[.string a, .string b, .func (.func 15) #[] #[]] w1 fun e w' => e = .returned (.tuple #[.string s, .int .i64 er]) /\ Below w1.heap.size w1 w') := by
  have h := ofBoth_any 15 N hN enterMerged (applyR N) (apply_both hN2) a b w1 ha hb (hT.on hb1)
  rw [hx, hy, hr] at h
  exact h
 clear hr hT hb1
 go_enter Tryz.func6, Tryz.ntmps6
 go_wp2_with fail
 refine Calls.mono HC.out ?_
 rintro e w2 ⟨rfl, b2⟩
 have HB : Hid (Below w1.heap.size w1 w2) := b2
 clear b2
 go_wp2_with fail
 go_ret2
 exact ⟨rfl, HB.out⟩
set_option maxRecDepth 100000 in
set_option maxHeartbeats 2000000 in
theorem compose_says {N : Nat} (hN : 20 <= N) (hN2 : N <= 1000) {a b : ByteArray} {x y : Bs} {w : World} {r : Array Value} (hT : Tab w.heap.size w) (ha : a.size <= maxLen) (hb : b.size <= maxLen) (hx : a.data.toList = x) (hy : b.data.toList = y) (hr : bothA N (composedP N) x y = r) (hform : ∃ (s : ByteArray) (er : Nat), r = #[.string s, .int .i64 er]) :
  SaysM w 10 #[.string a, .string b] (.tuple r) := by
 intro w1 hb1
 obtain ⟨s, er, rfl⟩ := hform
 have HC : Hid (Calls Tryz.prog 14 #[.string a, .string b, .func (.func 22) #[] #[]] w1 fun e w' => e = .returned (.tuple #[.string s, .int .i64 er]) /\ Below w1.heap.size w1 w') := by
  have h := ofBoth_any 22 N hN enterComposed (composedP N) (compose_both hN2) a b w1 ha hb (hT.on hb1)
  rw [hx, hy, hr] at h
  exact h
 clear hr hT hb1
 go_enter Tryz.func10, Tryz.ntmps10
 go_wp2_with fail
 refine Calls.mono HC.out ?_
 rintro e w2 ⟨rfl, b2⟩
 have HB : Hid (Below w1.heap.size w1 w2) := b2
 clear b2
 go_wp2_with fail
 go_ret2
 exact ⟨rfl, HB.out⟩
theorem enterBetween (args : Array Value) (w : World) : (callFunc 19 args).run Tryz.prog w = .ok (.enter 19 args) w := by
 have h1 : (Tryz.f19.name == "runtime.NumGoroutine") = false := by kernel_rfl
 obtain ⟨c, hb⟩ : ∃ c, Tryz.f19.body = some c := ⟨_, rfl⟩
 simp only [beq_eq_false_iff_ne, ne_eq] at h1
 simp [callFunc, Tryz.func19, h1, hb]
def diffR (N : Nat) (A B : J N) : Except Nat (J N) := betweenP N (some A) B
theorem diff_makes (N : Nat) : Makes N (diffR N) :=
 ⟨fun A B j hA hB h => between_good N (some A) B j (fun x hx => by cases hx; exact hA) hB h, fun A B j h => by
  have h1 := between_wgt N (some A) B j h
  simp only [wO] at h1
  omega, fun A B e h => between_err N (some A) B e h⟩
theorem diff_both {N : Nat} (hN : N <= 1000) : BothOK 19 N (diffR N) :=
 ⟨fun w A B Ta xa Tb xb hA hB tA tB hT => between_ok N (fun _ => False) w (some A) B _ Tb xb (fun c h => h.elim) (Or.inr ⟨A, Ta, xa, rfl, rfl, hA⟩) hB (fun x hx => by cases hx; exact tA.okv) tB.okv hT, fun A B j tA tB h => (diff_makes N).fine hN tA tB h⟩
set_option maxRecDepth 100000 in
set_option maxHeartbeats 2000000 in
theorem diff_says {N : Nat} (hN : 20 <= N) (hN2 : N <= 1000) {a b : ByteArray} {x y : Bs} {w : World} {r : Array Value} (hT : Tab w.heap.size w) (ha : a.size <= maxLen) (hb : b.size <= maxLen) (hx : a.data.toList = x) (hy : b.data.toList = y) (hr : bothA N (diffR N) x y = r) (hform : ∃ (s : ByteArray) (er : Nat), r = #[.string s, .int .i64 er]) :
  SaysM w 8 #[.string a, .string b] (.tuple r) := by
 intro w1 hb1
 obtain ⟨s, er, rfl⟩ := hform
 have HC : Hid (Calls Tryz.prog 14 #[.string a, .string b, .func (.func 19) #[] #[]] w1 fun e w' => e = .returned (.tuple #[.string s, .int .i64 er]) /\ Below w1.heap.size w1 w') := by
  have h := ofBoth_any 19 N hN enterBetween (diffR N) (diff_both hN2) a b w1 ha hb (hT.on hb1)
  rw [hx, hy, hr] at h
  exact h
 clear hr hT hb1
 go_enter Tryz.func8, Tryz.ntmps8
 go_wp2_with fail
 refine Calls.mono HC.out ?_
 rintro e w2 ⟨rfl, b2⟩
 have HB : Hid (Below w1.heap.size w1 w2) := b2
 clear b2
 go_wp2_with fail
 go_ret2
 exact ⟨rfl, HB.out⟩
theorem headJ_lift : ∀ (n m : Nat) (j : J n), n <= m -> headJ m (lift n m j) = headJ n j
 | 0, m, l, _ => headJ_leaf m l
 | _ + 1, m, Sum.inl l, _ => headJ_leaf m l
 | _ + 1, 0, Sum.inr _, h => absurd h (by omega)
 | _ + 1, _ + 1, Sum.inr (Sum.inl _), _ => rfl
 | _ + 1, _ + 1, Sum.inr (Sum.inr _), _ => rfl
theorem rvals_lift {av : Nat -> Prop} {w : World} {n m : Nat} {xs : List (J n)} {l : Value} (hnm : n <= m) (h : RVals av w n xs l) (ih : ∀ x ∈ xs, ∀ v, RSt av w n x v -> RSt av w m (lift n m x) v) : RVals av w m (xs.map (lift n m)) l := by
 rcases h with ⟨rfl, rfl⟩ | ⟨g, cap, hv, h1, h2, h3, h4, h5⟩
 ·exact Or.inl ⟨rfl, rfl⟩
 ·refine Or.inr ⟨g, cap, by rw [List.length_map]; exact hv, by rw [List.length_map]; exact h1, h2, h3, h4, fun i x hx => ?_⟩
  rw [List.getElem?_map] at hx
  obtain ⟨y, hy, rfl⟩ := Option.map_eq_some_iff.1 hx
  obtain ⟨nm', l', h6, h7⟩ := h5 i y hy
  exact ⟨nm', l', by rw [headJ_lift n m y hnm]; exact h6, by rw [headJ_lift n m y hnm]; exact ih y (List.mem_of_getElem? hy) _ h7⟩
theorem rst_lift {av : Nat -> Prop} {w : World} : ∀ (n m : Nat) (j : J n) (v : Value), n <= m -> RSt av w n j v -> RSt av w m (lift n m j) v
 | 0, m, l, v, _, h => by
  have e : v = rfV (headL l) (.slice none 0 0) (.slice none 0 0) := h
  subst e
  exact rst_leaf av w m l
 | _ + 1, 0, j, v, hnm, h => absurd hnm (by omega)
 | n + 1, m + 1, Sum.inl l, v, hnm, h => by
  obtain ⟨nm, l', rfl, h1, h2⟩ := h.open
  exact rst_mk (j := (Sum.inl l : J (m + 1))) h1 (rvals_lift (xs := ([] : List (J n))) (by omega) h2 (fun x hx => by cases hx))
 | n + 1, m + 1, Sum.inr (Sum.inl xs), v, hnm, h => by
  obtain ⟨nm, l', rfl, h1, h2⟩ := h.open
  exact rst_mk (j := (Sum.inr (Sum.inl (xs.map (lift n m))) : J (m + 1))) h1 (rvals_lift (by omega) h2 (fun x _ v hv => rst_lift n m x v (by omega) hv))
 | n + 1, m + 1, Sum.inr (Sum.inr fs), v, hnm, h => by
  obtain ⟨nm, l', rfl, h1, h2⟩ := h.open
  have e1 : (fs.map fun f => (f.1, lift n m f.2)).map (fun f => f.1) = fs.map fun f => f.1 := by rw [List.map_map]; rfl
  have e2 : (fs.map fun f => (f.1, lift n m f.2)).map (fun f => f.2) = (fs.map fun f => f.2).map (lift n m) := by rw [List.map_map, List.map_map]; rfl
  refine rst_mk (j := (Sum.inr (Sum.inr (fs.map fun f => (f.1, lift n m f.2))) : J (m + 1))) ?_ ?_
  ·show RStrs av w ((fs.map fun f => (f.1, lift n m f.2)).map fun f => f.1) nm
   rw [e1]
   exact h1
  ·show RVals av w m ((fs.map fun f => (f.1, lift n m f.2)).map fun f => f.2) l'
   rw [e2]
   exact rvals_lift (by omega) h2 (fun x _ v hv => rst_lift n m x v (by omega) hv)
theorem two_vals {w : World} {a b : J 10} {g c : Nat} (h : RVals (fun _ => False) w 10 [a, b] (.slice (some ⟨g, 0, none⟩) 2 c)) : g < w.heap.size /\ (∃ p1 k1 c1 p2 k2 c2, Six w g 0 (headJ 10 a) (.slice p1 k1 c1) (.slice p2 k2 c2) /\ RSt (fun _ => False) w 10 a (rfV (headJ 10 a) (.slice p1 k1 c1) (.slice p2 k2 c2))) /\ ∃ p1 k1 c1 p2 k2 c2, Six w g 6 (headJ 10 b) (.slice p1 k1 c1) (.slice p2 k2 c2) /\ RSt (fun _ => False) w 10 b (rfV (headJ 10 b) (.slice p1 k1 c1) (.slice p2 k2 c2)) := by
 rcases h with ⟨h, _⟩ | ⟨g', cap, hv, h1, h2, h3, h4, h5⟩
 ·cases h
 ·cases hv
  obtain ⟨n1, l1, x1, y1⟩ := h5 0 a rfl
  obtain ⟨n2, l2, x2, y2⟩ := h5 1 b rfl
  obtain ⟨⟨p1, k1, c1, rfl⟩, p2, k2, c2, rfl⟩ := rst_sl y1
  obtain ⟨⟨p3, k3, c3, rfl⟩, p4, k4, c4, rfl⟩ := rst_sl y2
  exact ⟨h4, ⟨_, _, _, _, _, _, x1, y1⟩, _, _, _, _, _, _, x2, y2⟩
set_option maxRecDepth 100000 in
set_option maxHeartbeats 2000000 in
theorem rtold_err (h : Hd) (p1 : Option Addr) (k1 c1 : Nat) (p2 : Option Addr) (k2 c2 er : Nat) (her : er ≠ 0) (her2 : er < 100) (w : World) :
  Calls Tryz.prog 20 #[rfV h (.slice p1 k1 c1) (.slice p2 k2 c2), .int .i64 er] w fun e w' => e = .returned (.tuple #[.string ByteArray.empty, .int .i64 er]) /\ Below w.heap.size w w' := by
 have hbe : ((er : Int) != 0) = true := by rw [bne_iff_ne]; omega
 unfold rfV
 go_enter Tryz.func20, Tryz.ntmps20
 go_wp2_with fail
 go_ret2
 exact ⟨rfl, (Below.refl _ _).alloc (Nat.le_refl _) _⟩
set_option maxRecDepth 100000 in
set_option maxHeartbeats 2000000 in
theorem rtold_ok (n : Nat) (j : J n) (v : Value) (w : World) (hst : RSt (fun _ => False) w n j v) (hf : Fit n j) (hn : nodes n j <= 1000000) (hn2 : n <= 1000) (hl : (tell n j).length <= 100000) (hR : Room w) :
  Calls Tryz.prog 20 #[v, .int .i64 0] w fun e w' => e = .returned (.tuple (toldE n j)) /\ Below w.heap.size w w' := by
 obtain ⟨nm, l, rfl⟩ := rst_form hst
 obtain ⟨⟨p1, k1, c1, rfl⟩, p2, k2, c2, rfl⟩ := rst_sl hst
 have HT : Hid (∀ w1, Below w.heap.size w w1 -> Calls Tryz.prog 18 #[rfV (headJ n j) (.slice p1 k1 c1) (.slice p2 k2 c2)] w1 fun e w' => e = .returned (.tuple (toldE n j)) /\ Below w1.heap.size w1 w') := fun w1 b => rftellv_any n _ j _ w1 (hst.below b) hf hn hn2 hl (hR.below b)
 obtain ⟨s, er, he⟩ := toldE_form n j
 rw [he] at HT
 rw [he]
 generalize headJ n j = h at *
 clear hst hf hR he
 unfold rfV at HT
 unfold rfV
 have HB : Hid (Below w.heap.size w (w.alloc (.cells #[.int .i64 h.k, .bool h.b, .int .i64 h.i, .string ⟨h.s.toArray⟩, .slice p1 k1 c1, .slice p2 k2 c2] 38))) := (Below.refl _ _).alloc (Nat.le_refl _) _
 go_enter Tryz.func20, Tryz.ntmps20
 go_wp2_with fail
 generalize w.alloc (.cells #[.int .i64 h.k, .bool h.b, .int .i64 h.i, .string ⟨h.s.toArray⟩, .slice p1 k1 c1, .slice p2 k2 c2] 38) = w1 at *
 refine Calls.mono (HT.out w1 HB.out) ?_
 rintro e w2 ⟨rfl, b2⟩
 have HB2 : Hid (Below w.heap.size w w2) := HB.out.trans (b2.mono HB.out.size)
 clear b2
 go_wp2_with fail
 go_ret2
 exact ⟨rfl, HB2.out⟩
set_option maxRecDepth 100000 in
set_option maxHeartbeats 8000000 in
theorem rapply_any {N : Nat} (hN : 20 <= N) (hN2 : N <= 1000) (x y : ByteArray) (w : World) (hR : Room w) :
  Calls Tryz.prog 7 #[.string x, .string y] w fun e w' => e = .returned (.tuple (bothA N (applyR N) x.data.toList y.data.toList)) /\ Below w.heap.size w w' := by
 have HRd : Hid (Calls Tryz.prog 16 #[.slice (some ⟨w.heap.size, 0, none⟩) 2 2] (w.alloc (.cells #[.string x, .string y] 9)) (ReadsPost x.data.toList y.data.toList (w.alloc (.cells #[.string x, .string y] 9)))) := rfreads_any x y w.heap.size (w.alloc (.cells #[.string x, .string y] 9)) (heap_alloc_new w _)
 have HB0 : Hid (Below w.heap.size w (w.alloc (.cells #[.string x, .string y] 9))) := (Below.refl _ _).alloc (Nat.le_refl _) _
 have HRm : Hid (Room w) := hR
 obtain ⟨res, hres⟩ : ∃ res, res = bothA N (applyR N) x.data.toList y.data.toList := ⟨_, rfl⟩
 have HRes : Hid (res = bothA N (applyR N) x.data.toList y.data.toList) := hres
 rw [<- hres]
 clear hR hres
 go_enter Tryz.func7, Tryz.ntmps7
 go_wp2_with fail
 generalize w.alloc (.cells #[.string x, .string y] 9) = w0 at *
 refine Calls.mono HRd.out ?_
 rintro e w1 ⟨b1, h1⟩
 have HB1 : Hid (Below w.heap.size w w1) := HB0.out.trans (b1.mono HB0.out.size)
 clear b1 HRd
 rcases h1 with ⟨er, hr, her, her2, p, k, c, rfl⟩ | ⟨a, b, g, c, hr, rfl, hv⟩
 ·have hbe : ((er : Int) != 0) = true := by rw [bne_iff_ne]; omega
  have HE : Hid (res = #[.string ByteArray.empty, .int .i64 er]) := by
   show res = _
   rw [HRes.out]
   unfold readsE at hr
   unfold bothA rd20
   cases hx : read x.data.toList with
   | error e =>
    rw [hx] at hr
    cases hr
    rfl
   | ok A =>
    rw [hx] at hr
    cases hy : read y.data.toList with
    | error e =>
     simp only [hy] at hr
     cases hr
     rfl
    | ok B =>
     simp only [hy] at hr
     cases hr
  clear hr
  go_wp2_with fail
  go_ret2
  exact ⟨by rw [HE.out]; rfl, HB1.out⟩
 ·obtain ⟨hg, ⟨p1, k1, c1, p2, k2, c2, hsA, hA⟩, p3, k3, c3, p4, k4, c4, hsB, hBv⟩ := two_vals hv
  obtain ⟨hx, hy⟩ : read x.data.toList = .ok a /\ read y.data.toList = .ok b := by
   unfold readsE at hr
   cases hx : read x.data.toList with
   | error e => rw [hx] at hr; cases hr
   | ok A =>
    rw [hx] at hr
    cases hy : read y.data.toList with
    | error e => simp only [hy] at hr; cases hr
    | ok B =>
     simp only [hy] at hr
     cases hr
     exact ⟨rfl, rfl⟩
  have hTa := rd20_told hN (rd20_ok (N := N) hx)
  have hTb := rd20_told hN (rd20_ok (N := N) hy)
  have HEq : Hid (res = match (applyR N) (lift 10 N a) (lift 10 N b) with
    | .error e => #[.string ByteArray.empty, .int .i64 e]
    | .ok j => toldE N j) := by
   show res = _
   rw [HRes.out]
   unfold bothA
   rw [rd20_ok hx, rd20_ok hy]
   show (match (applyR N) (lift 10 N a) (lift 10 N b) with | .error e => #[Value.string ByteArray.empty, .int .i64 e] | .ok j => toldE N j) = _
   cases (applyR N) (lift 10 N a) (lift 10 N b) <;> rfl
  have HSa : Hid (∀ w', Below w1.heap.size w1 w' -> RSt (fun _ => False) w' N (lift 10 N a) (rfV (headJ 10 a) (.slice p1 k1 c1) (.slice p2 k2 c2))) := fun w' b9 => (rst_lift 10 N a _ (by omega) hA).below b9
  have HSb : Hid (∀ w', Below w1.heap.size w1 w' -> RSt (fun _ => False) w' N (lift 10 N b) (rfV (headJ 10 b) (.slice p3 k3 c3) (.slice p4 k4 c4))) := fun w' b9 => (rst_lift 10 N b _ (by omega) hBv).below b9
  have HXa : Hid (∀ w', Below w1.heap.size w1 w' -> Six w' g 0 (headJ 10 a) (.slice p1 k1 c1) (.slice p2 k2 c2)) := fun w' b9 => hsA.keep (b9.block g hg)
  have HXb : Hid (∀ w', Below w1.heap.size w1 w' -> Six w' g 6 (headJ 10 b) (.slice p3 k3 c3) (.slice p4 k4 c4)) := fun w' b9 => hsB.keep (b9.block g hg)
  have HTA : Hid (Told20 N (lift 10 N a)) := hTa
  have HTB : Hid (Told20 N (lift 10 N b)) := hTb
  have HSmall : Hid (∀ j, (applyR N) (lift 10 N a) (lift 10 N b) = .ok j -> Fit N j /\ nodes N j <= 1000000 /\ (tell N j).length <= 100000) := fun j h => by
   have h1 := (apply_makes N).wgt _ _ j h
   have h2 := told_wgt hTa
   have h3 := told_wgt hTb
   have h4 := wgt_len N j
   exact ⟨(Makes.fine hN2 (apply_makes N) hTa hTb h).fit, by omega, by omega⟩
  have HCl : Hid (∀ w', Below w1.heap.size w1 w' -> Calls Tryz.prog 17 #[rfV (headJ 10 a) (.slice p1 k1 c1) (.slice p2 k2 c2), rfV (headJ 10 b) (.slice p3 k3 c3) (.slice p4 k4 c4)] w' fun e w'' => ∃ j u, (applyR N) (lift 10 N a) (lift 10 N b) = .ok j /\ e = .returned u /\ RSt (fun _ => False) w'' N j u /\ Below w'.heap.size w' w'') := fun w' b9 => by
   refine (into_ok N (fun _ => False) (some (lift 10 N a)) (lift 10 N b) _ _ w' (fun _ _ h => h) (HSa.out w' b9) (HSb.out w' b9) (fun x h => by cases h; have := hTa.nodes; omega) (by have := hTb.nodes; omega)).mono ?_
   rintro e w'' ⟨u, rfl, hu, b8⟩
   refine ⟨_, u, rfl, rfl, ?_, b8⟩
   rw [<- into_merged N (some (lift 10 N a)) (lift 10 N b) (fun x h => by cases h; exact hTa.good) hTb.good]
   exact hu
  generalize (applyR N) (lift 10 N a) (lift 10 N b) = rr at *
  clear hr hv hsA hsB hA hBv hx hy hTa hTb hg
  unfold rfV at HCl
  have hHeld : Below w1.heap.size w1 w1.drew := (Below.refl _ _).drew
  go_wp2_with fail
  refine M_begin 10 12 (fun w' => Below w1.heap.size w1 w') (by kernel_rfl) rfl ?_
  refine M_takeA 0 (v := ?vv1) rfl hHeld (Or.inl ⟨by rfl, ?hy1⟩) ?_
  case hy1 => (intro w' hSw; go_simp; try (with_reducible rfl))
  try simp only [Act.put, List.setIfInBounds_toArray, List.set_cons_zero, List.set_cons_succ]
  refine M_takeA 1 (v := ?vv2) rfl hHeld (Or.inl ⟨by rfl, ?hy2⟩) ?_
  case hy2 => (intro w' hSw; go_simp; try (with_reducible rfl))
  try simp only [Act.put, List.setIfInBounds_toArray, List.set_cons_zero, List.set_cons_succ]
  refine M_takeA 2 (v := ?vv3) rfl hHeld (Or.inl ⟨by rfl, ?hy3⟩) ?_
  case hy3 => (intro w' hSw; obtain ⟨x0, x1, x2, x3, x4, x5⟩ := HXa.out w' hSw; go_simp; try (with_reducible rfl))
  try simp only [Act.put, List.setIfInBounds_toArray, List.set_cons_zero, List.set_cons_succ]
  refine M_takeA 3 (v := ?vv4) rfl hHeld (Or.inl ⟨by rfl, ?hy4⟩) ?_
  case hy4 => (intro w' hSw; go_simp; try (with_reducible rfl))
  try simp only [Act.put, List.setIfInBounds_toArray, List.set_cons_zero, List.set_cons_succ]
  refine M_takeA 4 (v := ?vv5) rfl hHeld (Or.inl ⟨by rfl, ?hy5⟩) ?_
  case hy5 => (intro w' hSw; go_simp; try (with_reducible rfl))
  try simp only [Act.put, List.setIfInBounds_toArray, List.set_cons_zero, List.set_cons_succ]
  refine M_takeA 5 (v := ?vv6) rfl hHeld (Or.inl ⟨by rfl, ?hy6⟩) ?_
  case hy6 => (intro w' hSw; obtain ⟨x0, x1, x2, x3, x4, x5⟩ := HXb.out w' hSw; go_simp; try (with_reducible rfl))
  try simp only [Act.put, List.setIfInBounds_toArray, List.set_cons_zero, List.set_cons_succ]
  refine M_ready [6] (by kernel_rfl) (by decide) ?_
  refine AllM.cons (i := 6) rfl (fun K hK => ?_) AllM.nil
  rw [if_pos (by rfl)]
  go_wp2_with fail
  refine Calls.mono (HCl.out _ hHeld) ?_
  rintro e x1 ⟨j, u, hj, rfl, hu, b2⟩
  obtain ⟨hf, hn9, hl9⟩ := HSmall.out j hj
  rw [hj] at HEq
  have HTl : Hid (∀ w', Below x1.heap.size x1 w' -> Calls Tryz.prog 18 #[u] w' fun e w'' => e = .returned (.tuple (toldE N j)) /\ Below w'.heap.size w' w'') := fun w' b8 => rftellv_any N _ j u w' (hu.below b8) hf hn9 hN2 hl9 ((HRm.out.below HB1.out).below ((hHeld.trans (b2.mono hHeld.size)).trans (b8.mono (hHeld.trans (b2.mono hHeld.size)).size)))
  obtain ⟨s9, er9, he9⟩ := toldE_form N j
  rw [he9] at HTl
  have HE9 : Hid (res = #[.string s9, .int .i64 er9]) := by show res = _; rw [HEq.out, <- he9]
  obtain ⟨un1, ul1, rfl⟩ := rst_form hu
  obtain ⟨⟨r1, i1, j1, rfl⟩, r2, i2, j2, rfl⟩ := rst_sl hu
  clear hu hf hn9 hl9 he9 HEq
  unfold rfV at HTl
  unfold rfV
  dsimp only
  refine hK.out _ _ (hHeld.trans (b2.mono hHeld.size)) (fun hHeld => ?_)
  clear hK K
  try simp only [Act.put, List.setIfInBounds_toArray, List.set_cons_zero, List.set_cons_succ]
  refine M_ready [7] (by kernel_rfl) (by decide) ?_
  refine AllM.cons (i := 7) rfl (fun K hK => ?_) AllM.nil
  rw [if_pos (by rfl)]
  go_wp2_with fail
  refine Calls.mono (HTl.out _ (Below.refl _ _)) ?_
  rintro e x2 ⟨rfl, b3⟩
  dsimp only
  refine hK.out _ _ (hHeld.trans (b3.mono hHeld.size)) (fun hHeld => ?_)
  clear hK K
  try simp only [Act.put, List.setIfInBounds_toArray, List.set_cons_zero, List.set_cons_succ]
  refine M_takeA 8 (v := ?vv7) rfl hHeld (Or.inl ⟨by rfl, ?hy7⟩) ?_
  case hy7 => (intro w' hSw; go_simp; try (with_reducible rfl))
  try simp only [Act.put, List.setIfInBounds_toArray, List.set_cons_zero, List.set_cons_succ]
  refine M_takeA 9 (v := ?vv8) rfl hHeld (Or.inl ⟨by rfl, ?hy8⟩) ?_
  case hy8 => (intro w' hSw; go_simp; try (with_reducible rfl))
  try simp only [Act.put, List.setIfInBounds_toArray, List.set_cons_zero, List.set_cons_succ]
  have HBz : Hid (Below w.heap.size w x2) := HB1.out.trans (hHeld.mono HB1.out.size)
  refine M_tail [{ dst := some 4, op := Op.assign (Operand.tmp 26), type := 9, pos := "docs.go:36", after := #[{ on := 8, ground := Ground.data }, { on := 7, ground := Ground.chain }, { on := 0, ground := Ground.phase }, { on := 1, ground := Ground.phase }, { on := 2, ground := Ground.phase }, { on := 3, ground := Ground.phase }, { on := 4, ground := Ground.phase }, { on := 5, ground := Ground.phase }, { on := 6, ground := Ground.phase }, { on := 7, ground := Ground.phase }, { on := 8, ground := Ground.phase }, { on := 9, ground := Ground.phase }], guard := none }, { dst := some 5, op := Op.assign (Operand.tmp 27), type := 22, pos := "docs.go:36", after := #[{ on := 9, ground := Ground.data }, { on := 10, ground := Ground.chain }, { on := 0, ground := Ground.phase }, { on := 1, ground := Ground.phase }, { on := 2, ground := Ground.phase }, { on := 3, ground := Ground.phase }, { on := 4, ground := Ground.phase }, { on := 5, ground := Ground.phase }, { on := 6, ground := Ground.phase }, { on := 7, ground := Ground.phase }, { on := 8, ground := Ground.phase }, { on := 9, ground := Ground.phase }, { on := 10, ground := Ground.phase }], guard := none }] rfl (by kernel_rfl) (by kernel_rfl) ?_
  clear hHeld b2 b3
  go_wp2_with fail
  go_ret2
  exact ⟨by rw [HE9.out]; rfl, HBz.out⟩
set_option maxRecDepth 100000 in
set_option maxHeartbeats 8000000 in
theorem rdiff_any {N : Nat} (hN : 20 <= N) (hN2 : N <= 1000) (x y : ByteArray) (w : World) (hR : Room w) :
  Calls Tryz.prog 9 #[.string x, .string y] w fun e w' => e = .returned (.tuple (bothA N (diffR N) x.data.toList y.data.toList)) /\ Below w.heap.size w w' := by
 have HRd : Hid (Calls Tryz.prog 16 #[.slice (some ⟨w.heap.size, 0, none⟩) 2 2] (w.alloc (.cells #[.string x, .string y] 9)) (ReadsPost x.data.toList y.data.toList (w.alloc (.cells #[.string x, .string y] 9)))) := rfreads_any x y w.heap.size (w.alloc (.cells #[.string x, .string y] 9)) (heap_alloc_new w _)
 have HB0 : Hid (Below w.heap.size w (w.alloc (.cells #[.string x, .string y] 9))) := (Below.refl _ _).alloc (Nat.le_refl _) _
 have HRm : Hid (Room w) := hR
 obtain ⟨res, hres⟩ : ∃ res, res = bothA N (diffR N) x.data.toList y.data.toList := ⟨_, rfl⟩
 have HRes : Hid (res = bothA N (diffR N) x.data.toList y.data.toList) := hres
 rw [<- hres]
 clear hR hres
 go_enter Tryz.func9, Tryz.ntmps9
 go_wp2_with fail
 generalize w.alloc (.cells #[.string x, .string y] 9) = w0 at *
 refine Calls.mono HRd.out ?_
 rintro e w1 ⟨b1, h1⟩
 have HB1 : Hid (Below w.heap.size w w1) := HB0.out.trans (b1.mono HB0.out.size)
 clear b1 HRd
 rcases h1 with ⟨er, hr, her, her2, p, k, c, rfl⟩ | ⟨a, b, g, c, hr, rfl, hv⟩
 ·have hbe : ((er : Int) != 0) = true := by rw [bne_iff_ne]; omega
  have HE : Hid (res = #[.string ByteArray.empty, .int .i64 er]) := by
   show res = _
   rw [HRes.out]
   unfold readsE at hr
   unfold bothA rd20
   cases hx : read x.data.toList with
   | error e =>
    rw [hx] at hr
    cases hr
    rfl
   | ok A =>
    rw [hx] at hr
    cases hy : read y.data.toList with
    | error e =>
     simp only [hy] at hr
     cases hr
     rfl
    | ok B =>
     simp only [hy] at hr
     cases hr
  clear hr
  go_wp2_with fail
  go_ret2
  exact ⟨by rw [HE.out]; rfl, HB1.out⟩
 ·obtain ⟨hg, ⟨p1, k1, c1, p2, k2, c2, hsA, hA⟩, p3, k3, c3, p4, k4, c4, hsB, hBv⟩ := two_vals hv
  obtain ⟨hx, hy⟩ : read x.data.toList = .ok a /\ read y.data.toList = .ok b := by
   unfold readsE at hr
   cases hx : read x.data.toList with
   | error e => rw [hx] at hr; cases hr
   | ok A =>
    rw [hx] at hr
    cases hy : read y.data.toList with
    | error e => simp only [hy] at hr; cases hr
    | ok B =>
     simp only [hy] at hr
     cases hr
     exact ⟨rfl, rfl⟩
  have hTa := rd20_told hN (rd20_ok (N := N) hx)
  have hTb := rd20_told hN (rd20_ok (N := N) hy)
  have HEq : Hid (res = match (diffR N) (lift 10 N a) (lift 10 N b) with
    | .error e => #[.string ByteArray.empty, .int .i64 e]
    | .ok j => toldE N j) := by
   show res = _
   rw [HRes.out]
   unfold bothA
   rw [rd20_ok hx, rd20_ok hy]
   show (match (diffR N) (lift 10 N a) (lift 10 N b) with | .error e => #[Value.string ByteArray.empty, .int .i64 e] | .ok j => toldE N j) = _
   cases (diffR N) (lift 10 N a) (lift 10 N b) <;> rfl
  have HSa : Hid (∀ w', Below w1.heap.size w1 w' -> RSt (fun _ => False) w' N (lift 10 N a) (rfV (headJ 10 a) (.slice p1 k1 c1) (.slice p2 k2 c2))) := fun w' b9 => (rst_lift 10 N a _ (by omega) hA).below b9
  have HSb : Hid (∀ w', Below w1.heap.size w1 w' -> RSt (fun _ => False) w' N (lift 10 N b) (rfV (headJ 10 b) (.slice p3 k3 c3) (.slice p4 k4 c4))) := fun w' b9 => (rst_lift 10 N b _ (by omega) hBv).below b9
  have HXa : Hid (∀ w', Below w1.heap.size w1 w' -> Six w' g 0 (headJ 10 a) (.slice p1 k1 c1) (.slice p2 k2 c2)) := fun w' b9 => hsA.keep (b9.block g hg)
  have HXb : Hid (∀ w', Below w1.heap.size w1 w' -> Six w' g 6 (headJ 10 b) (.slice p3 k3 c3) (.slice p4 k4 c4)) := fun w' b9 => hsB.keep (b9.block g hg)
  have HTA : Hid (Told20 N (lift 10 N a)) := hTa
  have HTB : Hid (Told20 N (lift 10 N b)) := hTb
  have HSmall : Hid (∀ j, (diffR N) (lift 10 N a) (lift 10 N b) = .ok j -> Fit N j /\ nodes N j <= 1000000 /\ (tell N j).length <= 100000) := fun j h => by
   have h1 := (diff_makes N).wgt _ _ j h
   have h2 := told_wgt hTa
   have h3 := told_wgt hTb
   have h4 := wgt_len N j
   exact ⟨(Makes.fine hN2 (diff_makes N) hTa hTb h).fit, by omega, by omega⟩
  have HCl : Hid (∀ w', Below w1.heap.size w1 w' -> Calls Tryz.prog 21 #[rfV (headJ 10 a) (.slice p1 k1 c1) (.slice p2 k2 c2), rfV (headJ 10 b) (.slice p3 k3 c3) (.slice p4 k4 c4)] w' (RAns (fun _ => False) N ((diffR N) (lift 10 N a) (lift 10 N b)) w')) := fun w' b9 => by
   have h9 := bet_ok N (fun _ => False) (some (lift 10 N a)) (lift 10 N b) _ _ w' (fun _ _ h => h) (HSa.out w' b9) (HSb.out w' b9) (fun x h => by cases h; exact hTa) hTb
   rw [between_ref N (some (lift 10 N a)) (lift 10 N b) (fun x h => by cases h; exact hTa.good) hTb.good] at h9
   exact h9
  generalize (diffR N) (lift 10 N a) (lift 10 N b) = rr at *
  clear hr hv hsA hsB hA hBv hx hy hTa hTb hg
  unfold rfV at HCl
  have hHeld : Below w1.heap.size w1 w1.drew := (Below.refl _ _).drew
  go_wp2_with fail
  refine M_begin 12 14 (fun w' => Below w1.heap.size w1 w') (by kernel_rfl) rfl ?_
  refine M_takeA 0 (v := ?vv9) rfl hHeld (Or.inl ⟨by rfl, ?hy9⟩) ?_
  case hy9 => (intro w' hSw; go_simp; try (with_reducible rfl))
  try simp only [Act.put, List.setIfInBounds_toArray, List.set_cons_zero, List.set_cons_succ]
  refine M_takeA 1 (v := ?vv10) rfl hHeld (Or.inl ⟨by rfl, ?hy10⟩) ?_
  case hy10 => (intro w' hSw; go_simp; try (with_reducible rfl))
  try simp only [Act.put, List.setIfInBounds_toArray, List.set_cons_zero, List.set_cons_succ]
  refine M_takeA 2 (v := ?vv11) rfl hHeld (Or.inl ⟨by rfl, ?hy11⟩) ?_
  case hy11 => (intro w' hSw; obtain ⟨x0, x1, x2, x3, x4, x5⟩ := HXa.out w' hSw; go_simp; try (with_reducible rfl))
  try simp only [Act.put, List.setIfInBounds_toArray, List.set_cons_zero, List.set_cons_succ]
  refine M_takeA 3 (v := ?vv12) rfl hHeld (Or.inl ⟨by rfl, ?hy12⟩) ?_
  case hy12 => (intro w' hSw; go_simp; try (with_reducible rfl))
  try simp only [Act.put, List.setIfInBounds_toArray, List.set_cons_zero, List.set_cons_succ]
  refine M_takeA 4 (v := ?vv13) rfl hHeld (Or.inl ⟨by rfl, ?hy13⟩) ?_
  case hy13 => (intro w' hSw; go_simp; try (with_reducible rfl))
  try simp only [Act.put, List.setIfInBounds_toArray, List.set_cons_zero, List.set_cons_succ]
  refine M_takeA 5 (v := ?vv14) rfl hHeld (Or.inl ⟨by rfl, ?hy14⟩) ?_
  case hy14 => (intro w' hSw; obtain ⟨x0, x1, x2, x3, x4, x5⟩ := HXb.out w' hSw; go_simp; try (with_reducible rfl))
  try simp only [Act.put, List.setIfInBounds_toArray, List.set_cons_zero, List.set_cons_succ]
  refine M_ready [6] (by kernel_rfl) (by decide) ?_
  refine AllM.cons (i := 6) rfl (fun K hK => ?_) AllM.nil
  rw [if_pos (by rfl)]
  go_wp2_with fail
  refine Calls.mono (HCl.out _ hHeld) ?_
  rintro e x1 ⟨b2, h2⟩
  cases hrr : rr with
  | error er =>
   rw [hrr] at h2 HEq
   obtain ⟨her, her2, rfl⟩ := h2
   have HTl : Hid (∀ w', Calls Tryz.prog 20 #[rfV ⟨0, false, 0, []⟩ (.slice none 0 0) (.slice none 0 0), .int .i64 er] w' fun e w'' => e = .returned (.tuple #[.string ByteArray.empty, .int .i64 er]) /\ Below w'.heap.size w' w'') := fun w' => rtold_err _ _ _ _ _ _ _ er her her2 w'
   have HE9 : Hid (res = #[.string ByteArray.empty, .int .i64 er]) := HEq.out
   clear HEq
   unfold rfV at HTl
   unfold rfV
   dsimp only
   refine hK.out _ _ (hHeld.trans (b2.mono hHeld.size)) (fun hHeld => ?_)
   clear hK K
   try simp only [Act.put, List.setIfInBounds_toArray, List.set_cons_zero, List.set_cons_succ]
   refine M_takeA 7 (v := ?vv15) rfl hHeld (Or.inl ⟨by rfl, ?hy15⟩) ?_
   case hy15 => (intro w' hSw; go_simp; try (with_reducible rfl))
   try simp only [Act.put, List.setIfInBounds_toArray, List.set_cons_zero, List.set_cons_succ]
   refine M_takeA 8 (v := ?vv16) rfl hHeld (Or.inl ⟨by rfl, ?hy16⟩) ?_
   case hy16 => (intro w' hSw; go_simp; try (with_reducible rfl))
   try simp only [Act.put, List.setIfInBounds_toArray, List.set_cons_zero, List.set_cons_succ]
   refine M_ready [9] (by kernel_rfl) (by decide) ?_
   refine AllM.cons (i := 9) rfl (fun K hK => ?_) AllM.nil
   rw [if_pos (by rfl)]
   go_wp2_with fail
   refine Calls.mono (HTl.out _) ?_
   rintro e x2 ⟨rfl, b3⟩
   dsimp only
   refine hK.out _ _ (hHeld.trans (b3.mono hHeld.size)) (fun hHeld => ?_)
   clear hK K
   try simp only [Act.put, List.setIfInBounds_toArray, List.set_cons_zero, List.set_cons_succ]
   refine M_takeA 10 (v := ?vv17) rfl hHeld (Or.inl ⟨by rfl, ?hy17⟩) ?_
   case hy17 => (intro w' hSw; go_simp; try (with_reducible rfl))
   try simp only [Act.put, List.setIfInBounds_toArray, List.set_cons_zero, List.set_cons_succ]
   refine M_takeA 11 (v := ?vv18) rfl hHeld (Or.inl ⟨by rfl, ?hy18⟩) ?_
   case hy18 => (intro w' hSw; go_simp; try (with_reducible rfl))
   try simp only [Act.put, List.setIfInBounds_toArray, List.set_cons_zero, List.set_cons_succ]
   have HBz : Hid (Below w.heap.size w x2) := HB1.out.trans (hHeld.mono HB1.out.size)
   refine M_tail [{ dst := some 4, op := Op.assign (Operand.tmp 28), type := 9, pos := "docs.go:87", after := #[{ on := 10, ground := Ground.data }, { on := 9, ground := Ground.chain }, { on := 0, ground := Ground.phase }, { on := 1, ground := Ground.phase }, { on := 2, ground := Ground.phase }, { on := 3, ground := Ground.phase }, { on := 4, ground := Ground.phase }, { on := 5, ground := Ground.phase }, { on := 6, ground := Ground.phase }, { on := 7, ground := Ground.phase }, { on := 8, ground := Ground.phase }, { on := 9, ground := Ground.phase }, { on := 10, ground := Ground.phase }, { on := 11, ground := Ground.phase }], guard := none }, { dst := some 5, op := Op.assign (Operand.tmp 29), type := 22, pos := "docs.go:87", after := #[{ on := 11, ground := Ground.data }, { on := 12, ground := Ground.chain }, { on := 0, ground := Ground.phase }, { on := 1, ground := Ground.phase }, { on := 2, ground := Ground.phase }, { on := 3, ground := Ground.phase }, { on := 4, ground := Ground.phase }, { on := 5, ground := Ground.phase }, { on := 6, ground := Ground.phase }, { on := 7, ground := Ground.phase }, { on := 8, ground := Ground.phase }, { on := 9, ground := Ground.phase }, { on := 10, ground := Ground.phase }, { on := 11, ground := Ground.phase }, { on := 12, ground := Ground.phase }], guard := none }] rfl (by kernel_rfl) (by kernel_rfl) ?_
   clear hHeld b2 b3
   go_wp2_with fail
   go_ret2
   exact ⟨by rw [HE9.out]; rfl, HBz.out⟩
  | ok j =>
   rw [hrr] at h2 HEq
   obtain ⟨u, rfl, hu⟩ := h2
   obtain ⟨hf, hn9, hl9⟩ := HSmall.out j hrr
   have HTl : Hid (∀ w', Below x1.heap.size x1 w' -> Calls Tryz.prog 20 #[u, .int .i64 0] w' fun e w'' => e = .returned (.tuple (toldE N j)) /\ Below w'.heap.size w' w'') := fun w' b8 => rtold_ok N j u w' (hu.below b8) hf hn9 hN2 hl9 ((HRm.out.below HB1.out).below ((hHeld.trans (b2.mono hHeld.size)).trans (b8.mono (hHeld.trans (b2.mono hHeld.size)).size)))
   obtain ⟨s9, er9, he9⟩ := toldE_form N j
   rw [he9] at HTl
   have HE9 : Hid (res = #[.string s9, .int .i64 er9]) := by show res = _; rw [HEq.out, <- he9]
   obtain ⟨un1, ul1, rfl⟩ := rst_form hu
   obtain ⟨⟨r1, i1, j1, rfl⟩, r2, i2, j2, rfl⟩ := rst_sl hu
   clear hu hf hn9 hl9 he9 HEq
   unfold rfV at HTl
   unfold rfV
   dsimp only
   refine hK.out _ _ (hHeld.trans (b2.mono hHeld.size)) (fun hHeld => ?_)
   clear hK K
   try simp only [Act.put, List.setIfInBounds_toArray, List.set_cons_zero, List.set_cons_succ]
   refine M_takeA 7 (v := ?vv19) rfl hHeld (Or.inl ⟨by rfl, ?hy19⟩) ?_
   case hy19 => (intro w' hSw; go_simp; try (with_reducible rfl))
   try simp only [Act.put, List.setIfInBounds_toArray, List.set_cons_zero, List.set_cons_succ]
   refine M_takeA 8 (v := ?vv20) rfl hHeld (Or.inl ⟨by rfl, ?hy20⟩) ?_
   case hy20 => (intro w' hSw; go_simp; try (with_reducible rfl))
   try simp only [Act.put, List.setIfInBounds_toArray, List.set_cons_zero, List.set_cons_succ]
   refine M_ready [9] (by kernel_rfl) (by decide) ?_
   refine AllM.cons (i := 9) rfl (fun K hK => ?_) AllM.nil
   rw [if_pos (by rfl)]
   go_wp2_with fail
   refine Calls.mono (HTl.out _ (Below.refl _ _)) ?_
   rintro e x2 ⟨rfl, b3⟩
   dsimp only
   refine hK.out _ _ (hHeld.trans (b3.mono hHeld.size)) (fun hHeld => ?_)
   clear hK K
   try simp only [Act.put, List.setIfInBounds_toArray, List.set_cons_zero, List.set_cons_succ]
   refine M_takeA 10 (v := ?vv21) rfl hHeld (Or.inl ⟨by rfl, ?hy21⟩) ?_
   case hy21 => (intro w' hSw; go_simp; try (with_reducible rfl))
   try simp only [Act.put, List.setIfInBounds_toArray, List.set_cons_zero, List.set_cons_succ]
   refine M_takeA 11 (v := ?vv22) rfl hHeld (Or.inl ⟨by rfl, ?hy22⟩) ?_
   case hy22 => (intro w' hSw; go_simp; try (with_reducible rfl))
   try simp only [Act.put, List.setIfInBounds_toArray, List.set_cons_zero, List.set_cons_succ]
   have HBz : Hid (Below w.heap.size w x2) := HB1.out.trans (hHeld.mono HB1.out.size)
   refine M_tail [{ dst := some 4, op := Op.assign (Operand.tmp 28), type := 9, pos := "docs.go:87", after := #[{ on := 10, ground := Ground.data }, { on := 9, ground := Ground.chain }, { on := 0, ground := Ground.phase }, { on := 1, ground := Ground.phase }, { on := 2, ground := Ground.phase }, { on := 3, ground := Ground.phase }, { on := 4, ground := Ground.phase }, { on := 5, ground := Ground.phase }, { on := 6, ground := Ground.phase }, { on := 7, ground := Ground.phase }, { on := 8, ground := Ground.phase }, { on := 9, ground := Ground.phase }, { on := 10, ground := Ground.phase }, { on := 11, ground := Ground.phase }], guard := none }, { dst := some 5, op := Op.assign (Operand.tmp 29), type := 22, pos := "docs.go:87", after := #[{ on := 11, ground := Ground.data }, { on := 12, ground := Ground.chain }, { on := 0, ground := Ground.phase }, { on := 1, ground := Ground.phase }, { on := 2, ground := Ground.phase }, { on := 3, ground := Ground.phase }, { on := 4, ground := Ground.phase }, { on := 5, ground := Ground.phase }, { on := 6, ground := Ground.phase }, { on := 7, ground := Ground.phase }, { on := 8, ground := Ground.phase }, { on := 9, ground := Ground.phase }, { on := 10, ground := Ground.phase }, { on := 11, ground := Ground.phase }, { on := 12, ground := Ground.phase }], guard := none }] rfl (by kernel_rfl) (by kernel_rfl) ?_
   clear hHeld b2 b3
   go_wp2_with fail
   go_ret2
   exact ⟨by rw [HE9.out]; rfl, HBz.out⟩
set_option maxRecDepth 100000 in
set_option maxHeartbeats 8000000 in
theorem rcompose_any {N : Nat} (hN : 20 <= N) (hN2 : N <= 1000) (x y : ByteArray) (w : World) (hR : Room w) :
  Calls Tryz.prog 11 #[.string x, .string y] w fun e w' => e = .returned (.tuple (bothA N (composedP N) x.data.toList y.data.toList)) /\ Below w.heap.size w w' := by
 have HRd : Hid (Calls Tryz.prog 16 #[.slice (some ⟨w.heap.size, 0, none⟩) 2 2] (w.alloc (.cells #[.string x, .string y] 9)) (ReadsPost x.data.toList y.data.toList (w.alloc (.cells #[.string x, .string y] 9)))) := rfreads_any x y w.heap.size (w.alloc (.cells #[.string x, .string y] 9)) (heap_alloc_new w _)
 have HB0 : Hid (Below w.heap.size w (w.alloc (.cells #[.string x, .string y] 9))) := (Below.refl _ _).alloc (Nat.le_refl _) _
 have HRm : Hid (Room w) := hR
 obtain ⟨res, hres⟩ : ∃ res, res = bothA N (composedP N) x.data.toList y.data.toList := ⟨_, rfl⟩
 have HRes : Hid (res = bothA N (composedP N) x.data.toList y.data.toList) := hres
 rw [<- hres]
 clear hR hres
 go_enter Tryz.func11, Tryz.ntmps11
 go_wp2_with fail
 generalize w.alloc (.cells #[.string x, .string y] 9) = w0 at *
 refine Calls.mono HRd.out ?_
 rintro e w1 ⟨b1, h1⟩
 have HB1 : Hid (Below w.heap.size w w1) := HB0.out.trans (b1.mono HB0.out.size)
 clear b1 HRd
 rcases h1 with ⟨er, hr, her, her2, p, k, c, rfl⟩ | ⟨a, b, g, c, hr, rfl, hv⟩
 ·have hbe : ((er : Int) != 0) = true := by rw [bne_iff_ne]; omega
  have HE : Hid (res = #[.string ByteArray.empty, .int .i64 er]) := by
   show res = _
   rw [HRes.out]
   unfold readsE at hr
   unfold bothA rd20
   cases hx : read x.data.toList with
   | error e =>
    rw [hx] at hr
    cases hr
    rfl
   | ok A =>
    rw [hx] at hr
    cases hy : read y.data.toList with
    | error e =>
     simp only [hy] at hr
     cases hr
     rfl
    | ok B =>
     simp only [hy] at hr
     cases hr
  clear hr
  go_wp2_with fail
  go_ret2
  exact ⟨by rw [HE.out]; rfl, HB1.out⟩
 ·obtain ⟨hg, ⟨p1, k1, c1, p2, k2, c2, hsA, hA⟩, p3, k3, c3, p4, k4, c4, hsB, hBv⟩ := two_vals hv
  obtain ⟨hx, hy⟩ : read x.data.toList = .ok a /\ read y.data.toList = .ok b := by
   unfold readsE at hr
   cases hx : read x.data.toList with
   | error e => rw [hx] at hr; cases hr
   | ok A =>
    rw [hx] at hr
    cases hy : read y.data.toList with
    | error e => simp only [hy] at hr; cases hr
    | ok B =>
     simp only [hy] at hr
     cases hr
     exact ⟨rfl, rfl⟩
  have hTa := rd20_told hN (rd20_ok (N := N) hx)
  have hTb := rd20_told hN (rd20_ok (N := N) hy)
  have HEq : Hid (res = match (composedP N) (lift 10 N a) (lift 10 N b) with
    | .error e => #[.string ByteArray.empty, .int .i64 e]
    | .ok j => toldE N j) := by
   show res = _
   rw [HRes.out]
   unfold bothA
   rw [rd20_ok hx, rd20_ok hy]
   show (match (composedP N) (lift 10 N a) (lift 10 N b) with | .error e => #[Value.string ByteArray.empty, .int .i64 e] | .ok j => toldE N j) = _
   cases (composedP N) (lift 10 N a) (lift 10 N b) <;> rfl
  have HSa : Hid (∀ w', Below w1.heap.size w1 w' -> RSt (fun _ => False) w' N (lift 10 N a) (rfV (headJ 10 a) (.slice p1 k1 c1) (.slice p2 k2 c2))) := fun w' b9 => (rst_lift 10 N a _ (by omega) hA).below b9
  have HSb : Hid (∀ w', Below w1.heap.size w1 w' -> RSt (fun _ => False) w' N (lift 10 N b) (rfV (headJ 10 b) (.slice p3 k3 c3) (.slice p4 k4 c4))) := fun w' b9 => (rst_lift 10 N b _ (by omega) hBv).below b9
  have HXa : Hid (∀ w', Below w1.heap.size w1 w' -> Six w' g 0 (headJ 10 a) (.slice p1 k1 c1) (.slice p2 k2 c2)) := fun w' b9 => hsA.keep (b9.block g hg)
  have HXb : Hid (∀ w', Below w1.heap.size w1 w' -> Six w' g 6 (headJ 10 b) (.slice p3 k3 c3) (.slice p4 k4 c4)) := fun w' b9 => hsB.keep (b9.block g hg)
  have HTA : Hid (Told20 N (lift 10 N a)) := hTa
  have HTB : Hid (Told20 N (lift 10 N b)) := hTb
  have HSmall : Hid (∀ j, (composedP N) (lift 10 N a) (lift 10 N b) = .ok j -> Fit N j /\ nodes N j <= 1000000 /\ (tell N j).length <= 100000) := fun j h => by
   have h1 := (compose_makes N).wgt _ _ j h
   have h2 := told_wgt hTa
   have h3 := told_wgt hTb
   have h4 := wgt_len N j
   exact ⟨(Makes.fine hN2 (compose_makes N) hTa hTb h).fit, by omega, by omega⟩
  have HCl : Hid (∀ w', Below w1.heap.size w1 w' -> Calls Tryz.prog 23 #[rfV (headJ 10 a) (.slice p1 k1 c1) (.slice p2 k2 c2), rfV (headJ 10 b) (.slice p3 k3 c3) (.slice p4 k4 c4)] w' (RAns (fun _ => False) N ((composedP N) (lift 10 N a) (lift 10 N b)) w')) := fun w' b9 => by
   have h9 := both_ok N (fun _ => False) (lift 10 N a) (lift 10 N b) _ _ w' (fun _ _ h => h) (HSa.out w' b9) (HSb.out w' b9) (by have := hTa.nodes; omega) (by have := hTb.nodes; omega)
   rw [both_composed N _ _ hTa.good hTb.good] at h9
   exact h9
  generalize (composedP N) (lift 10 N a) (lift 10 N b) = rr at *
  clear hr hv hsA hsB hA hBv hx hy hTa hTb hg
  unfold rfV at HCl
  have hHeld : Below w1.heap.size w1 w1.drew := (Below.refl _ _).drew
  go_wp2_with fail
  refine M_begin 12 14 (fun w' => Below w1.heap.size w1 w') (by kernel_rfl) rfl ?_
  refine M_takeA 0 (v := ?vv23) rfl hHeld (Or.inl ⟨by rfl, ?hy23⟩) ?_
  case hy23 => (intro w' hSw; go_simp; try (with_reducible rfl))
  try simp only [Act.put, List.setIfInBounds_toArray, List.set_cons_zero, List.set_cons_succ]
  refine M_takeA 1 (v := ?vv24) rfl hHeld (Or.inl ⟨by rfl, ?hy24⟩) ?_
  case hy24 => (intro w' hSw; go_simp; try (with_reducible rfl))
  try simp only [Act.put, List.setIfInBounds_toArray, List.set_cons_zero, List.set_cons_succ]
  refine M_takeA 2 (v := ?vv25) rfl hHeld (Or.inl ⟨by rfl, ?hy25⟩) ?_
  case hy25 => (intro w' hSw; obtain ⟨x0, x1, x2, x3, x4, x5⟩ := HXa.out w' hSw; go_simp; try (with_reducible rfl))
  try simp only [Act.put, List.setIfInBounds_toArray, List.set_cons_zero, List.set_cons_succ]
  refine M_takeA 3 (v := ?vv26) rfl hHeld (Or.inl ⟨by rfl, ?hy26⟩) ?_
  case hy26 => (intro w' hSw; go_simp; try (with_reducible rfl))
  try simp only [Act.put, List.setIfInBounds_toArray, List.set_cons_zero, List.set_cons_succ]
  refine M_takeA 4 (v := ?vv27) rfl hHeld (Or.inl ⟨by rfl, ?hy27⟩) ?_
  case hy27 => (intro w' hSw; go_simp; try (with_reducible rfl))
  try simp only [Act.put, List.setIfInBounds_toArray, List.set_cons_zero, List.set_cons_succ]
  refine M_takeA 5 (v := ?vv28) rfl hHeld (Or.inl ⟨by rfl, ?hy28⟩) ?_
  case hy28 => (intro w' hSw; obtain ⟨x0, x1, x2, x3, x4, x5⟩ := HXb.out w' hSw; go_simp; try (with_reducible rfl))
  try simp only [Act.put, List.setIfInBounds_toArray, List.set_cons_zero, List.set_cons_succ]
  refine M_ready [6] (by kernel_rfl) (by decide) ?_
  refine AllM.cons (i := 6) rfl (fun K hK => ?_) AllM.nil
  rw [if_pos (by rfl)]
  go_wp2_with fail
  refine Calls.mono (HCl.out _ hHeld) ?_
  rintro e x1 ⟨b2, h2⟩
  cases hrr : rr with
  | error er =>
   rw [hrr] at h2 HEq
   obtain ⟨her, her2, rfl⟩ := h2
   have HTl : Hid (∀ w', Calls Tryz.prog 20 #[rfV ⟨0, false, 0, []⟩ (.slice none 0 0) (.slice none 0 0), .int .i64 er] w' fun e w'' => e = .returned (.tuple #[.string ByteArray.empty, .int .i64 er]) /\ Below w'.heap.size w' w'') := fun w' => rtold_err _ _ _ _ _ _ _ er her her2 w'
   have HE9 : Hid (res = #[.string ByteArray.empty, .int .i64 er]) := HEq.out
   clear HEq
   unfold rfV at HTl
   unfold rfV
   dsimp only
   refine hK.out _ _ (hHeld.trans (b2.mono hHeld.size)) (fun hHeld => ?_)
   clear hK K
   try simp only [Act.put, List.setIfInBounds_toArray, List.set_cons_zero, List.set_cons_succ]
   refine M_takeA 7 (v := ?vv29) rfl hHeld (Or.inl ⟨by rfl, ?hy29⟩) ?_
   case hy29 => (intro w' hSw; go_simp; try (with_reducible rfl))
   try simp only [Act.put, List.setIfInBounds_toArray, List.set_cons_zero, List.set_cons_succ]
   refine M_takeA 8 (v := ?vv30) rfl hHeld (Or.inl ⟨by rfl, ?hy30⟩) ?_
   case hy30 => (intro w' hSw; go_simp; try (with_reducible rfl))
   try simp only [Act.put, List.setIfInBounds_toArray, List.set_cons_zero, List.set_cons_succ]
   refine M_ready [9] (by kernel_rfl) (by decide) ?_
   refine AllM.cons (i := 9) rfl (fun K hK => ?_) AllM.nil
   rw [if_pos (by rfl)]
   go_wp2_with fail
   refine Calls.mono (HTl.out _) ?_
   rintro e x2 ⟨rfl, b3⟩
   dsimp only
   refine hK.out _ _ (hHeld.trans (b3.mono hHeld.size)) (fun hHeld => ?_)
   clear hK K
   try simp only [Act.put, List.setIfInBounds_toArray, List.set_cons_zero, List.set_cons_succ]
   refine M_takeA 10 (v := ?vv31) rfl hHeld (Or.inl ⟨by rfl, ?hy31⟩) ?_
   case hy31 => (intro w' hSw; go_simp; try (with_reducible rfl))
   try simp only [Act.put, List.setIfInBounds_toArray, List.set_cons_zero, List.set_cons_succ]
   refine M_takeA 11 (v := ?vv32) rfl hHeld (Or.inl ⟨by rfl, ?hy32⟩) ?_
   case hy32 => (intro w' hSw; go_simp; try (with_reducible rfl))
   try simp only [Act.put, List.setIfInBounds_toArray, List.set_cons_zero, List.set_cons_succ]
   have HBz : Hid (Below w.heap.size w x2) := HB1.out.trans (hHeld.mono HB1.out.size)
   refine M_tail [{ dst := some 4, op := Op.assign (Operand.tmp 28), type := 9, pos := "docs.go:118", after := #[{ on := 10, ground := Ground.data }, { on := 9, ground := Ground.chain }, { on := 0, ground := Ground.phase }, { on := 1, ground := Ground.phase }, { on := 2, ground := Ground.phase }, { on := 3, ground := Ground.phase }, { on := 4, ground := Ground.phase }, { on := 5, ground := Ground.phase }, { on := 6, ground := Ground.phase }, { on := 7, ground := Ground.phase }, { on := 8, ground := Ground.phase }, { on := 9, ground := Ground.phase }, { on := 10, ground := Ground.phase }, { on := 11, ground := Ground.phase }], guard := none }, { dst := some 5, op := Op.assign (Operand.tmp 29), type := 22, pos := "docs.go:118", after := #[{ on := 11, ground := Ground.data }, { on := 12, ground := Ground.chain }, { on := 0, ground := Ground.phase }, { on := 1, ground := Ground.phase }, { on := 2, ground := Ground.phase }, { on := 3, ground := Ground.phase }, { on := 4, ground := Ground.phase }, { on := 5, ground := Ground.phase }, { on := 6, ground := Ground.phase }, { on := 7, ground := Ground.phase }, { on := 8, ground := Ground.phase }, { on := 9, ground := Ground.phase }, { on := 10, ground := Ground.phase }, { on := 11, ground := Ground.phase }, { on := 12, ground := Ground.phase }], guard := none }] rfl (by kernel_rfl) (by kernel_rfl) ?_
   clear hHeld b2 b3
   go_wp2_with fail
   go_ret2
   exact ⟨by rw [HE9.out]; rfl, HBz.out⟩
  | ok j =>
   rw [hrr] at h2 HEq
   obtain ⟨u, rfl, hu⟩ := h2
   obtain ⟨hf, hn9, hl9⟩ := HSmall.out j hrr
   have HTl : Hid (∀ w', Below x1.heap.size x1 w' -> Calls Tryz.prog 20 #[u, .int .i64 0] w' fun e w'' => e = .returned (.tuple (toldE N j)) /\ Below w'.heap.size w' w'') := fun w' b8 => rtold_ok N j u w' (hu.below b8) hf hn9 hN2 hl9 ((HRm.out.below HB1.out).below ((hHeld.trans (b2.mono hHeld.size)).trans (b8.mono (hHeld.trans (b2.mono hHeld.size)).size)))
   obtain ⟨s9, er9, he9⟩ := toldE_form N j
   rw [he9] at HTl
   have HE9 : Hid (res = #[.string s9, .int .i64 er9]) := by show res = _; rw [HEq.out, <- he9]
   obtain ⟨un1, ul1, rfl⟩ := rst_form hu
   obtain ⟨⟨r1, i1, j1, rfl⟩, r2, i2, j2, rfl⟩ := rst_sl hu
   clear hu hf hn9 hl9 he9 HEq
   unfold rfV at HTl
   unfold rfV
   dsimp only
   refine hK.out _ _ (hHeld.trans (b2.mono hHeld.size)) (fun hHeld => ?_)
   clear hK K
   try simp only [Act.put, List.setIfInBounds_toArray, List.set_cons_zero, List.set_cons_succ]
   refine M_takeA 7 (v := ?vv33) rfl hHeld (Or.inl ⟨by rfl, ?hy33⟩) ?_
   case hy33 => (intro w' hSw; go_simp; try (with_reducible rfl))
   try simp only [Act.put, List.setIfInBounds_toArray, List.set_cons_zero, List.set_cons_succ]
   refine M_takeA 8 (v := ?vv34) rfl hHeld (Or.inl ⟨by rfl, ?hy34⟩) ?_
   case hy34 => (intro w' hSw; go_simp; try (with_reducible rfl))
   try simp only [Act.put, List.setIfInBounds_toArray, List.set_cons_zero, List.set_cons_succ]
   refine M_ready [9] (by kernel_rfl) (by decide) ?_
   refine AllM.cons (i := 9) rfl (fun K hK => ?_) AllM.nil
   rw [if_pos (by rfl)]
   go_wp2_with fail
   refine Calls.mono (HTl.out _ (Below.refl _ _)) ?_
   rintro e x2 ⟨rfl, b3⟩
   dsimp only
   refine hK.out _ _ (hHeld.trans (b3.mono hHeld.size)) (fun hHeld => ?_)
   clear hK K
   try simp only [Act.put, List.setIfInBounds_toArray, List.set_cons_zero, List.set_cons_succ]
   refine M_takeA 10 (v := ?vv35) rfl hHeld (Or.inl ⟨by rfl, ?hy35⟩) ?_
   case hy35 => (intro w' hSw; go_simp; try (with_reducible rfl))
   try simp only [Act.put, List.setIfInBounds_toArray, List.set_cons_zero, List.set_cons_succ]
   refine M_takeA 11 (v := ?vv36) rfl hHeld (Or.inl ⟨by rfl, ?hy36⟩) ?_
   case hy36 => (intro w' hSw; go_simp; try (with_reducible rfl))
   try simp only [Act.put, List.setIfInBounds_toArray, List.set_cons_zero, List.set_cons_succ]
   have HBz : Hid (Below w.heap.size w x2) := HB1.out.trans (hHeld.mono HB1.out.size)
   refine M_tail [{ dst := some 4, op := Op.assign (Operand.tmp 28), type := 9, pos := "docs.go:118", after := #[{ on := 10, ground := Ground.data }, { on := 9, ground := Ground.chain }, { on := 0, ground := Ground.phase }, { on := 1, ground := Ground.phase }, { on := 2, ground := Ground.phase }, { on := 3, ground := Ground.phase }, { on := 4, ground := Ground.phase }, { on := 5, ground := Ground.phase }, { on := 6, ground := Ground.phase }, { on := 7, ground := Ground.phase }, { on := 8, ground := Ground.phase }, { on := 9, ground := Ground.phase }, { on := 10, ground := Ground.phase }, { on := 11, ground := Ground.phase }], guard := none }, { dst := some 5, op := Op.assign (Operand.tmp 29), type := 22, pos := "docs.go:118", after := #[{ on := 11, ground := Ground.data }, { on := 12, ground := Ground.chain }, { on := 0, ground := Ground.phase }, { on := 1, ground := Ground.phase }, { on := 2, ground := Ground.phase }, { on := 3, ground := Ground.phase }, { on := 4, ground := Ground.phase }, { on := 5, ground := Ground.phase }, { on := 6, ground := Ground.phase }, { on := 7, ground := Ground.phase }, { on := 8, ground := Ground.phase }, { on := 9, ground := Ground.phase }, { on := 10, ground := Ground.phase }, { on := 11, ground := Ground.phase }, { on := 12, ground := Ground.phase }], guard := none }] rfl (by kernel_rfl) (by kernel_rfl) ?_
   clear hHeld b2 b3
   go_wp2_with fail
   go_ret2
   exact ⟨by rw [HE9.out]; rfl, HBz.out⟩
theorem tabIs_of_third {P : Program} {W : World} {name : String} {k : IntKind} {zs : List Int} {x y : String × DataW Unit} {rest : List (String × DataW Unit)} {g : Nat} {t e : TypeId} {n : Nat}
  (hg : P.globalNamed name = some g) (hty : (P.globals[g]?).map (·.type) = some t) (ht : P.underlying t = some (.array n e)) (he : P.underlying e = some (.int k)) (hce : P.cellsOf e = 1) (hct : P.cellsOf t = n)
  (h : laidMet P (x :: y :: (name, Lib.tabData k zs) :: rest) W) : Lib.TabIs P W name k zs := by
 obtain ⟨ps, ⟨_, _, _, _, _, _, _, _, _, _, ⟨_, _, _, _, _, _, _, _, _, _, ⟨g', t', cs, fuel, p, q, hg', ht', hvar, hd, _, _⟩, _⟩, _⟩, _⟩ := h
 obtain rfl := Option.some.inj (hg.symm.trans hg')
 obtain rfl := Option.some.inj (hty.symm.trans ht')
 unfold Lib.TabIs
 rw [hvar, <- Lib.cells_of_tab ht he hce hct hd]
theorem tab_of_laid {x y : String × DataW Unit} {rest : List (String × DataW Unit)} {W : World} (hn : ((x :: y :: ("internal/strconv.uint64pow10", Lib.tabData .u64 Lib.pow10Tab) :: rest).all fun x => x.2.handleName?.isNone) = true)
  (h : laidMetH Tryz.prog (x :: y :: ("internal/strconv.uint64pow10", Lib.tabData .u64 Lib.pow10Tab) :: rest) W) : Tab W.heap.size W := by
 rw [Go.MakeChecks.laidMetH_plain _ _ _ hn] at h
 exact Lib.tabBelow_of_tabIs (tabIs_of_third (P := Tryz.prog) (g := 5) (t := 176) (e := 108) (n := 20) (by kernel_rfl) (by kernel_rfl) Tryz.underlying176 Tryz.underlying108 (by kernel_rfl) (by kernel_rfl) h)
theorem bothA_form (N : Nat) (r : J N -> J N -> Except Nat (J N)) (a b : Bs) : ∃ (s : ByteArray) (er : Nat), bothA N r a b = #[.string s, .int .i64 er] := by
 unfold bothA
 cases rd20 N a with
 | error e => exact ⟨_, e, rfl⟩
 | ok A =>
  cases rd20 N b with
  | error e => exact ⟨_, e, rfl⟩
  | ok B =>
   dsimp only
   cases r A B with
   | error e => exact ⟨_, e, rfl⟩
   | ok j => exact toldE_form N j
set_option maxRecDepth 100000 in
set_option maxHeartbeats 4000000 in
theorem msays_walk (N : Nat) (hN : 20 <= N) (hN2 : N <= 1000) (a b : ByteArray) (w : World) (ha : a.size <= maxLen) (hb : b.size <= maxLen) (hT : Tab w.heap.size w) (hR : Room w) :
  Calls Tryz.prog 3 #[.string a, .string b] w fun e w' => e = .returned (.bool true) /\ Below w.heap.size w w' := by
 obtain ⟨s1, e1, h1⟩ := bothA_form N (applyR N) a.data.toList b.data.toList
 obtain ⟨s2, e2, h2⟩ := bothA_form N (diffR N) a.data.toList b.data.toList
 obtain ⟨s3, e3, h3⟩ := bothA_form N (composedP N) a.data.toList b.data.toList
 have HA : Hid (SaysM w 6 #[.string a, .string b] (.tuple #[.string s1, .int .i64 e1])) := apply_says hN hN2 hT ha hb rfl rfl h1 ⟨_, _, rfl⟩
 have HD : Hid (SaysM w 8 #[.string a, .string b] (.tuple #[.string s2, .int .i64 e2])) := diff_says hN hN2 hT ha hb rfl rfl h2 ⟨_, _, rfl⟩
 have HC : Hid (SaysM w 10 #[.string a, .string b] (.tuple #[.string s3, .int .i64 e3])) := compose_says hN hN2 hT ha hb rfl rfl h3 ⟨_, _, rfl⟩
 have RA : Hid (SaysM w 7 #[.string a, .string b] (.tuple #[.string s1, .int .i64 e1])) := fun w1 b1 => by
  have h9 := rapply_any hN hN2 a b w1 (hR.below b1)
  rw [h1] at h9
  exact h9
 have RD : Hid (SaysM w 9 #[.string a, .string b] (.tuple #[.string s2, .int .i64 e2])) := fun w1 b1 => by
  have h9 := rdiff_any hN hN2 a b w1 (hR.below b1)
  rw [h2] at h9
  exact h9
 have RC : Hid (SaysM w 11 #[.string a, .string b] (.tuple #[.string s3, .int .i64 e3])) := fun w1 b1 => by
  have h9 := rcompose_any hN hN2 a b w1 (hR.below b1)
  rw [h3] at h9
  exact h9
 clear h1 h2 h3 hT hR
 go_enter Tryz.func3, Tryz.ntmps3
 go_wp2_with fail
 refine Calls.mono (HA.out w (Below.refl _ _)) ?_
 rintro e w1 ⟨rfl, b1⟩
 have HB1 : Hid (Below w.heap.size w w1) := b1
 clear b1
 go_wp2_with fail
 refine Calls.mono (RA.out w1 HB1.out) ?_
 rintro e w2 ⟨rfl, b2⟩
 have HB2 : Hid (Below w.heap.size w w2) := HB1.out.trans (b2.mono HB1.out.size)
 clear b2
 go_wp2_with fail
 refine Calls.mono (HD.out w2 HB2.out) ?_
 rintro e w3 ⟨rfl, b3⟩
 have HB3 : Hid (Below w.heap.size w w3) := HB2.out.trans (b3.mono HB2.out.size)
 clear b3
 go_wp2_with fail
 refine Calls.mono (RD.out w3 HB3.out) ?_
 rintro e w4 ⟨rfl, b4⟩
 have HB4 : Hid (Below w.heap.size w w4) := HB3.out.trans (b4.mono HB3.out.size)
 clear b4
 go_wp2_with fail
 refine Calls.mono (HC.out w4 HB4.out) ?_
 rintro e w5 ⟨rfl, b5⟩
 have HB5 : Hid (Below w.heap.size w w5) := HB4.out.trans (b5.mono HB4.out.size)
 clear b5
 go_wp2_with fail
 refine Calls.mono (RC.out w5 HB5.out) ?_
 rintro e w6 ⟨rfl, b6⟩
 have HB6 : Hid (Below w.heap.size w w6) := HB5.out.trans (b6.mono HB5.out.size)
 clear b6
 go_wp2_with fail
 go_ret
 exact ⟨by simp, HB6.out⟩
end Go.Proofs.YtjcdklbimaclkaaGreatDoor
