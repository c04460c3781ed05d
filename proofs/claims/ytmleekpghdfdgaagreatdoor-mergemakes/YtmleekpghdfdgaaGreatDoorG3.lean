/- Several texts in one: MrgDiff, MrgDTop. -/
import Derived.Test.YtmleekpghdfdgaaGreatDoorG1
import Derived.Test.YtmleekpghdfdgaaGreatDoorMrgBoth
import Derived.Test.YtmleekpghdfdgaaGreatDoorG2
import Derived.Test.YtmleekpghdfdgaaGreatDoorKindAny
/- Contracts over this translation of what tells two values apart, and of what makes the merge between two. -/
namespace Go.Proofs.YtmleekpghdfdgaaGreatDoor
open Go.RowKit
set_option linter.unusedVariables false
set_option linter.unusedSimpArgs false
set_option maxRecDepth 100000 in
set_option maxHeartbeats 1000000 in
theorem equal_any (av : Nat → Prop) (n : Nat) (i j : J n) (Ti : TypeId) (xi : Value) (T : TypeId) (x : Value) (w : World) (hi : St av w n i (.iface Ti xi)) (hj : St av w n j (.iface T x)) (oki : Okv n i) (okj : Okv n j) (hT : Tab w.heap.size w) :
    Calls Tryz.prog 42 #[.iface Ti xi, .iface T x] w fun e w' => e = .returned (.bool (decide (tell n i = tell n j))) ∧ Below w.heap.size w w' := by
  have H1 : Hid (Calls Tryz.prog 33 #[.iface Ti xi] w fun e w' => e = .returned (.string ⟨(tell n i).toArray⟩) ∧ Below w.heap.size w w') := text_any n av i _ w hi oki.fit hT (by have := oki.len; omega)
  have H2 : Hid (∀ w1, Below w.heap.size w w1 → Calls Tryz.prog 33 #[.iface T x] w1 fun e w' => e = .returned (.string ⟨(tell n j).toArray⟩) ∧ Below w1.heap.size w1 w') := fun w1 hb => text_any n av j _ w1 (hj.ona hb) okj.fit (hT.on hb) (by have := okj.len; omega)
  have hbe : ((⟨(tell n i).toArray⟩ : ByteArray).toList == (⟨(tell n j).toArray⟩ : ByteArray).toList) = decide (tell n i = tell n j) := bytes_eq _ _
  clear hi hj oki okj hT
  generalize decide (tell n i = tell n j) = r at *
  generalize (⟨(tell n i).toArray⟩ : ByteArray) = ti at *
  generalize (⟨(tell n j).toArray⟩ : ByteArray) = tj at *
  go_enter Tryz.func42, Tryz.ntmps42
  go_wp2_with fail
  refine Calls.mono H1.out ?_
  rintro e w1 ⟨rfl, b1⟩
  have HB1 : Hid (Below w.heap.size w w1) := b1
  clear b1
  go_wp2_with fail
  refine Calls.mono (H2.out w1 HB1.out) ?_
  rintro e w2 ⟨rfl, b2⟩
  have HB2 : Hid (Below w.heap.size w w2) := HB1.out.trans (b2.mono HB1.out.size)
  clear b2
  go_wp2_with fail
  go_ret
  exact ⟨by rw [← hbe]; rfl, HB2.out⟩
def BetweenOK (n : Nat) : Prop := ∀ (av : Nat → Prop) (w : World) (a : Option (J n)) (b : J n) (va : Value) (T : TypeId) (x : Value), (∀ c, av c → c < w.heap.size) → OptV av w n a va → St av w n b (.iface T x) → OkO n a → Okv n b → Tab w.heap.size w →
  Calls Tryz.prog 61 #[va, .iface T x] w (MadeV av n (betweenP n a b) w)
set_option maxRecDepth 100000 in
set_option maxHeartbeats 1000000 in
theorem between_flat (av : Nat → Prop) (n : Nat) (w : World) (a : Option (J n)) (b : J n) (va : Value) (T : TypeId) (x : Value) (hst : St av w n b (.iface T x)) (hj : isObjJ n b = false) :
    Calls Tryz.prog 61 #[va, .iface T x] w (MadeV av n (betweenP n a b) w) := by
  have ht := ta_flat (flat_type hst hj)
  rw [between_flatP a hj]
  have HS : Hid (St av w n b (.iface T x)) := hst
  clear hst hj
  go_enter Tryz.func61, Tryz.ntmps61
  go_wp2_with fail
  go_ret2
  exact ⟨Below.refl _ _, Or.inr ⟨_, _, _, rfl, rfl, HS.out⟩⟩
theorem enterD (args : Array Value) (w : World) : (callFunc 97 args).run Tryz.prog w = .ok (.enter 97 args) w := by
  have h1 : (Tryz.f97.name == "runtime.NumGoroutine") = false := by kernel_rfl
  obtain ⟨c, hb⟩ : ∃ c, Tryz.f97.body = some c := ⟨_, rfl⟩
  simp only [beq_eq_false_iff_ne, ne_eq] at h1
  simp [callFunc, Tryz.func97, h1, hb]
set_option maxRecDepth 100000 in
set_option maxHeartbeats 1000000 in
theorem closureD_nil (n : Nat) (av : Nat → Prop) (w : World) (v : Option (J n)) (vv : Value) (hv : OptV av w n v vv) (g : Option (J n) → J n → Except Nat (J n)) :
    Calls Tryz.prog 97 #[vv, .nilIface] w (MakePost av n (ofDz (some (leaf n none)) g v none) w) := by
  have HR : Hid (ofDz (some (leaf n none)) g v none = .ok (some (leaf n none))) := by
    show ofDz (some (leaf n none)) g v none = _
    cases v <;> rfl
  rw [HR.out]
  have HS : Hid (St av w n (leaf n none) (.iface 100 (.agg #[]))) := st_leaf av w n none
  clear hv
  go_enter Tryz.func97, Tryz.ntmps97
  go_wp2_with fail
  go_ret2
  exact ⟨Below.refl _ _, Or.inr ⟨_, _, rfl, rfl, Or.inr ⟨_, _, _, rfl, rfl, HS.out⟩⟩⟩
set_option maxRecDepth 100000 in
set_option maxHeartbeats 1000000 in
theorem closureD_new (n : Nat) (hM : BetweenOK n) (av : Nat → Prop) (w : World) (j : J n) (T : TypeId) (x : Value) (hav : ∀ c, av c → c < w.heap.size) (hst : St av w n j (.iface T x)) (okj : Okv n j) (hT : Tab w.heap.size w) (z : Option (J n)) :
    Calls Tryz.prog 97 #[.nilIface, .iface T x] w (MakePost av n (ofDz z (betweenP n) none (some j)) w) := by
  have HN : Hid (Calls Tryz.prog 96 #[.iface T x] w fun e w' => e = .returned (.bool (isNullJ n j)) ∧ w' = w) := isNull_any av n j T x w hst
  have HC : Hid (Calls Tryz.prog 61 #[.nilIface, .iface T x] w (MadeV av n (betweenP n none j) w)) := hM av w none j .nilIface T x hav (Or.inl ⟨rfl, rfl⟩) hst (fun x hx => by cases hx) okj hT
  have HO : Hid (ofDz z (betweenP n) none (some j) = if isNullJ n j then .error 9 else match betweenP n none j with
    | .error e => .error e
    | .ok c => .ok (some c)) := rfl
  clear hM hst okj hT hav
  generalize ofDz z (betweenP n) none (some j) = res at *
  cases hb : isNullJ n j with
  | true =>
    rw [hb] at HN HO
    have HR : Hid (res = .error 9) := by show res = _; rw [HO.out]; rfl
    go_enter Tryz.func97, Tryz.ntmps97
    go_wp2_with fail
    refine Calls.mono HN.out ?_
    rintro e w1 ⟨rfl, rfl⟩
    go_wp2_with fail
    go_ret2
    exact ⟨Below.refl _ _, Or.inl ⟨9, HR.out, by decide, by decide, rfl⟩⟩
  | false =>
    rw [hb] at HN HO
    go_enter Tryz.func97, Tryz.ntmps97
    go_wp2_with fail
    refine Calls.mono HN.out ?_
    rintro e w1 ⟨rfl, rfl⟩
    go_wp2_with fail
    refine Calls.mono HC.out ?_
    rintro e w2 ⟨b2, h2⟩
    have HB : Hid (Below w1.heap.size w1 w2) := b2
    clear b2
    rcases h2 with ⟨er, h3, h4, h5, rfl⟩ | ⟨k, T', x', h3, rfl, h4⟩
    · have HR : Hid (res = .error er) := by show res = _; rw [HO.out, h3]; rfl
      clear h3
      go_wp2_with fail
      go_ret2
      exact ⟨HB.out, Or.inl ⟨er, HR.out, h4, h5, rfl⟩⟩
    · have HR : Hid (res = .ok (some k)) := by show res = _; rw [HO.out, h3]; rfl
      have HS : Hid (St av w2 n k (.iface T' x')) := h4
      clear h3 h4
      go_wp2_with fail
      go_ret2
      exact ⟨HB.out, Or.inr ⟨_, _, HR.out, rfl, Or.inr ⟨_, _, _, rfl, rfl, HS.out⟩⟩⟩
set_option maxRecDepth 100000 in
set_option maxHeartbeats 1000000 in
theorem closureD_two (n : Nat) (hM : BetweenOK n) (av : Nat → Prop) (w : World) (i j : J n) (Ti : TypeId) (xi : Value) (T : TypeId) (x : Value) (hav : ∀ c, av c → c < w.heap.size) (hsi : St av w n i (.iface Ti xi)) (hst : St av w n j (.iface T x)) (oki : Okv n i) (okj : Okv n j) (hT : Tab w.heap.size w) (z : Option (J n)) :
    Calls Tryz.prog 97 #[.iface Ti xi, .iface T x] w (MakePost av n (ofDz z (betweenP n) (some i) (some j)) w) := by
  have HQ : Hid (Calls Tryz.prog 42 #[.iface Ti xi, .iface T x] w fun e w' => e = .returned (.bool (decide (tell n i = tell n j))) ∧ Below w.heap.size w w') := equal_any av n i j Ti xi T x w hsi hst oki okj hT
  have HN : Hid (∀ w1, Below w.heap.size w w1 → Calls Tryz.prog 96 #[.iface T x] w1 fun e w' => e = .returned (.bool (isNullJ n j)) ∧ w' = w1) := fun w1 hb => isNull_any av n j T x w1 (hst.ona hb)
  have HC : Hid (∀ w1, Below w.heap.size w w1 → Calls Tryz.prog 61 #[.iface Ti xi, .iface T x] w1 (MadeV av n (betweenP n (some i) j) w1)) := fun w1 hb =>
    hM av w1 (some i) j _ T x (fun c hc => by have := hav c hc; have := hb.size; omega) (Or.inr ⟨i, Ti, xi, rfl, rfl, hsi.ona hb⟩) (hst.ona hb) (fun x hx => by cases hx; exact oki) okj (hT.on hb)
  have HO : Hid (ofDz z (betweenP n) (some i) (some j) = if decide (tell n i = tell n j) then .ok none else if isNullJ n j then .error 9 else match betweenP n (some i) j with
    | .error e => .error e
    | .ok c => .ok (some c)) := rfl
  clear hM hst hsi oki okj hT hav
  generalize ofDz z (betweenP n) (some i) (some j) = res at *
  generalize decide (tell n i = tell n j) = q at *
  cases q with
  | true =>
    have HR : Hid (res = .ok none) := by show res = _; rw [HO.out]; rfl
    go_enter Tryz.func97, Tryz.ntmps97
    go_wp2_with fail
    refine Calls.mono HQ.out ?_
    rintro e w1 ⟨rfl, b1⟩
    have HB : Hid (Below w.heap.size w w1) := b1
    clear b1
    go_wp2_with fail
    go_ret2
    exact ⟨HB.out, Or.inr ⟨_, _, HR.out, rfl, Or.inl ⟨rfl, rfl⟩⟩⟩
  | false =>
    have HO2 : Hid (res = if isNullJ n j then .error 9 else match betweenP n (some i) j with
      | .error e => .error e
      | .ok c => .ok (some c)) := by show res = _; rw [HO.out]; rfl
    clear HO
    go_enter Tryz.func97, Tryz.ntmps97
    go_wp2_with fail
    refine Calls.mono HQ.out ?_
    rintro e w1 ⟨rfl, b1⟩
    have HB1 : Hid (Below w.heap.size w w1) := b1
    clear b1
    go_wp2_with fail
    refine Calls.mono (HN.out w1 HB1.out) ?_
    rintro e w2 ⟨rfl, rfl⟩
    cases hb : isNullJ n j with
    | true =>
      have HR : Hid (res = .error 9) := by show res = _; rw [HO2.out, hb]; rfl
      go_wp2_with fail
      go_ret2
      exact ⟨HB1.out, Or.inl ⟨9, HR.out, by decide, by decide, rfl⟩⟩
    | false =>
      have HO3 : Hid (res = match betweenP n (some i) j with
        | .error e => .error e
        | .ok c => .ok (some c)) := by show res = _; rw [HO2.out, hb]; rfl
      go_wp2_with fail
      refine Calls.mono (HC.out w2 HB1.out) ?_
      rintro e w3 ⟨b3, h3⟩
      have HB3 : Hid (Below w.heap.size w w3) := HB1.out.trans (b3.mono HB1.out.size)
      clear b3
      rcases h3 with ⟨er, h3, h4, h5, rfl⟩ | ⟨k, T', x', h3, rfl, h4⟩
      · have HR : Hid (res = .error er) := by show res = _; rw [HO3.out, h3]
        clear h3
        go_wp2_with fail
        go_ret2
        exact ⟨HB3.out, Or.inl ⟨er, HR.out, h4, h5, rfl⟩⟩
      · have HR : Hid (res = .ok (some k)) := by show res = _; rw [HO3.out, h3]
        have HS : Hid (St av w3 n k (.iface T' x')) := h4
        clear h3 h4
        go_wp2_with fail
        go_ret2
        exact ⟨HB3.out, Or.inr ⟨_, _, HR.out, rfl, Or.inr ⟨_, _, _, rfl, rfl, HS.out⟩⟩⟩
theorem closureD (n : Nat) (hM : BetweenOK n) : OfOK 97 n (ofDz (some (leaf n none)) (betweenP n)) := by
  intro av w v u vv vu hav hv hu okv oku hT
  rcases hu with ⟨rfl, rfl⟩ | ⟨j, T, x, rfl, rfl, hst⟩
  · exact closureD_nil n av w v vv hv _
  · rcases hv with ⟨rfl, rfl⟩ | ⟨i, Ti, xi, rfl, rfl, hsi⟩
    · exact closureD_new n hM av w j T x hav hst (oku j rfl) hT _
    · exact closureD_two n hM av w i j Ti xi T x hav hsi hst (okv i rfl) (oku j rfl) hT _
set_option maxRecDepth 100000 in
set_option maxHeartbeats 1000000 in
theorem between_object (n : Nat) (hM : BetweenOK n) (av : Nat → Prop) (w : World) (d : Option (J (n + 1))) (fs : List (Bs × J n)) (vd : Value) (T : TypeId) (x : Value) (hav : ∀ c, av c → c < w.heap.size) (hd' : OptV av w (n + 1) d vd) (hst : St av w (n + 1) (Sum.inr (Sum.inr fs)) (.iface T x)) (okd : OkO (n + 1) d) (okv : Okv (n + 1) (Sum.inr (Sum.inr fs))) (hT : Tab w.heap.size w) :
    Calls Tryz.prog 61 #[vd, .iface T x] w (MadeV av (n + 1) (betweenP (n + 1) d (Sum.inr (Sum.inr fs))) w) := by
  obtain ⟨p, cap, e, hf⟩ := flds_of_st hst
  cases e
  obtain ⟨a1, a2, a3, a4, a5, a6⟩ := tas_Object
  have HFo' : Hid (Calls Tryz.prog 94 #[vd] w fun e w' => ∃ v', e = .returned v' ∧ w' = w ∧ Flds av w n (fieldsP d) v') := fieldsOf_any av n d vd w hd'
  have okf := okv_fields okd
  have okg := okv_field okv
  have HMt : Hid (∀ v', Flds av w n (fieldsP d) v' → Calls Tryz.prog 93 #[v', .slice p fs.length cap, .func (.func 97) #[] #[]] w (MadeV av (n + 1) (betweenP (n + 1) d (Sum.inr (Sum.inr fs))) w)) := fun v' hv' => by
    have h := meet_any 97 n enterD (ofDz (some (leaf n none)) (betweenP n)) (closureD n hM) av (fieldsP d) fs v' (.slice p fs.length cap) w hav hv' hf okf.1 okg.1 okf.2 okg.2 hT
    rw [ofD_congr] at h
    exact h
  clear hst hf hd' okd okv hT hM okf okg hav
  generalize betweenP (n + 1) d (Sum.inr (Sum.inr fs)) = res at *
  go_enter Tryz.func61, Tryz.ntmps61
  go_wp2_with fail
  refine Calls.mono HFo'.out ?_
  rintro e w1 ⟨v', rfl, rfl, hv'⟩
  have HMv : Hid _ := HMt.out v' hv'
  clear hv'
  go_wp2_with fail
  refine Calls.mono HMv.out ?_
  rintro e w2 ⟨b2, h2⟩
  have HB : Hid (Below w1.heap.size w1 w2) := b2
  clear b2
  rcases h2 with ⟨er, h3, h4, h5, rfl⟩ | ⟨k, T', x', h3, rfl, h4⟩
  · have HR : Hid (res = .error er) := h3
    clear h3
    go_wp2_with fail
    go_ret2
    exact ⟨HB.out, Or.inl ⟨er, HR.out, h4, h5, rfl⟩⟩
  · have HR : Hid (res = .ok k) := h3
    have HS : Hid (St av w2 (n + 1) k (.iface T' x')) := h4
    clear h3 h4
    go_wp2_with fail
    go_ret2
    exact ⟨HB.out, Or.inr ⟨_, _, _, HR.out, rfl, HS.out⟩⟩
theorem between_ok : ∀ n, BetweenOK n
  | 0 => fun av w d v vd T x hav hd' hst okd okv hT => between_flat av 0 w d v vd T x hst rfl
  | n + 1 => fun av w d v vd T x hav hd' hst okd okv hT => by
    match v, hst, okv with
    | Sum.inl l, hst, _ => exact between_flat av _ w d _ vd T x hst rfl
    | Sum.inr (Sum.inl xs), hst, _ => exact between_flat av _ w d _ vd T x hst rfl
    | Sum.inr (Sum.inr fs), hst, okv => exact between_object n (between_ok n) av w d fs vd T x hav hd' hst okd okv hT
end Go.Proofs.YtmleekpghdfdgaaGreatDoor
/- Contracts over this translation of Apply and Diff, of canon and Kind, as a law's walk takes them. -/
namespace Go.Proofs.YtmleekpghdfdgaaGreatDoor
open Go.RowKit
set_option linter.unusedVariables false
set_option linter.unusedSimpArgs false
/-- from whatever was made since, this call answers this -/
def SaysM (w : World) (f : Nat) (args : Array Value) (v : Value) : Prop := ∀ w1, Below w.heap.size w w1 → Calls Tryz.prog f args w1 fun e w' => e = .returned v ∧ Below w1.heap.size w1 w'
theorem SaysM.mono {w : World} {f : Nat} {args : Array Value} {v u : Value} (h : SaysM w f args v) (e : v = u) : SaysM w f args u := e ▸ h
theorem enterMerged (args : Array Value) (w : World) : (callFunc 57 args).run Tryz.prog w = .ok (.enter 57 args) w := by
  have h1 : (Tryz.f57.name == "runtime.NumGoroutine") = false := by kernel_rfl
  obtain ⟨c, hb⟩ : ∃ c, Tryz.f57.body = some c := ⟨_, rfl⟩
  simp only [beq_eq_false_iff_ne, ne_eq] at h1
  simp [callFunc, Tryz.func57, h1, hb]
theorem enterBetween (args : Array Value) (w : World) : (callFunc 61 args).run Tryz.prog w = .ok (.enter 61 args) w := by
  have h1 : (Tryz.f61.name == "runtime.NumGoroutine") = false := by kernel_rfl
  obtain ⟨c, hb⟩ : ∃ c, Tryz.f61.body = some c := ⟨_, rfl⟩
  simp only [beq_eq_false_iff_ne, ne_eq] at h1
  simp [callFunc, Tryz.func61, h1, hb]
theorem apply_both {N : Nat} (hN : N ≤ 1000) : BothOK 57 N (applyR N) :=
  ⟨fun w A B Ta xa Tb xb hA hB tA tB hT => merged_ok N (fun _ => False) w (some A) B _ Tb xb (fun c h => h.elim) (Or.inr ⟨A, Ta, xa, rfl, rfl, hA⟩) hB (fun x hx => by cases hx; exact tA.okv) tB.okv hT, fun A B j tA tB h => (apply_makes N).fine hN tA tB h⟩
def diffR (N : Nat) (A B : J N) : Except Nat (J N) := betweenP N (some A) B
theorem diff_makes (N : Nat) : Makes N (diffR N) :=
  ⟨fun A B j hA hB h => between_good N (some A) B j (fun x hx => by cases hx; exact hA) hB h, fun A B j h => by
    have h1 := between_wgt N (some A) B j h
    simp only [wO] at h1
    omega, fun A B e h => between_err N (some A) B e h⟩
theorem diff_both {N : Nat} (hN : N ≤ 1000) : BothOK 61 N (diffR N) :=
  ⟨fun w A B Ta xa Tb xb hA hB tA tB hT => between_ok N (fun _ => False) w (some A) B _ Tb xb (fun c h => h.elim) (Or.inr ⟨A, Ta, xa, rfl, rfl, hA⟩) hB (fun x hx => by cases hx; exact tA.okv) tB.okv hT, fun A B j tA tB h => (diff_makes N).fine hN tA tB h⟩
set_option maxRecDepth 100000 in
set_option maxHeartbeats 2000000 in
theorem apply_says {N : Nat} (hN : 20 ≤ N) (hN2 : N ≤ 1000) {a b : ByteArray} {x y : Bs} {w : World} {r : Array Value} (hT : Tab w.heap.size w) (ha : a.size ≤ maxLen) (hb : b.size ≤ maxLen) (hx : a.data.toList = x) (hy : b.data.toList = y) (hr : bothA N (applyR N) x y = r) (hform : ∃ (s : ByteArray) (er : Nat), r = #[.string s, .int .i64 er]) :
    SaysM w 25 #[.string a, .string b] (.tuple r) := by
  intro w1 hb1
  obtain ⟨s, er, rfl⟩ := hform
  have HC : Hid (Calls Tryz.prog 56 #[.string a, .string b, .func (.func 57) #[] #[]] w1 fun e w' => e = .returned (.tuple #[.string s, .int .i64 er]) ∧ Below w1.heap.size w1 w') := by
    have h := ofBoth_any 57 N hN enterMerged (applyR N) (apply_both hN2) a b w1 ha hb (hT.on hb1)
    rw [hx, hy, hr] at h
    exact h
  clear hr hT hb1
  go_enter Tryz.func25, Tryz.ntmps25
  go_wp2_with fail
  refine Calls.mono HC.out ?_
  rintro e w2 ⟨rfl, b2⟩
  have HB : Hid (Below w1.heap.size w1 w2) := b2
  clear b2
  go_wp2_with fail
  go_ret2
  exact ⟨rfl, HB.out⟩
set_option maxRecDepth 100000 in
set_option maxHeartbeats 2000000 in
theorem diff_says {N : Nat} (hN : 20 ≤ N) (hN2 : N ≤ 1000) {a b : ByteArray} {x y : Bs} {w : World} {r : Array Value} (hT : Tab w.heap.size w) (ha : a.size ≤ maxLen) (hb : b.size ≤ maxLen) (hx : a.data.toList = x) (hy : b.data.toList = y) (hr : bothA N (diffR N) x y = r) (hform : ∃ (s : ByteArray) (er : Nat), r = #[.string s, .int .i64 er]) :
    SaysM w 27 #[.string a, .string b] (.tuple r) := by
  intro w1 hb1
  obtain ⟨s, er, rfl⟩ := hform
  have HC : Hid (Calls Tryz.prog 56 #[.string a, .string b, .func (.func 61) #[] #[]] w1 fun e w' => e = .returned (.tuple #[.string s, .int .i64 er]) ∧ Below w1.heap.size w1 w') := by
    have h := ofBoth_any 61 N hN enterBetween (diffR N) (diff_both hN2) a b w1 ha hb (hT.on hb1)
    rw [hx, hy, hr] at h
    exact h
  clear hr hT hb1
  go_enter Tryz.func27, Tryz.ntmps27
  go_wp2_with fail
  refine Calls.mono HC.out ?_
  rintro e w2 ⟨rfl, b2⟩
  have HB : Hid (Below w1.heap.size w1 w2) := b2
  clear b2
  go_wp2_with fail
  go_ret2
  exact ⟨rfl, HB.out⟩
theorem told_small {N : Nat} {j : J N} (h : Told20 N j) : (⟨(tell N j).toArray⟩ : ByteArray).size ≤ maxLen := by
  rw [size_of]
  have := h.len
  unfold maxLen
  omega
theorem few (l : Bs) (h : l.length ≤ 100) : (⟨l.toArray⟩ : ByteArray).size ≤ maxLen := by
  rw [size_of]
  unfold maxLen
  omega
theorem read_o : read [123, 125] = .ok (Sum.inr (Sum.inr [])) := by rfl
theorem kind_ok {t : ByteArray} {x : Bs} {j : J 10} {w : World} (hs : t.size ≤ maxLen) (hx : t.data.toList = x) (hr : read x = .ok j) :
    Says w 12 #[.string t] (.tuple #[.int .i64 (kindJ 10 j), .int .i64 0]) := by
  intro w1 hb
  have h := kind_any t w1 hs
  rw [hx] at h
  refine h.mono ?_
  rintro e w2 ⟨rfl, b2⟩
  refine ⟨?_, b2⟩
  rw [kindE, hr]
theorem kind_err {t : ByteArray} {x : Bs} {er : Nat} {w : World} (hs : t.size ≤ maxLen) (hx : t.data.toList = x) (hr : read x = .error er) :
    Says w 12 #[.string t] (.tuple #[.int .i64 0, .int .i64 er]) := by
  intro w1 hb
  have h := kind_any t w1 hs
  rw [hx] at h
  refine h.mono ?_
  rintro e w2 ⟨rfl, b2⟩
  refine ⟨?_, b2⟩
  rw [kindE, hr]
end Go.Proofs.YtmleekpghdfdgaaGreatDoor
