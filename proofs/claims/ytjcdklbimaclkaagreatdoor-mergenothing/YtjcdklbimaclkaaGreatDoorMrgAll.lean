/- Contracts over this translation of what merges one value into another, and of what composes two. -/
import Derived.Test.YtjcdklbimaclkaaGreatDoorMrgMeet
import Derived.Test.YtjcdklbimaclkaaGreatDoorMeasure
namespace Go.Proofs.YtjcdklbimaclkaaGreatDoor
open Go.RowKit
set_option linter.unusedVariables false
set_option linter.unusedSimpArgs false
def isObjJ : (n : Nat) → J n → Bool
  | 0, _ => false
  | _ + 1, Sum.inl _ => false
  | _ + 1, Sum.inr (Sum.inl _) => false
  | _ + 1, Sum.inr (Sum.inr _) => true
theorem leaf_type {l : Leaf} {T : TypeId} {x : Value} (h : Value.iface T x = leafV l) : T ≠ 53 := by
  rcases l with _ | b | i | s
  · cases h; decide
  · cases h; decide
  · cases h; decide
  · cases h; decide
theorem flat_type {av : Nat → Prop} {w : World} : ∀ {n : Nat} {j : J n} {T : TypeId} {x : Value}, St av w n j (.iface T x) → isObjJ n j = false → T ≠ 53
  | 0, _, _, _, h, _ => leaf_type h
  | _ + 1, Sum.inl _, _, _, h, _ => leaf_type h
  | _ + 1, Sum.inr (Sum.inl xs), _, _, h, _ => by
    obtain ⟨p, g, cap, vs, hv, _⟩ := h.list
    cases hv
    decide
  | _ + 1, Sum.inr (Sum.inr _), _, _, _, h => by cases h
theorem ta_flat {T : TypeId} (h : T ≠ 53) : ∀ (x : Value) (w : World), (Instr.typeAssert (.iface T x) 46 53 true).run Tryz.prog w = .ok (.tuple #[.slice none 0 0, .bool false]) w :=
  fun x w => ta_miss w Tryz.underlying53 rfl Tryz.zeroValue53 h x
theorem ta_nil (w : World) : (Instr.typeAssert .nilIface 46 53 true).run Tryz.prog w = .ok (.tuple #[.slice none 0 0, .bool false]) w := by
  unfold Instr.typeAssert
  simp [Sem.run_bind, run_underlying Tryz.underlying53, Result.andThen, Sem.run_pure, Tryz.zeroValue53]
theorem fields_flat {n : Nat} {j : J (n + 1)} (h : isObjJ (n + 1) j = false) : fieldsP (some j) = [] := by
  match j, h with
  | Sum.inl _, _ => rfl
  | Sum.inr (Sum.inl _), _ => rfl
theorem merged_flatP : ∀ {n : Nat} (d : Option (J n)) {j : J n}, isObjJ n j = false → mergedP n d j = j
  | 0, _, _, _ => rfl
  | _ + 1, _, Sum.inl _, _ => rfl
  | _ + 1, _, Sum.inr (Sum.inl _), _ => rfl
  | _ + 1, _, Sum.inr (Sum.inr _), h => by cases h
theorem composed_flatP : ∀ {n : Nat} (p : J n) {j : J n}, isObjJ n j = false → composedP n p j = .ok j
  | 0, _, _, _ => rfl
  | _ + 1, _, Sum.inl _, _ => rfl
  | _ + 1, _, Sum.inr (Sum.inl _), _ => rfl
  | _ + 1, _, Sum.inr (Sum.inr _), h => by cases h
theorem composed_mixP {n : Nat} {p : J (n + 1)} (fs : List (Bs × J n)) (h : isObjJ (n + 1) p = false) : composedP (n + 1) p (Sum.inr (Sum.inr fs)) = .error 9 := by
  match p, h with
  | Sum.inl _, _ => rfl
  | Sum.inr (Sum.inl _), _ => rfl
theorem null_kind : ∀ (n : Nat) (j : J n), isNullJ n j = decide (kindJ n j = 1)
  | 0, l => by rcases l with _ | b | i | s <;> rfl
  | _ + 1, Sum.inl l => by rcases l with _ | b | i | s <;> rfl
  | _ + 1, Sum.inr (Sum.inl xs) => rfl
  | _ + 1, Sum.inr (Sum.inr fs) => rfl
theorem mem_le_sum : ∀ (l : List Nat) (x : Nat), x ∈ l → x ≤ l.sum
  | [], x, h => by cases h
  | y :: l, x, h => by
    rcases List.mem_cons.1 h with rfl | h
    · simp
    · have := mem_le_sum l x h
      simp
      omega
theorem okv_field {n : Nat} {fs : List (Bs × J n)} (h : Okv (n + 1) (Sum.inr (Sum.inr fs))) : (∀ f ∈ fs, Okv n f.2) ∧ fs.length ≤ 2000 := by
  have hn : 1 + (fs.map fun f => nodes n f.2).sum ≤ 2000 := h.nodes
  have hs := sum_ge (fs.map fun f => nodes n f.2) (by
    intro y hy
    obtain ⟨f, _, rfl⟩ := List.mem_map.1 hy
    exact nodes_pos _ _)
  rw [List.length_map] at hs
  refine ⟨fun f hf => ⟨h.fit f hf, ?_, ?_⟩, by omega⟩
  · have : nodes n f.2 ≤ (fs.map fun f => nodes n f.2).sum := by
      exact mem_le_sum _ _ (List.mem_map.2 ⟨f, hf, rfl⟩)
    omega
  · have hl : (123 :: (commas (fs.map fun f => quote f.1 ++ 58 :: tell n f.2) ++ [125])).length ≤ 100000 := h.len
    have hc : ∀ (ts : List Bs) (t : Bs), t ∈ ts → t.length ≤ (commas ts).length := by
      intro ts
      induction ts with
      | nil => intro t ht; cases ht
      | cons x r ih =>
        intro t ht
        cases r with
        | nil =>
          simp at ht
          subst ht
          exact Nat.le_refl _
        | cons y r =>
          rcases List.mem_cons.1 ht with rfl | ht
          · simp [commas]
          · have := ih t ht
            simp only [commas, List.length_append, List.length_cons] at this ⊢
            omega
    have := hc _ _ (List.mem_map.2 ⟨f, hf, rfl⟩ : quote f.1 ++ 58 :: tell n f.2 ∈ fs.map fun f => quote f.1 ++ 58 :: tell n f.2)
    simp only [List.length_cons, List.length_append] at hl this
    omega
theorem okv_fields {n : Nat} {d : Option (J (n + 1))} (h : OkO (n + 1) d) : (∀ f ∈ fieldsP d, Okv n f.2) ∧ (fieldsP d).length ≤ 2000 := by
  match d, h with
  | none, _ => exact ⟨fun f hf => (by cases hf), Nat.zero_le _⟩
  | some (Sum.inl _), _ => exact ⟨fun f hf => (by cases hf), Nat.zero_le _⟩
  | some (Sum.inr (Sum.inl _)), _ => exact ⟨fun f hf => (by cases hf), Nat.zero_le _⟩
  | some (Sum.inr (Sum.inr fs)), h => exact okv_field (h _ rfl)
set_option maxRecDepth 100000 in
set_option maxHeartbeats 1000000 in
theorem isNull_any (av : Nat → Prop) (n : Nat) (j : J n) (T : TypeId) (x : Value) (w : World) (h : St av w n j (.iface T x)) :
    Calls Tryz.prog 31 #[.iface T x] w fun e w' => e = .returned (.bool (isNullJ n j)) ∧ w' = w := by
  have HK : Hid (Calls Tryz.prog 26 #[.iface T x] w fun e w' => e = .returned (.int .i64 (kindJ n j)) ∧ w' = w) := kindOf_any n av j _ w h
  have HN : Hid (isNullJ n j = decide (kindJ n j = 1)) := null_kind n j
  clear h
  generalize kindJ n j = k at *
  generalize isNullJ n j = r at *
  go_enter Tryz.func31, Tryz.ntmps31
  go_wp2_with fail
  refine Calls.mono HK.out ?_
  rintro e w1 ⟨rfl, rfl⟩
  go_wp2_with fail
  go_ret
  refine ⟨?_, rfl⟩
  rw [HN.out]
  have hb : ((k : Int) == 1) = decide (k = 1) := by
    rw [Bool.eq_iff_iff, beq_iff_eq, decide_eq_true_iff]
    omega
  rw [← hb]
  rfl
set_option maxRecDepth 100000 in
set_option maxHeartbeats 1000000 in
theorem fieldsOf_any (av : Nat → Prop) (n : Nat) (d : Option (J (n + 1))) (v : Value) (w : World) (h : OptV av w (n + 1) d v) :
    Calls Tryz.prog 29 #[v] w fun e w' => ∃ v', e = .returned v' ∧ w' = w ∧ Flds av w n (fieldsP d) v' := by
  rcases h with ⟨rfl, rfl⟩ | ⟨j, T, x, rfl, rfl, hst⟩
  · have ht := ta_nil
    go_enter Tryz.func29, Tryz.ntmps29
    go_wp2_with fail
    go_ret
    exact ⟨_, rfl, rfl, Or.inl ⟨rfl, _, _, rfl⟩⟩
  · cases hj : isObjJ (n + 1) j with
    | false =>
      have ht := ta_flat (flat_type hst hj)
      have HF : Hid (fieldsP (some j) = []) := fields_flat hj
      clear hst hj
      go_enter Tryz.func29, Tryz.ntmps29
      go_wp2_with fail
      go_ret
      exact ⟨_, rfl, rfl, by rw [HF.out]; exact Or.inl ⟨rfl, _, _, rfl⟩⟩
    | true =>
      match j, hj, hst with
      | Sum.inr (Sum.inr fs), _, hst =>
        obtain ⟨p, cap, e, hf⟩ := flds_of_st hst
        cases e
        obtain ⟨a1, a2, a3, a4, a5, a6⟩ := tas_Object
        have HF : Hid (Flds av w n fs (.slice p fs.length cap)) := hf
        clear hst hf
        go_enter Tryz.func29, Tryz.ntmps29
        go_wp2_with fail
        go_ret
        exact ⟨_, rfl, rfl, HF.out⟩
def MergedOK (n : Nat) : Prop := ∀ (av : Nat → Prop) (w : World) (d : Option (J n)) (v : J n) (vd : Value) (T : TypeId) (x : Value), (∀ c, av c → c < w.heap.size) → OptV av w n d vd → St av w n v (.iface T x) → OkO n d → Okv n v → Tab w.heap.size w →
  Calls Tryz.prog 15 #[vd, .iface T x] w (MadeV av n (.ok (mergedP n d v)) w)
set_option maxRecDepth 100000 in
set_option maxHeartbeats 1000000 in
theorem merged_flat (av : Nat → Prop) (n : Nat) (w : World) (d : Option (J n)) (v : J n) (vd : Value) (T : TypeId) (x : Value) (hst : St av w n v (.iface T x)) (hj : isObjJ n v = false) :
    Calls Tryz.prog 15 #[vd, .iface T x] w (MadeV av n (.ok (mergedP n d v)) w) := by
  have ht := ta_flat (flat_type hst hj)
  rw [merged_flatP d hj]
  have HS : Hid (St av w n v (.iface T x)) := hst
  clear hst hj
  go_enter Tryz.func15, Tryz.ntmps15
  go_wp2_with fail
  go_ret2
  exact ⟨Below.refl _ _, Or.inr ⟨_, _, _, rfl, rfl, HS.out⟩⟩
theorem enterM (args : Array Value) (w : World) : (callFunc 30 args).run Tryz.prog w = .ok (.enter 30 args) w := by
  have h1 : (Tryz.f30.name == "runtime.NumGoroutine") = false := by kernel_rfl
  obtain ⟨c, hb⟩ : ∃ c, Tryz.f30.body = some c := ⟨_, rfl⟩
  simp only [beq_eq_false_iff_ne, ne_eq] at h1
  simp [callFunc, Tryz.func30, h1, hb]
set_option maxRecDepth 100000 in
set_option maxHeartbeats 1000000 in
theorem closureM (n : Nat) (hM : MergedOK n) : OfOK 30 n (ofM (mergedP n)) := by
  intro av w v u vv vu hav hv hu okv oku hT
  rcases hu with ⟨rfl, rfl⟩ | ⟨j, T, x, rfl, rfl, hst⟩
  · have HV : Hid (OptV av w n v vv) := hv
    clear hv okv oku hT hM
    go_enter Tryz.func30, Tryz.ntmps30
    go_wp2_with fail
    go_ret2
    exact ⟨Below.refl _ _, Or.inr ⟨_, _, rfl, rfl, HV.out⟩⟩
  · have HN : Hid (Calls Tryz.prog 31 #[.iface T x] w fun e w' => e = .returned (.bool (isNullJ n j)) ∧ w' = w) := isNull_any av n j T x w hst
    have HC : Hid (Calls Tryz.prog 15 #[vv, .iface T x] w (MadeV av n (.ok (mergedP n v j)) w)) := hM av w v j vv T x hav hv hst okv (oku j rfl) hT
    have HO : Hid (ofM (mergedP n) v (some j) = if isNullJ n j then .ok none else .ok (some (mergedP n v j))) := rfl
    clear hM hv hst okv oku hT hav
    generalize ofM (mergedP n) v (some j) = res at *
    cases hb : isNullJ n j with
    | true =>
      rw [hb] at HN HO
      have HR : Hid (res = .ok none) := by show res = _; rw [HO.out]; rfl
      go_enter Tryz.func30, Tryz.ntmps30
      go_wp2_with fail
      refine Calls.mono HN.out ?_
      rintro e w1 ⟨rfl, rfl⟩
      go_wp2_with fail
      go_ret2
      exact ⟨Below.refl _ _, Or.inr ⟨_, _, HR.out, rfl, Or.inl ⟨rfl, rfl⟩⟩⟩
    | false =>
      rw [hb] at HN HO
      have HR : Hid (res = .ok (some (mergedP n v j))) := by show res = _; rw [HO.out]; rfl
      go_enter Tryz.func30, Tryz.ntmps30
      go_wp2_with fail
      refine Calls.mono HN.out ?_
      rintro e w1 ⟨rfl, rfl⟩
      go_wp2_with fail
      refine Calls.mono HC.out ?_
      rintro e w2 ⟨b2, h2⟩
      rcases h2 with ⟨er, h3, _⟩ | ⟨k, T', x', h3, rfl, h4⟩
      · cases h3
      · have e3 := Except.ok.inj h3
        subst e3
        have HB : Hid (Below w1.heap.size w1 w2) := b2
        have HS : Hid (St av w2 n (mergedP n v j) (.iface T' x')) := h4
        clear b2 h3 h4
        go_wp2_with fail
        go_ret2
        exact ⟨HB.out, Or.inr ⟨_, _, HR.out, rfl, Or.inr ⟨_, _, _, rfl, rfl, HS.out⟩⟩⟩
set_option maxRecDepth 100000 in
set_option maxHeartbeats 1000000 in
theorem merged_object (n : Nat) (hM : MergedOK n) (av : Nat → Prop) (w : World) (d : Option (J (n + 1))) (fs : List (Bs × J n)) (vd : Value) (T : TypeId) (x : Value) (hav : ∀ c, av c → c < w.heap.size) (hd' : OptV av w (n + 1) d vd) (hst : St av w (n + 1) (Sum.inr (Sum.inr fs)) (.iface T x)) (okd : OkO (n + 1) d) (okv : Okv (n + 1) (Sum.inr (Sum.inr fs))) (hT : Tab w.heap.size w) :
    Calls Tryz.prog 15 #[vd, .iface T x] w (MadeV av (n + 1) (.ok (mergedP (n + 1) d (Sum.inr (Sum.inr fs)))) w) := by
  obtain ⟨p, cap, e, hf⟩ := flds_of_st hst
  cases e
  obtain ⟨a1, a2, a3, a4, a5, a6⟩ := tas_Object
  obtain ⟨R, hR, hm⟩ := merged_obj d fs
  have HFo := fieldsOf_any av n d vd w hd'
  have HFo' : Hid (Calls Tryz.prog 29 #[vd] w fun e w' => ∃ v', e = .returned v' ∧ w' = w ∧ Flds av w n (fieldsP d) v') := HFo
  have okf := okv_fields okd
  have okg := okv_field okv
  have HMt : Hid (∀ v', Flds av w n (fieldsP d) v' → Calls Tryz.prog 28 #[v', .slice p fs.length cap, .func (.func 30) #[] #[]] w (MadeV av (n + 1) (.ok (mergedP (n + 1) d (Sum.inr (Sum.inr fs)))) w)) := fun v' hv' => by
    have h := meet_any 30 n enterM (ofM (mergedP n)) (closureM n hM) av (fieldsP d) fs v' (.slice p fs.length cap) w hav hv' hf okf.1 okg.1 okf.2 okg.2 hT
    rw [hR] at h
    rw [hm]
    exact h
  clear HFo hst hf hd' okd okv hT hM okf okg hav hR hm
  generalize mergedP (n + 1) d (Sum.inr (Sum.inr fs)) = res at *
  go_enter Tryz.func15, Tryz.ntmps15
  go_wp2_with fail
  refine Calls.mono HFo'.out ?_
  rintro e w1 ⟨v', rfl, rfl, hv'⟩
  have HMv : Hid _ := HMt.out v' hv'
  clear hv'
  go_wp2_with fail
  refine Calls.mono HMv.out ?_
  rintro e w2 ⟨b2, h2⟩
  rcases h2 with ⟨er, h3, _⟩ | ⟨k, T', x', h3, rfl, h4⟩
  · cases h3
  · have e3 := Except.ok.inj h3
    subst e3
    have HB : Hid (Below w1.heap.size w1 w2) := b2
    have HS : Hid (St av w2 (n + 1) res (.iface T' x')) := h4
    clear b2 h3 h4
    go_wp2_with fail
    go_ret2
    exact ⟨HB.out, Or.inr ⟨_, _, _, rfl, rfl, HS.out⟩⟩
theorem merged_ok : ∀ n, MergedOK n
  | 0 => fun av w d v vd T x hav hd' hst okd okv hT => merged_flat av 0 w d v vd T x hst rfl
  | n + 1 => fun av w d v vd T x hav hd' hst okd okv hT => by
    match v, hst, okv with
    | Sum.inl l, hst, _ => exact merged_flat av _ w d _ vd T x hst rfl
    | Sum.inr (Sum.inl xs), hst, _ => exact merged_flat av _ w d _ vd T x hst rfl
    | Sum.inr (Sum.inr fs), hst, okv => exact merged_object n (merged_ok n) av w d fs vd T x hav hd' hst okd okv hT
end Go.Proofs.YtjcdklbimaclkaaGreatDoor
