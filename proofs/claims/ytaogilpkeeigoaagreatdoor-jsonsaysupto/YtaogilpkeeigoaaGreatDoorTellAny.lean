/- Contracts over this translation of what tells lists and objects, and so every value. -/
import Derived.Test.YtaogilpkeeigoaaGreatDoorTellLeaf
namespace Go.Proofs.YtaogilpkeeigoaaGreatDoor
open Go.RowKit
set_option linter.unusedVariables false
set_option linter.unusedSimpArgs false
/-- what stands behind k parts -/
def upTo (ts : List Bs) (k : Nat) : Bs := commas (ts.take k)
theorem commas_snoc : ∀ (ts : List Bs) (t : Bs), commas (ts ++ [t]) = if ts = [] then t else commas ts ++ 44 :: t
  | [], t => rfl
  | [x], t => rfl
  | x :: y :: r, t => by
    have := commas_snoc (y :: r) t
    simp only [List.cons_append, commas] at this ⊢
    rw [this]
    simp
theorem upTo_zero (ts : List Bs) : upTo ts 0 = [] := by simp [upTo, commas]
theorem upTo_one (ts : List Bs) (h : 0 < ts.length) : upTo ts 1 = ts[0] := by
  cases ts with
  | nil => simp at h
  | cons x r => rfl
theorem upTo_step (ts : List Bs) (k : Nat) (h : k < ts.length) (h0 : 0 < k) : upTo ts (k + 1) = upTo ts k ++ 44 :: ts[k] := by
  unfold upTo
  rw [List.take_succ_eq_append_getElem h, commas_snoc, if_neg]
  intro e
  have h2 := congrArg List.length e
  rw [List.length_take] at h2
  simp only [List.length_nil] at h2
  omega
theorem upTo_all (ts : List Bs) (k : Nat) (h : ts.length ≤ k) : upTo ts k = commas ts := by
  unfold upTo
  rw [List.take_of_length_le h]
theorem commas_mono : ∀ (ts us : List Bs), (commas ts).length ≤ (commas (ts ++ us)).length
  | [], us => by simp [commas]
  | [x], [] => by simp
  | [x], u :: us => by simp [commas]
  | x :: y :: r, us => by
    have := commas_mono (y :: r) us
    simp only [List.cons_append, commas, List.length_append, List.length_cons] at this ⊢
    omega
theorem upTo_len (ts : List Bs) (k : Nat) : (upTo ts k).length ≤ (commas ts).length := by
  have := commas_mono (ts.take k) (ts.drop k)
  rw [List.take_append_drop] at this
  exact this
theorem hSt_back {B : Nat} {w w1 w2 : World} {n : Nat} {j : J n} {u : Value} (h : St (fun c => B ≤ c) w1 n j u) (h1 : Below B w w1) (h2 : Below B w w2) (hs : w1.heap.size ≤ w2.heap.size) : St (fun c => B ≤ c) w2 n j u :=
  h.step hs (fun c _ hc => (h2.block c (by omega)).trans (h1.block c (by omega)).symm)
theorem st_iface {av : Nat → Prop} {w : World} : ∀ {n : Nat} {j : J n} {u : Value}, St av w n j u → ∃ T x, u = .iface T x
  | 0, l, u, h => by
    have h : u = leafV l := h
    subst h
    rcases l with _ | b | i | s <;> exact ⟨_, _, rfl⟩
  | _ + 1, Sum.inl l, u, h => by
    have h : u = leafV l := h
    subst h
    rcases l with _ | b | i | s <;> exact ⟨_, _, rfl⟩
  | _ + 1, Sum.inr (Sum.inl xs), u, h => by
    obtain ⟨p, g, cap, vs, rfl, _⟩ := h.list
    exact ⟨_, _, rfl⟩
  | _ + 1, Sum.inr (Sum.inr fs), u, h => by
    obtain ⟨p, g, cap, vs, rfl, _⟩ := h.obj
    exact ⟨_, _, rfl⟩
set_option maxRecDepth 100000 in
set_option maxHeartbeats 4000000 in
theorem writeList_any (n : Nat) (hW : WriteOK n) (B : Nat) (xs : List (J n)) (p : Option Addr) (g cap : Nat) (vs : List Value) (v : Value) (l : Bs) (w : World) (hvl : vs.length = xs.length) (hlc : xs.length ≤ cap) (hcm : cap ≤ maxLen) (hp : ∀ k, k < xs.length → p = some ⟨g, 0, none⟩ ∧ g < B)
    (hcell : ∀ (i : Nat) (u : Value), vs[i]? = some u → w.cell? ⟨g, i, none⟩ = some u) (hel : ∀ (i : Nat) (x : J n) (u : Value), xs[i]? = some x → vs[i]? = some u → St (fun c => B ≤ c) w n x u)
    (hGo : ∀ x ∈ xs, Fit n x) (hO : Own B w v l) (hB : B ≤ w.heap.size) (hT : Tab B w) (hlim : l.length + (tell (n + 1) (Sum.inr (Sum.inl xs))).length ≤ 100000000) (hx6 : xs.length ≤ 100000000) :
    Calls Tryz.prog 89 #[v, .slice p xs.length cap] w fun e w' => ∃ v', e = .returned v' ∧ Own B w' v' (l ++ tell (n + 1) (Sum.inr (Sum.inl xs))) ∧ Fr B w w' := by
  obtain ⟨i0, hi, hz0, hz1, hz2⟩ := info_parts info_u8
  unfold maxLen at hcm
  have hte : tell (n + 1) (Sum.inr (Sum.inl xs)) = 91 :: (commas (xs.map (tell n)) ++ [93]) := rfl
  rw [hte] at hlim ⊢
  have hln : (91 :: (commas (xs.map (tell n)) ++ [93])).length = (commas (xs.map (tell n))).length + 2 := by simp
  rw [hln] at hlim
  have HTs : Hid (∀ k (hk : k < xs.length), (xs.map (tell n))[k]? = some (tell n xs[k])) := fun k hk => by simp [hk]
  have hts : (xs.map (tell n)).length = xs.length := by simp
  generalize hT2 : xs.map (tell n) = ts at *
  have HO : Hid (Own B w v l) := hO
  have HB : Hid (Fr B w w) := Fr.refl _ _
  have HT : Hid (Tab B w) := hT
  have HW : Hid (WriteOK n) := hW
  have HEl : Hid (∀ w1, Below B w w1 → ∀ k (hk : k < xs.length), ∃ u, w1.cell? ⟨g, k, none⟩ = some u ∧ St (fun c => B ≤ c) w1 n xs[k] u) := by
    intro w1 hb k hk
    have hu : vs[k]? = some (vs[k]'(by omega)) := List.getElem?_eq_getElem (by omega)
    exact ⟨_, by rw [hb.cell (p := ⟨g, k, none⟩) (hp k hk).2]; exact hcell k _ hu, (hel k xs[k] _ (List.getElem?_eq_getElem hk) hu).belowB hb⟩
  have HGo : Hid (∀ x ∈ xs, Fit n x) := hGo
  have HPp : Hid (∀ k, k < xs.length → p = some ⟨g, 0, none⟩) := fun k hk => (hp k hk).1
  clear hp
  clear hO hT hW hcell hel hGo hT2 hte hln
  go_enter Tryz.func89, Tryz.ntmps89
  go_wp2_with (at_builtin; refine wpList_append_own _ rfl _ _ 99 rfl B 5 i0 (.int .u8 0) 1 1 Tryz.underlying99 hi hz0 hz1 hz2 rfl (by decide) _ _ _ rfl (World.ownsRow.alloc (HO.out) _) ⟨w.heap.size, 0, none⟩ 1 1 [.int .u8 91] rfl rfl (by exact news_at1 _ _ _) (by exact news_one1 _) (by unfold maxLen; omega) (by omega) (by have := HB.out.below.size; simp; omega) ?_)
  intro v' w1 hown' hgrow _
  have HO1 : Hid (Own B w1 v' (l ++ [91])) := own_snoc1 hown'
  have HB1 : Hid (Fr B w w1) := (HB.out.alloc (by have := HB.out.below.size; omega) _).own (World.ownsRow.alloc (HO.out) _) (by have := HB.out.below.size; simp; omega) hgrow
  clear hown' hgrow
  go_wp2_with fail
  go_loopw [0, 12] (fun x i wr => ∃ k : Nat, k ≤ xs.length ∧ i = .int .i64 k ∧ Own B wr x (l ++ 91 :: upTo ts k) ∧ Fr B w wr) (fun _ i _ => xs.length - (intOf i).toNat)
  case atStart => exact ⟨0, Nat.zero_le _, rfl, by rw [upTo_zero]; exact HO1.out, HB1.out⟩
  case round =>
    obtain ⟨k, hk, rfl, hown, hbel⟩ := hrel
    have hul := upTo_len ts k
    have hlen : (l ++ 91 :: upTo ts k).length = l.length + 1 + (upTo ts k).length := by simp; omega
    obtain ⟨L, hL⟩ : ∃ L, L = l ++ 91 :: upTo ts k := ⟨_, rfl⟩
    rw [← hL] at hlen hown
    have HL : Hid (L = l ++ 91 :: upTo ts k) := hL
    have HR : Hid (Own B wr u0 L) := hown
    have HRB : Hid (Fr B w wr) := hbel
    have HLen : Hid (L.length = l.length + 1 + (upTo ts k).length) := hlen
    have hBr : B ≤ wr.heap.size := by have := HRB.out.below.size; omega
    have hL6 : L.length + 1 ≤ 100000000 := by omega
    clear hown hbel hlen hL
    by_cases hlt : k < xs.length
    · have hpe := HPp.out k hlt
      subst hpe
      obtain ⟨u, hcu, hst⟩ := HEl.out wr HRB.out.below k hlt
      have HSt : Hid (St (fun c => B ≤ c) wr n xs[k] u) := hst
      have hul2 := upTo_len ts (k + 1)
      have HTk : Hid (ts[k]? = some (tell n xs[k])) := HTs.out k hlt
      have hkt : k < ts.length := by omega
      have HTk2 : Hid (ts[k] = tell n xs[k]) := by
        have := HTk.out
        rw [List.getElem?_eq_getElem hkt] at this
        exact Option.some.inj this
      clear hst
      by_cases h0 : k = 0
      · have HU : Hid (upTo ts (k + 1) = tell n xs[k]) := by
          show upTo ts (k + 1) = tell n xs[k]
          subst h0
          rw [upTo_one ts hkt]
          exact HTk2.out
        have HUl : Hid ((upTo ts (k + 1)).length = (tell n xs[k]).length) := congrArg List.length HU.out
        have HU0 : Hid (upTo ts k = []) := by show upTo ts k = []; rw [h0, upTo_zero]
        have hnk : ¬ (0 : Int) < (k : Int) := by omega
        clear h0
        go_wp2_with fail
        refine (HW.out B xs[k] u u0 L wr HSt.out (HGo.out _ (List.getElem_mem _)) HR.out hBr (HT.out.below HRB.out.below) (by have h1 := HUl.out; have h2 := HLen.out; rw [HU0.out] at h2; simp only [List.length_nil] at h2; omega)).mono ?_
        rintro e w2 ⟨v', rfl, hO2, hb2⟩
        have HO2 : Hid (Own B w2 v' (l ++ 91 :: upTo ts (k + 1))) := by
          rw [HL.out, HU0.out] at hO2
          show Own B w2 v' (l ++ 91 :: upTo ts (k + 1))
          rw [HU.out]
          simpa using hO2
        have HB2 : Hid (Fr B w w2) := HRB.out.trans hb2
        clear hO2 hb2
        go_wp2_with fail
        go_roundw
        case rel => exact ⟨k + 1, by omega, by go_num, HO2.out, HB2.out⟩
        case measure => simp [intOf]; omega
      · have HU : Hid (upTo ts (k + 1) = upTo ts k ++ 44 :: tell n xs[k]) := by
          show upTo ts (k + 1) = upTo ts k ++ 44 :: tell n xs[k]
          rw [upTo_step ts k hkt (by omega), HTk2.out]
        have hUl : (upTo ts (k + 1)).length = (upTo ts k).length + 1 + (tell n xs[k]).length := by
          have := congrArg List.length HU.out
          simp at this
          omega
        have HUl : Hid ((upTo ts (k + 1)).length = (upTo ts k).length + 1 + (tell n xs[k]).length) := hUl
        have hnk : (0 : Int) < (k : Int) := by omega
        clear hUl h0
        go_wp2_with (at_builtin; refine wpList_append_own _ rfl _ _ 99 rfl B 5 i0 (.int .u8 0) 1 1 Tryz.underlying99 hi hz0 hz1 hz2 rfl (by decide) _ _ _ rfl (World.ownsRow.alloc (HR.out) _) ⟨wr.heap.size, 0, none⟩ 1 1 [.int .u8 44] rfl rfl (by exact news_at1 _ _ _) (by exact news_one1 _) (by unfold maxLen; omega) (by omega) (by have := HRB.out.below.size; simp; omega) ?_)
        intro v' w2 hown' hgrow _
        have HO2 : Hid (Own B w2 v' (L ++ [44])) := own_snoc1 hown'
        have HB2 : Hid (Fr B w w2) := (HRB.out.alloc (by have := HRB.out.below.size; omega) _).own (World.ownsRow.alloc (HR.out) _) (by have := HRB.out.below.size; simp; omega) hgrow
        have HZ2 : Hid (wr.heap.size ≤ w2.heap.size) := by have := hgrow.size; show wr.heap.size ≤ w2.heap.size; simp at this; omega
        clear hown' hgrow
        have HSt2 : Hid (St (fun c => B ≤ c) w2 n xs[k] u) := hSt_back HSt.out HRB.out.below HB2.out.below HZ2.out
        go_wp2_with fail
        refine (HW.out B xs[k] u v' (L ++ [44]) w2 HSt2.out (HGo.out _ (List.getElem_mem _)) HO2.out (by have := HB2.out.below.size; omega) (HT.out.below HB2.out.below) (by have h1 := HUl.out; have h2 := HLen.out; rw [List.length_append]; simp only [List.length_cons, List.length_nil]; omega)).mono ?_
        rintro e w3 ⟨v3, rfl, hO3, hb3⟩
        have HO3 : Hid (Own B w3 v3 (l ++ 91 :: upTo ts (k + 1))) := by
          show Own B w3 v3 (l ++ 91 :: upTo ts (k + 1))
          rw [HU.out]
          rw [HL.out] at hO3
          simpa using hO3
        have HB3 : Hid (Fr B w w3) := HB2.out.trans hb3
        clear hO3 hb3
        go_wp2_with fail
        go_roundw
        case rel => exact ⟨k + 1, by omega, by go_num, HO3.out, HB3.out⟩
        case measure => simp [intOf]; omega
    · have HU : Hid (L ++ [93] = l ++ 91 :: (commas ts ++ [93])) := by
        show L ++ [93] = l ++ 91 :: (commas ts ++ [93])
        rw [HL.out, upTo_all ts k (by omega)]
        simp
      go_wp2_with (at_builtin; refine wpList_append_own _ rfl _ _ 99 rfl B 5 i0 (.int .u8 0) 1 1 Tryz.underlying99 hi hz0 hz1 hz2 rfl (by decide) _ _ _ rfl (World.ownsRow.alloc (HR.out) _) ⟨wr.heap.size, 0, none⟩ 1 1 [.int .u8 93] rfl rfl (by exact news_at1 _ _ _) (by exact news_one1 _) (by unfold maxLen; omega) (by omega) (by have := HRB.out.below.size; simp; omega) ?_)
      intro v' w2 hown' hgrow _
      have HO2 : Hid (Own B w2 v' (L ++ [93])) := own_snoc1 hown'
      have HB2 : Hid (Fr B w w2) := (HRB.out.alloc (by have := HRB.out.below.size; omega) _).own (World.ownsRow.alloc (HR.out) _) (by have := HRB.out.below.size; simp; omega) hgrow
      clear hown' hgrow
      go_wp2_with fail
      go_ret
      exact ⟨v', rfl, by rw [← HU.out]; exact HO2.out, HB2.out⟩
set_option maxRecDepth 100000 in
set_option maxHeartbeats 8000000 in
theorem writeObject_any (n : Nat) (hW : WriteOK n) (B : Nat) (fs : List (Bs × J n)) (p : Option Addr) (g cap : Nat) (vs : List Value) (v : Value) (l : Bs) (w : World) (hvl : vs.length = fs.length) (hlc : fs.length ≤ cap) (hcm : cap ≤ maxLen) (hp : ∀ k, k < fs.length → p = some ⟨g, 0, none⟩ ∧ g < B)
    (hcell : ∀ (i : Nat) (f : Bs × J n) (u : Value), fs[i]? = some f → vs[i]? = some u → w.cell? ⟨g, i * 2, none⟩ = some (.string ⟨f.1.toArray⟩) ∧ w.cell? ⟨g, i * 2 + 1, none⟩ = some u) (hel : ∀ (i : Nat) (f : Bs × J n) (u : Value), fs[i]? = some f → vs[i]? = some u → St (fun c => B ≤ c) w n f.2 u)
    (hGo : ∀ f ∈ fs, Fit n f.2) (hO : Own B w v l) (hB : B ≤ w.heap.size) (hT : Tab B w) (hlim : l.length + (tell (n + 1) (Sum.inr (Sum.inr fs))).length ≤ 100000000) (hx6 : fs.length ≤ 100000000) :
    Calls Tryz.prog 90 #[v, .slice p fs.length cap] w fun e w' => ∃ v', e = .returned v' ∧ Own B w' v' (l ++ tell (n + 1) (Sum.inr (Sum.inr fs))) ∧ Fr B w w' := by
  obtain ⟨i0, hi, hz0, hz1, hz2⟩ := info_parts info_u8
  unfold maxLen at hcm
  have hte : tell (n + 1) (Sum.inr (Sum.inr fs)) = 123 :: (commas (fs.map fun f => quote f.1 ++ 58 :: tell n f.2) ++ [125]) := rfl
  rw [hte] at hlim ⊢
  have hln : (123 :: (commas (fs.map fun f => quote f.1 ++ 58 :: tell n f.2) ++ [125])).length = (commas (fs.map fun f => quote f.1 ++ 58 :: tell n f.2)).length + 2 := by simp
  rw [hln] at hlim
  have HTs : Hid (∀ k (hk : k < fs.length), (fs.map fun f => quote f.1 ++ 58 :: tell n f.2)[k]? = some (quote fs[k].1 ++ 58 :: tell n fs[k].2)) := fun k hk => by simp [hk]
  have hts : (fs.map fun f => quote f.1 ++ 58 :: tell n f.2).length = fs.length := by simp
  generalize hT2 : (fs.map fun f => quote f.1 ++ 58 :: tell n f.2) = ts at *
  have HO : Hid (Own B w v l) := hO
  have HB : Hid (Fr B w w) := Fr.refl _ _
  have HT : Hid (Tab B w) := hT
  have HW : Hid (WriteOK n) := hW
  have HEl : Hid (∀ w1, Below B w w1 → ∀ k (hk : k < fs.length), ∃ u, w1.cell? ⟨g, k * 2, none⟩ = some (.string ⟨fs[k].1.toArray⟩) ∧ w1.cell? ⟨g, k * 2 + 1, none⟩ = some u ∧ St (fun c => B ≤ c) w1 n fs[k].2 u) := by
    intro w1 hb k hk
    have hu : vs[k]? = some (vs[k]'(by omega)) := List.getElem?_eq_getElem (by omega)
    have hf : fs[k]? = some fs[k] := List.getElem?_eq_getElem hk
    have hc := hcell k _ _ hf hu
    exact ⟨_, by rw [hb.cell (p := ⟨g, k * 2, none⟩) (hp k hk).2]; exact hc.1, by rw [hb.cell (p := ⟨g, k * 2 + 1, none⟩) (hp k hk).2]; exact hc.2, (hel k fs[k] _ hf hu).belowB hb⟩
  have HGo : Hid (∀ k (hk : k < fs.length), Fit n fs[k].2) := fun k hk => hGo _ (List.getElem_mem hk)
  have HPp : Hid (∀ k, k < fs.length → p = some ⟨g, 0, none⟩) := fun k hk => (hp k hk).1
  clear hp
  clear hO hT hW hcell hel hGo hT2 hte hln
  go_enter Tryz.func90, Tryz.ntmps90
  go_wp2_with (at_builtin; refine wpList_append_own _ rfl _ _ 99 rfl B 5 i0 (.int .u8 0) 1 1 Tryz.underlying99 hi hz0 hz1 hz2 rfl (by decide) _ _ _ rfl (World.ownsRow.alloc (HO.out) _) ⟨w.heap.size, 0, none⟩ 1 1 [.int .u8 123] rfl rfl (by exact news_at1 _ _ _) (by exact news_one1 _) (by unfold maxLen; omega) (by omega) (by have := HB.out.below.size; simp; omega) ?_)
  intro v' w1 hown' hgrow _
  have HO1 : Hid (Own B w1 v' (l ++ [123])) := own_snoc1 hown'
  have HB1 : Hid (Fr B w w1) := (HB.out.alloc (by have := HB.out.below.size; omega) _).own (World.ownsRow.alloc (HO.out) _) (by have := HB.out.below.size; simp; omega) hgrow
  clear hown' hgrow
  go_wp2_with fail
  go_loopw [0, 12] (fun x i wr => ∃ k : Nat, k ≤ fs.length ∧ i = .int .i64 k ∧ Own B wr x (l ++ 123 :: upTo ts k) ∧ Fr B w wr) (fun _ i _ => fs.length - (intOf i).toNat)
  case atStart => exact ⟨0, Nat.zero_le _, rfl, by rw [upTo_zero]; exact HO1.out, HB1.out⟩
  case round =>
    obtain ⟨k, hk, rfl, hown, hbel⟩ := hrel
    have hul := upTo_len ts k
    have hlen : (l ++ 123 :: upTo ts k).length = l.length + 1 + (upTo ts k).length := by simp; omega
    obtain ⟨L, hL⟩ : ∃ L, L = l ++ 123 :: upTo ts k := ⟨_, rfl⟩
    rw [← hL] at hlen hown
    have HL : Hid (L = l ++ 123 :: upTo ts k) := hL
    have HR : Hid (Own B wr u0 L) := hown
    have HRB : Hid (Fr B w wr) := hbel
    have HLen : Hid (L.length = l.length + 1 + (upTo ts k).length) := hlen
    have hBr : B ≤ wr.heap.size := by have := HRB.out.below.size; omega
    have hL6 : L.length + 1 ≤ 100000000 := by omega
    clear hown hbel hlen hL
    by_cases hlt : k < fs.length
    · have hpe := HPp.out k hlt
      subst hpe
      obtain ⟨u, hcn, hcu, hst⟩ := HEl.out wr HRB.out.below k hlt
      have hul2 := upTo_len ts (k + 1)
      have hkt : k < ts.length := by omega
      have HTk2 : Hid (ts[k] = quote fs[k].1 ++ 58 :: tell n fs[k].2) := by
        have := HTs.out k hlt
        rw [List.getElem?_eq_getElem hkt] at this
        exact Option.some.inj this
      have HGk : Hid (Fit n fs[k].2) := HGo.out k hlt
      obtain ⟨T, x, rfl⟩ := st_iface hst
      have HSt : Hid (St (fun c => B ≤ c) wr n fs[k].2 (.iface T x)) := hst
      clear hst
      generalize hfk : fs[k] = f at *
      obtain ⟨nm, j⟩ := f
      simp only [] at *
      have HNw : Hid ((wr.alloc (.cells #[.string ⟨nm.toArray⟩, .iface T x] 87)).heap[wr.heap.size]? = some (.cells #[.string ⟨nm.toArray⟩, .iface T x] 87 (0, 0))) := heap_alloc_new wr _
      have HRa : Hid (Own B (wr.alloc (.cells #[.string ⟨nm.toArray⟩, .iface T x] 87)) u0 L) := World.ownsRow.alloc HR.out _
      have HFa : Hid (Fr B w (wr.alloc (.cells #[.string ⟨nm.toArray⟩, .iface T x] 87))) := HRB.out.alloc hBr _
      have HSa : Hid (St (fun c => B ≤ c) (wr.alloc (.cells #[.string ⟨nm.toArray⟩, .iface T x] 87)) n j (.iface T x)) := HSt.out.grown (World.grownBy_alloc wr _ none) (fun k e => by cases e)
      have hBa : B ≤ (wr.alloc (.cells #[.string ⟨nm.toArray⟩, .iface T x] 87)).heap.size := by simp; omega
      have hba : wr.heap.size < (wr.alloc (.cells #[.string ⟨nm.toArray⟩, .iface T x] 87)).heap.size := by simp
      by_cases h0 : k = 0
      · have HU : Hid (upTo ts (k + 1) = quote nm ++ 58 :: tell n j) := by
          show upTo ts (k + 1) = quote nm ++ 58 :: tell n j
          subst h0
          rw [upTo_one ts hkt]
          exact HTk2.out
        have HU0 : Hid (upTo ts k = []) := by show upTo ts k = []; rw [h0, upTo_zero]
        have HLL : Hid (l ++ 123 :: upTo ts (k + 1) = L ++ (quote nm ++ 58 :: tell n j)) := by
          show l ++ 123 :: upTo ts (k + 1) = L ++ (quote nm ++ 58 :: tell n j)
          rw [HL.out, HU0.out, HU.out]
          simp
        have HBd : Hid (L.length + (quote nm).length + 1 + (tell n j).length ≤ 100000000) := by
          show L.length + (quote nm).length + 1 + (tell n j).length ≤ 100000000
          have h1 := congrArg List.length HU.out
          have h2 := HLen.out
          rw [HU0.out] at h2
          simp only [List.length_append, List.length_cons, List.length_nil] at h1 h2
          omega
        have hnk : ¬ (0 : Int) < (k : Int) := by omega
        clear h0
        have HLk : Hid (fs[k] = (nm, j)) := hfk
        clear hfk
        go_wp2_with fail
        generalize wr.alloc (.cells #[.string ⟨nm.toArray⟩, .iface T x] 87) = wa at *
        refine (writeQuoted_any B ⟨nm.toArray⟩ u0 (L) wa HRa.out (by have := HFa.out.below.size; omega) (by have h5 := HBd.out; (try simp only [List.length_append, List.length_cons, List.length_nil] at h5 ⊢); omega) (by have h5 := HBd.out; have h6 := quote_ge nm; (try simp only [List.length_append, List.length_cons, List.length_nil] at h5); simp [ByteArray.size]; omega)).mono ?_
        rintro e wq ⟨vq, rfl, hOq, hFq⟩
        obtain ⟨Lq, hLq⟩ : ∃ Lq, Lq = L ++ quote nm := ⟨_, rfl⟩
        have HLq : Hid (Lq = L ++ quote nm) := hLq
        have HOq : Hid (Own B wq vq Lq) := by rw [hLq]; exact hOq
        have HFq : Hid (Fr B w wq) := HFa.out.trans hFq
        have HBq : Hid (wq.heap[wr.heap.size]? = some (.cells #[.string ⟨nm.toArray⟩, .iface T x] 87 (0, 0))) := hFq.others _ _ HNw.out (fun e => by cases e) (fun c fz e => by cases e)
        have HSq : Hid (St (fun c => B ≤ c) wq n j (.iface T x)) := HSa.out.belowB hFq.below
        have hq6 : Lq.length + 1 + (tell n j).length ≤ 100000000 := by
          have h5 := HBd.out
          rw [hLq]
          simp only [List.length_append, List.length_cons, List.length_nil] at h5 ⊢
          omega
        have hqw : wr.heap.size < wq.heap.size := lt_of_block HBq.out
        clear hOq hFq hLq
        go_wp2_with (at_builtin; refine wpList_append_own _ rfl _ _ 99 rfl B 5 i0 (.int .u8 0) 1 1 Tryz.underlying99 hi hz0 hz1 hz2 rfl (by decide) _ _ _ rfl (World.ownsRow.alloc (HOq.out) _) ⟨wq.heap.size, 0, none⟩ 1 1 [.int .u8 58] rfl rfl ?p01 ?p02 ?p03 ?p04 ?p05 ?_)
        case p01 => exact news_at1 _ _ _
        case p02 => exact news_one1 _
        case p03 => unfold maxLen; omega
        case p04 => omega
        case p05 => have := HFq.out.below.size; simp; omega
        intro v' wc hown' hgrow _
        have HOc : Hid (Own B wc v' (Lq ++ [58])) := own_snoc1 hown'
        have HFc : Hid (Fr B w wc) := (HFq.out.alloc (by have := HFq.out.below.size; omega) _).own (World.ownsRow.alloc (HOq.out) _) (by have := HFq.out.below.size; simp; omega) hgrow
        have HBc : Hid (wc.heap[wr.heap.size]? = some (.cells #[.string ⟨nm.toArray⟩, .iface T x] 87 (0, 0))) := (((Fr.refl B wq).alloc (by have := HFq.out.below.size; omega) _).own (World.ownsRow.alloc HOq.out _) (by have := HFq.out.below.size; simp; omega) hgrow).others _ _ HBq.out (fun e => by cases e) (fun c fz e => by cases e)
        have HSc : Hid (St (fun c => B ≤ c) wc n j (.iface T x)) := hSt_back HSq.out HFq.out.below HFc.out.below (by have := hgrow.size; simp at this; omega)
        clear hown' hgrow
        have cb := cell_of_row _ _ 1 _ _ _ HBc.out
        have cb1 : wc.cell? ⟨wr.heap.size, 1, none⟩ = some (.iface T x) := cb
        clear cb
        go_wp2_with fail
        refine (HW.out B j (.iface T x) v' (Lq ++ [58]) wc HSc.out HGk.out HOc.out (by have := HFc.out.below.size; omega) (HT.out.below HFc.out.below) (by rw [List.length_append]; simp only [List.length_cons, List.length_nil]; omega)).mono ?_
        rintro e wz ⟨vz, rfl, hOz, hFz⟩
        have HOz : Hid (Own B wz vz (l ++ 123 :: upTo ts (k + 1))) := by
          show Own B wz vz (l ++ 123 :: upTo ts (k + 1))
          rw [HLq.out] at hOz
          rw [HLL.out]
          simpa using hOz
        have HFz : Hid (Fr B w wz) := HFc.out.trans hFz
        clear hOz hFz cb1
        go_wp2_with fail
        go_roundw
        case rel => exact ⟨k + 1, by omega, by go_num, HOz.out, HFz.out⟩
        case measure => simp [intOf]; omega
      · have HU : Hid (upTo ts (k + 1) = upTo ts k ++ 44 :: (quote nm ++ 58 :: tell n j)) := by
          show upTo ts (k + 1) = upTo ts k ++ 44 :: (quote nm ++ 58 :: tell n j)
          rw [upTo_step ts k hkt (by omega), HTk2.out]
        have HLL : Hid (l ++ 123 :: upTo ts (k + 1) = L ++ [44] ++ (quote nm ++ 58 :: tell n j)) := by
          show l ++ 123 :: upTo ts (k + 1) = L ++ [44] ++ (quote nm ++ 58 :: tell n j)
          rw [HL.out, HU.out]
          simp
        have HBd : Hid ((L ++ [44]).length + (quote nm).length + 1 + (tell n j).length ≤ 100000000) := by
          show (L ++ [44]).length + (quote nm).length + 1 + (tell n j).length ≤ 100000000
          have h1 := congrArg List.length HU.out
          have h2 := HLen.out
          simp only [List.length_append, List.length_cons, List.length_nil] at h1 h2 ⊢
          omega
        have hnk : (0 : Int) < (k : Int) := by omega
        clear h0
        have HLk : Hid (fs[k] = (nm, j)) := hfk
        clear hfk
        go_wp2_with (at_builtin; refine wpList_append_own _ rfl _ _ 99 rfl B 5 i0 (.int .u8 0) 1 1 Tryz.underlying99 hi hz0 hz1 hz2 rfl (by decide) _ _ _ rfl (World.ownsRow.alloc (HRa.out) _) ⟨wr.heap.size + 1, 0, none⟩ 1 1 [.int .u8 44] rfl rfl ?f1 ?f2 ?f3 ?f4 ?f5 ?_)
        case f1 =>
          have := news_at1 (wr.alloc (.cells #[.string ⟨nm.toArray⟩, .iface T x] 87)) (.int .u8 44) 5
          simpa using this
        case f2 => exact news_one1 _
        case f3 => unfold maxLen; omega
        case f4 => omega
        case f5 => have := HFa.out.below.size; simp; omega
        intro v' w2 hown' hgrow _
        have HO2 : Hid (Own B w2 v' (L ++ [44])) := own_snoc1 hown'
        have HF2 : Hid (Fr B w w2) := (HFa.out.alloc (by have := HFa.out.below.size; omega) _).own (World.ownsRow.alloc (HRa.out) _) (by have := HFa.out.below.size; simp; omega) hgrow
        have HB2 : Hid (w2.heap[wr.heap.size]? = some (.cells #[.string ⟨nm.toArray⟩, .iface T x] 87 (0, 0))) := (((Fr.refl B _).alloc hBa _).own (World.ownsRow.alloc HRa.out _) (by simp; omega) hgrow).others _ _ HNw.out (fun e => by cases e) (fun c fz e => by cases e)
        have HS2 : Hid (St (fun c => B ≤ c) w2 n j (.iface T x)) := hSt_back HSa.out HFa.out.below HF2.out.below (by have := hgrow.size; simp at this ⊢; omega)
        clear hown' hgrow
        have cb := cell_of_row _ _ 0 _ _ _ HB2.out
        have cb0 : w2.cell? ⟨wr.heap.size, 0, none⟩ = some (.string ⟨nm.toArray⟩) := cb
        clear cb
        go_wp2_with fail
        refine (writeQuoted_any B ⟨nm.toArray⟩ v' (L ++ [44]) w2 HO2.out (by have := HF2.out.below.size; omega) (by have h5 := HBd.out; (try simp only [List.length_append, List.length_cons, List.length_nil] at h5 ⊢); omega) (by have h5 := HBd.out; have h6 := quote_ge nm; (try simp only [List.length_append, List.length_cons, List.length_nil] at h5); simp [ByteArray.size]; omega)).mono ?_
        rintro e wq ⟨vq, rfl, hOq, hFq⟩
        obtain ⟨Lq, hLq⟩ : ∃ Lq, Lq = L ++ [44] ++ quote nm := ⟨_, rfl⟩
        have HLq : Hid (Lq = L ++ [44] ++ quote nm) := hLq
        have HOq : Hid (Own B wq vq Lq) := by rw [hLq]; exact hOq
        have HFq : Hid (Fr B w wq) := HF2.out.trans hFq
        have HBq : Hid (wq.heap[wr.heap.size]? = some (.cells #[.string ⟨nm.toArray⟩, .iface T x] 87 (0, 0))) := hFq.others _ _ HB2.out (fun e => by cases e) (fun c fz e => by cases e)
        have HSq : Hid (St (fun c => B ≤ c) wq n j (.iface T x)) := HS2.out.belowB hFq.below
        have hq6 : Lq.length + 1 + (tell n j).length ≤ 100000000 := by
          have h5 := HBd.out
          rw [hLq]
          simp only [List.length_append, List.length_cons, List.length_nil] at h5 ⊢
          omega
        have hqw : wr.heap.size < wq.heap.size := lt_of_block HBq.out
        clear hOq hFq hLq
        go_wp2_with (at_builtin; refine wpList_append_own _ rfl _ _ 99 rfl B 5 i0 (.int .u8 0) 1 1 Tryz.underlying99 hi hz0 hz1 hz2 rfl (by decide) _ _ _ rfl (World.ownsRow.alloc (HOq.out) _) ⟨wq.heap.size, 0, none⟩ 1 1 [.int .u8 58] rfl rfl ?p11 ?p12 ?p13 ?p14 ?p15 ?_)
        case p11 => exact news_at1 _ _ _
        case p12 => exact news_one1 _
        case p13 => unfold maxLen; omega
        case p14 => omega
        case p15 => have := HFq.out.below.size; simp; omega
        intro v' wc hown' hgrow _
        have HOc : Hid (Own B wc v' (Lq ++ [58])) := own_snoc1 hown'
        have HFc : Hid (Fr B w wc) := (HFq.out.alloc (by have := HFq.out.below.size; omega) _).own (World.ownsRow.alloc (HOq.out) _) (by have := HFq.out.below.size; simp; omega) hgrow
        have HBc : Hid (wc.heap[wr.heap.size]? = some (.cells #[.string ⟨nm.toArray⟩, .iface T x] 87 (0, 0))) := (((Fr.refl B wq).alloc (by have := HFq.out.below.size; omega) _).own (World.ownsRow.alloc HOq.out _) (by have := HFq.out.below.size; simp; omega) hgrow).others _ _ HBq.out (fun e => by cases e) (fun c fz e => by cases e)
        have HSc : Hid (St (fun c => B ≤ c) wc n j (.iface T x)) := hSt_back HSq.out HFq.out.below HFc.out.below (by have := hgrow.size; simp at this; omega)
        clear hown' hgrow
        have cb := cell_of_row _ _ 1 _ _ _ HBc.out
        have cb1 : wc.cell? ⟨wr.heap.size, 1, none⟩ = some (.iface T x) := cb
        clear cb
        go_wp2_with fail
        refine (HW.out B j (.iface T x) v' (Lq ++ [58]) wc HSc.out HGk.out HOc.out (by have := HFc.out.below.size; omega) (HT.out.below HFc.out.below) (by rw [List.length_append]; simp only [List.length_cons, List.length_nil]; omega)).mono ?_
        rintro e wz ⟨vz, rfl, hOz, hFz⟩
        have HOz : Hid (Own B wz vz (l ++ 123 :: upTo ts (k + 1))) := by
          show Own B wz vz (l ++ 123 :: upTo ts (k + 1))
          rw [HLq.out] at hOz
          rw [HLL.out]
          simpa using hOz
        have HFz : Hid (Fr B w wz) := HFc.out.trans hFz
        clear hOz hFz cb1
        go_wp2_with fail
        go_roundw
        case rel => exact ⟨k + 1, by omega, by go_num, HOz.out, HFz.out⟩
        case measure => simp [intOf]; omega
    · have HU : Hid (L ++ [125] = l ++ 123 :: (commas ts ++ [125])) := by
        show L ++ [125] = l ++ 123 :: (commas ts ++ [125])
        rw [HL.out, upTo_all ts k (by omega)]
        simp
      go_wp2_with (at_builtin; refine wpList_append_own _ rfl _ _ 99 rfl B 5 i0 (.int .u8 0) 1 1 Tryz.underlying99 hi hz0 hz1 hz2 rfl (by decide) _ _ _ rfl (World.ownsRow.alloc (HR.out) _) ⟨wr.heap.size, 0, none⟩ 1 1 [.int .u8 125] rfl rfl (by exact news_at1 _ _ _) (by exact news_one1 _) (by unfold maxLen; omega) (by omega) (by have := HRB.out.below.size; simp; omega) ?_)
      intro v' w2 hown' hgrow _
      have HO2 : Hid (Own B w2 v' (L ++ [125])) := own_snoc1 hown'
      have HB2 : Hid (Fr B w w2) := (HRB.out.alloc (by have := HRB.out.below.size; omega) _).own (World.ownsRow.alloc (HR.out) _) (by have := HRB.out.below.size; simp; omega) hgrow
      clear hown' hgrow
      go_wp2_with fail
      go_ret
      exact ⟨v', rfl, by rw [← HU.out]; exact HO2.out, HB2.out⟩
theorem tell_len_list {n : Nat} (xs : List (J n)) : xs.length ≤ (tell (n + 1) (Sum.inr (Sum.inl xs))).length := by
  have h : ∀ ts : List Bs, ts.length ≤ (commas ts).length + 1 := by
    intro ts
    induction ts with
    | nil => simp
    | cons t r ih =>
      cases r with
      | nil => simp
      | cons u r =>
        simp only [commas, List.length_append, List.length_cons] at ih ⊢
        omega
  have h1 := h (xs.map (tell n))
  show xs.length ≤ (91 :: (commas (xs.map (tell n)) ++ [93])).length
  simp only [List.length_map, List.length_cons, List.length_append, List.length_nil] at h1 ⊢
  omega
theorem tell_len_obj {n : Nat} (fs : List (Bs × J n)) : fs.length ≤ (tell (n + 1) (Sum.inr (Sum.inr fs))).length := by
  have h : ∀ ts : List Bs, ts.length ≤ (commas ts).length + 1 := by
    intro ts
    induction ts with
    | nil => simp
    | cons t r ih =>
      cases r with
      | nil => simp
      | cons u r =>
        simp only [commas, List.length_append, List.length_cons] at ih ⊢
        omega
  have h1 := h (fs.map fun f => quote f.1 ++ 58 :: tell n f.2)
  show fs.length ≤ (123 :: (commas (fs.map fun f => quote f.1 ++ 58 :: tell n f.2) ++ [125])).length
  simp only [List.length_map, List.length_cons, List.length_append, List.length_nil] at h1 ⊢
  omega
set_option maxRecDepth 100000 in
set_option maxHeartbeats 2000000 in
theorem write_ok : ∀ n, WriteOK n
  | 0 => by
    intro B j x v l w hSt hG hO hB hT hlim
    have e : x = leafV j := hSt
    subst e
    exact write_leaf B j v l w hG hO hB hT hlim
  | n + 1 => by
    have hW := write_ok n
    intro B j x v l w hSt hG hO hB hT hlim
    match j, hSt, hG, hlim with
    | Sum.inl a, hSt, hG, hlim =>
      have e : x = leafV a := hSt
      subst e
      exact write_leaf B a v l w hG hO hB hT hlim
    | Sum.inr (Sum.inl xs), hSt, hG, hlim =>
      obtain ⟨p, g, cap, vs, rfl, hpp, hvl, hlc, hcm, hcell, hel⟩ := hSt.list
      have hL := writeList_any n hW B xs p g cap vs v l w hvl hlc hcm (fun k hk => ⟨(hpp k hk).1, by have := (hpp k hk).2.1; omega⟩) hcell hel hG hO hB hT hlim (by have := tell_len_list xs; omega)
      have HL : Hid (Calls Tryz.prog 89 #[v, .slice p xs.length cap] w fun e w' => ∃ v', e = .returned v' ∧ Own B w' v' (l ++ tell (n + 1) (Sum.inr (Sum.inl xs))) ∧ Fr B w w') := hL
      obtain ⟨a1, a2, a3, a4, a5, a6⟩ := tas_List
      clear hL hcell hel hG hO hT hlim hW hpp
      generalize tell (n + 1) (Sum.inr (Sum.inl xs)) = tl at *
      go_enter Tryz.func66, Tryz.ntmps66
      go_wp2_with fail
      refine Calls.mono HL.out ?_
      rintro e w1 ⟨v', rfl, hO, hb⟩
      have HO1 : Hid (Own B w1 v' (l ++ tl)) := hO
      have HB1 : Hid (Fr B w w1) := hb
      clear hO hb
      go_wp2_with fail
      go_ret
      exact ⟨v', rfl, HO1.out, HB1.out⟩
    | Sum.inr (Sum.inr fs), hSt, hG, hlim =>
      obtain ⟨p, g, cap, vs, rfl, hpp, hvl, hlc, hcm, hcell, hel⟩ := hSt.obj
      have hL := writeObject_any n hW B fs p g cap vs v l w hvl hlc hcm (fun k hk => ⟨(hpp k hk).1, by have := (hpp k hk).2.1; omega⟩) hcell hel hG hO hB hT hlim (by have := tell_len_obj fs; omega)
      have HL : Hid (Calls Tryz.prog 90 #[v, .slice p fs.length cap] w fun e w' => ∃ v', e = .returned v' ∧ Own B w' v' (l ++ tell (n + 1) (Sum.inr (Sum.inr fs))) ∧ Fr B w w') := hL
      obtain ⟨a1, a2, a3, a4, a5, a6⟩ := tas_Object
      clear hL hcell hel hG hO hT hlim hW hpp
      generalize tell (n + 1) (Sum.inr (Sum.inr fs)) = tl at *
      go_enter Tryz.func66, Tryz.ntmps66
      go_wp2_with fail
      refine Calls.mono HL.out ?_
      rintro e w1 ⟨v', rfl, hO, hb⟩
      have HO1 : Hid (Own B w1 v' (l ++ tl)) := hO
      have HB1 : Hid (Fr B w w1) := hb
      clear hO hb
      go_wp2_with fail
      go_ret
      exact ⟨v', rfl, HO1.out, HB1.out⟩
/-- the document of a value that was read -/
theorem text_any (n : Nat) (av : Nat → Prop) (j : J n) (x : Value) (w : World) (hSt : St av w n j x) (hG : Fit n j) (hT : Tab w.heap.size w) (hlim : (tell n j).length ≤ 100000000) :
    Calls Tryz.prog 45 #[x] w fun e w' => e = .returned (.string ⟨(tell n j).toArray⟩) ∧ Below w.heap.size w w' := by
  have hS2 : St (fun c => w.heap.size ≤ c) w n j x := hSt.wide (fun c hc => Or.inr hc)
  have HW := write_ok n w.heap.size j x (.slice none 0 0) [] w hS2 hG (Own.nil _ _) (Nat.le_refl _) hT (by simpa using hlim)
  have HL : Hid (Calls Tryz.prog 66 #[.slice none 0 0, x] w fun e w' => ∃ v', e = .returned v' ∧ Own w.heap.size w' v' (tell n j) ∧ Fr w.heap.size w w') := HW
  clear HW hS2 hSt hG hT hlim
  generalize tell n j = tl at *
  go_enter Tryz.func45, Tryz.ntmps45
  go_wp2_with fail
  refine Calls.mono HL.out ?_
  rintro e w1 ⟨v', rfl, hO, hb⟩
  have hcv := conv_own hO
  have HB1 : Hid (Below w.heap.size w w1) := hb.below
  clear hO hb
  go_wp2_with fail
  go_ret
  exact ⟨rfl, HB1.out⟩
end Go.Proofs.YtaogilpkeeigoaaGreatDoor
