import Derived.Test.YtjcdklbimaclkaaGreatDoorGAi
import Derived.Test.YtjcdklbimaclkaaGreatDoorGAc
import Derived.Test.YtjcdklbimaclkaaGreatDoorGAe
import Derived.Test.YtjcdklbimaclkaaGreatDoorGAh
namespace Go.Proofs.YtjcdklbimaclkaaGreatDoor
open Go.RowKit
set_option linter.unusedVariables false
set_option linter.unusedSimpArgs false
def upTo (ts : List Bs) (k : Nat) : Bs := commas (ts.take k)
theorem commas_snoc : ∀ (ts : List Bs) (t : Bs), commas (ts ++ [t]) = if ts = [] then t else commas ts ++ 44 :: t
 | [], t => rfl
 | [x], t => rfl
 | x :: y :: r, t => by
  have := commas_snoc (y :: r) t
  simp only [List.cons_append, commas] at this ⊢
  rw [this]
  simp
theorem upTo_zero (ts : List Bs) : upTo ts 0 = [] := by simp [upTo, commas]
theorem upTo_one (ts : List Bs) (h : 0 < ts.length) : upTo ts 1 = ts[0] := by
 cases ts with
 | nil => simp at h
 | cons x r => rfl
theorem upTo_step (ts : List Bs) (k : Nat) (h : k < ts.length) (h0 : 0 < k) : upTo ts (k + 1) = upTo ts k ++ 44 :: ts[k] := by
 unfold upTo
 rw [List.take_succ_eq_append_getElem h, commas_snoc, if_neg]
 intro e
 have h2 := congrArg List.length e
 rw [List.length_take] at h2
 simp only [List.length_nil] at h2
 omega
theorem upTo_all (ts : List Bs) (k : Nat) (h : ts.length <= k) : upTo ts k = commas ts := by
 unfold upTo
 rw [List.take_of_length_le h]
theorem commas_mono : ∀ (ts us : List Bs), (commas ts).length <= (commas (ts ++ us)).length
 | [], us => by simp [commas]
 | [x], [] => by simp
 | [x], u :: us => by simp [commas]
 | x :: y :: r, us => by
  have := commas_mono (y :: r) us
  simp only [List.cons_append, commas, List.length_append, List.length_cons] at this ⊢
  omega
theorem upTo_len (ts : List Bs) (k : Nat) : (upTo ts k).length <= (commas ts).length := by
 have := commas_mono (ts.take k) (ts.drop k)
 rw [List.take_append_drop] at this
 exact this
theorem hSt_back {B : Nat} {w w1 w2 : World} {n : Nat} {j : J n} {u : Value} (h : St (fun c => B <= c) w1 n j u) (h1 : Below B w w1) (h2 : Below B w w2) (hs : w1.heap.size <= w2.heap.size) : St (fun c => B <= c) w2 n j u :=
 h.step hs (fun c _ hc => (h2.block c (by omega)).trans (h1.block c (by omega)).symm)
theorem st_iface {av : Nat -> Prop} {w : World} : ∀ {n : Nat} {j : J n} {u : Value}, St av w n j u -> ∃ T x, u = .iface T x
 | 0, l, u, h => by
  have h : u = leafV l := h
  subst h
  rcases l with _ | b | i | s <;> exact ⟨_, _, rfl⟩
 | _ + 1, Sum.inl l, u, h => by
  have h : u = leafV l := h
  subst h
  rcases l with _ | b | i | s <;> exact ⟨_, _, rfl⟩
 | _ + 1, Sum.inr (Sum.inl xs), u, h => by
  obtain ⟨p, g, cap, vs, rfl, _⟩ := h.list
  exact ⟨_, _, rfl⟩
 | _ + 1, Sum.inr (Sum.inr fs), u, h => by
  obtain ⟨p, g, cap, vs, rfl, _⟩ := h.obj
  exact ⟨_, _, rfl⟩
set_option maxRecDepth 100000 in
set_option maxHeartbeats 4000000 in
theorem writeList_any (n : Nat) (hW : WriteOK n) (B : Nat) (xs : List (J n)) (p : Option Addr) (g cap : Nat) (vs : List Value) (v : Value) (l : Bs) (w : World) (hvl : vs.length = xs.length) (hlc : xs.length <= cap) (hcm : cap <= maxLen) (hp : ∀ k, k < xs.length -> p = some ⟨g, 0, none⟩ /\ g < B)
  (hcell : ∀ (i : Nat) (u : Value), vs[i]? = some u -> w.cell? ⟨g, i, none⟩ = some u) (hel : ∀ (i : Nat) (x : J n) (u : Value), xs[i]? = some x -> vs[i]? = some u -> St (fun c => B <= c) w n x u)
  (hGo : ∀ x ∈ xs, Fit n x) (hO : Own B w v l) (hB : B <= w.heap.size) (hT : Tab B w) (hlim : l.length + (tell (n + 1) (Sum.inr (Sum.inl xs))).length <= 100000000) (hx6 : xs.length <= 100000000) :
  Calls Tryz.prog 78 #[v, .slice p xs.length cap] w fun e w' => ∃ v', e = .returned v' /\ Own B w' v' (l ++ tell (n + 1) (Sum.inr (Sum.inl xs))) /\ Fr B w w' := by
 obtain ⟨i0, hi, hz0, hz1, hz2⟩ := info_parts info_u8
 unfold maxLen at hcm
 have hte : tell (n + 1) (Sum.inr (Sum.inl xs)) = 91 :: (commas (xs.map (tell n)) ++ [93]) := rfl
 rw [hte] at hlim ⊢
 have hln : (91 :: (commas (xs.map (tell n)) ++ [93])).length = (commas (xs.map (tell n))).length + 2 := by simp
 rw [hln] at hlim
 have HTs : Hid (∀ k (hk : k < xs.length), (xs.map (tell n))[k]? = some (tell n xs[k])) := fun k hk => by simp [hk]
 have hts : (xs.map (tell n)).length = xs.length := by simp
 generalize hT2 : xs.map (tell n) = ts at *
 have HO : Hid (Own B w v l) := hO
 have HB : Hid (Fr B w w) := Fr.refl _ _
 have HT : Hid (Tab B w) := hT
 have HW : Hid (WriteOK n) := hW
 have HEl : Hid (∀ w1, Below B w w1 -> ∀ k (hk : k < xs.length), ∃ u, w1.cell? ⟨g, k, none⟩ = some u /\ St (fun c => B <= c) w1 n xs[k] u) := by
  intro w1 hb k hk
  have hu : vs[k]? = some (vs[k]'(by omega)) := List.getElem?_eq_getElem (by omega)
  exact ⟨_, by rw [hb.cell (p := ⟨g, k, none⟩) (hp k hk).2]; exact hcell k _ hu, (hel k xs[k] _ (List.getElem?_eq_getElem hk) hu).belowB hb⟩
 have HGo : Hid (∀ x ∈ xs, Fit n x) := hGo
 have HPp : Hid (∀ k, k < xs.length -> p = some ⟨g, 0, none⟩) := fun k hk => (hp k hk).1
 clear hp
 clear hO hT hW hcell hel hGo hT2 hte hln
 go_enter Tryz.func78, Tryz.ntmps78
 go_wp2_with (at_builtin; refine wpList_append_own _ rfl _ _ 95 rfl B 5 i0 (.int .u8 0) 1 1 Tryz.underlying95 hi hz0 hz1 hz2 rfl (by decide) _ _ _ rfl (World.ownsRow.alloc (HO.out) _) ⟨w.heap.size, 0, none⟩ 1 1 [.int .u8 91] rfl rfl (by exact news_at1 _ _ _) (by exact news_one1 _) (by unfold maxLen; omega) (by omega) (by have := HB.out.below.size; simp; omega) ?_)
 intro v' w1 hown' hgrow _
 have HO1 : Hid (Own B w1 v' (l ++ [91])) := own_snoc1 hown'
 have HB1 : Hid (Fr B w w1) := (HB.out.alloc (by have := HB.out.below.size; omega) _).own (World.ownsRow.alloc (HO.out) _) (by have := HB.out.below.size; simp; omega) hgrow
 clear hown' hgrow
 go_wp2_with fail
 go_loopw [0, 12] (fun x i wr => ∃ k : Nat, k <= xs.length /\ i = .int .i64 k /\ Own B wr x (l ++ 91 :: upTo ts k) /\ Fr B w wr) (fun _ i _ => xs.length - (intOf i).toNat)
 case atStart => exact ⟨0, Nat.zero_le _, rfl, by rw [upTo_zero]; exact HO1.out, HB1.out⟩
 case round =>
  obtain ⟨k, hk, rfl, hown, hbel⟩ := hrel
  have hul := upTo_len ts k
  have hlen : (l ++ 91 :: upTo ts k).length = l.length + 1 + (upTo ts k).length := by simp; omega
  obtain ⟨L, hL⟩ : ∃ L, L = l ++ 91 :: upTo ts k := ⟨_, rfl⟩
  rw [<- hL] at hlen hown
  have HL : Hid (L = l ++ 91 :: upTo ts k) := hL
  have HR : Hid (Own B wr u0 L) := hown
  have HRB : Hid (Fr B w wr) := hbel
  have HLen : Hid (L.length = l.length + 1 + (upTo ts k).length) := hlen
  have hBr : B <= wr.heap.size := by have := HRB.out.below.size; omega
  have hL6 : L.length + 1 <= 100000000 := by omega
  clear hown hbel hlen hL
  by_cases hlt : k < xs.length
  ·have hpe := HPp.out k hlt
   subst hpe
   obtain ⟨u, hcu, hst⟩ := HEl.out wr HRB.out.below k hlt
   have HSt : Hid (St (fun c => B <= c) wr n xs[k] u) := hst
   have hul2 := upTo_len ts (k + 1)
   have HTk : Hid (ts[k]? = some (tell n xs[k])) := HTs.out k hlt
   have hkt : k < ts.length := by omega
   have HTk2 : Hid (ts[k] = tell n xs[k]) := by
    have := HTk.out
    rw [List.getElem?_eq_getElem hkt] at this
    exact Option.some.inj this
   clear hst
   by_cases h0 : k = 0
   ·have HU : Hid (upTo ts (k + 1) = tell n xs[k]) := by
     show upTo ts (k + 1) = tell n xs[k]
     subst h0
     rw [upTo_one ts hkt]
     exact HTk2.out
    have HUl : Hid ((upTo ts (k + 1)).length = (tell n xs[k]).length) := congrArg List.length HU.out
    have HU0 : Hid (upTo ts k = []) := by show upTo ts k = []; rw [h0, upTo_zero]
    have hnk : ¬ (0 : Int) < (k : Int) := by omega
    clear h0
    go_wp2_with fail
    refine (HW.out B xs[k] u u0 L wr HSt.out (HGo.out _ (List.getElem_mem _)) HR.out hBr (HT.out.below HRB.out.below) (by have h1 := HUl.out; have h2 := HLen.out; rw [HU0.out] at h2; simp only [List.length_nil] at h2; omega)).mono ?_
    rintro e w2 ⟨v', rfl, hO2, hb2⟩
    have HO2 : Hid (Own B w2 v' (l ++ 91 :: upTo ts (k + 1))) := by
     rw [HL.out, HU0.out] at hO2
     show Own B w2 v' (l ++ 91 :: upTo ts (k + 1))
     rw [HU.out]
     simpa using hO2
    have HB2 : Hid (Fr B w w2) := HRB.out.trans hb2
    clear hO2 hb2
    go_wp2_with fail
    go_roundw
    case rel => exact ⟨k + 1, by omega, by go_num, HO2.out, HB2.out⟩
    case measure => simp [intOf]; omega
   ·have HU : Hid (upTo ts (k + 1) = upTo ts k ++ 44 :: tell n xs[k]) := by
     show upTo ts (k + 1) = upTo ts k ++ 44 :: tell n xs[k]
     rw [upTo_step ts k hkt (by omega), HTk2.out]
    have hUl : (upTo ts (k + 1)).length = (upTo ts k).length + 1 + (tell n xs[k]).length := by
     have := congrArg List.length HU.out
     simp at this
     omega
    have HUl : Hid ((upTo ts (k + 1)).length = (upTo ts k).length + 1 + (tell n xs[k]).length) := hUl
    have hnk : (0 : Int) < (k : Int) := by omega
    clear hUl h0
    go_wp2_with (at_builtin; refine wpList_append_own _ rfl _ _ 95 rfl B 5 i0 (.int .u8 0) 1 1 Tryz.underlying95 hi hz0 hz1 hz2 rfl (by decide) _ _ _ rfl (World.ownsRow.alloc (HR.out) _) ⟨wr.heap.size, 0, none⟩ 1 1 [.int .u8 44] rfl rfl (by exact news_at1 _ _ _) (by exact news_one1 _) (by unfold maxLen; omega) (by omega) (by have := HRB.out.below.size; simp; omega) ?_)
    intro v' w2 hown' hgrow _
    have HO2 : Hid (Own B w2 v' (L ++ [44])) := own_snoc1 hown'
    have HB2 : Hid (Fr B w w2) := (HRB.out.alloc (by have := HRB.out.below.size; omega) _).own (World.ownsRow.alloc (HR.out) _) (by have := HRB.out.below.size; simp; omega) hgrow
    have HZ2 : Hid (wr.heap.size <= w2.heap.size) := by have := hgrow.size; show wr.heap.size <= w2.heap.size; simp at this; omega
    clear hown' hgrow
    have HSt2 : Hid (St (fun c => B <= c) w2 n xs[k] u) := hSt_back HSt.out HRB.out.below HB2.out.below HZ2.out
    go_wp2_with fail
    refine (HW.out B xs[k] u v' (L ++ [44]) w2 HSt2.out (HGo.out _ (List.getElem_mem _)) HO2.out (by have := HB2.out.below.size; omega) (HT.out.below HB2.out.below) (by have h1 := HUl.out; have h2 := HLen.out; rw [List.length_append]; simp only [List.length_cons, List.length_nil]; omega)).mono ?_
    rintro e w3 ⟨v3, rfl, hO3, hb3⟩
    have HO3 : Hid (Own B w3 v3 (l ++ 91 :: upTo ts (k + 1))) := by
     show Own B w3 v3 (l ++ 91 :: upTo ts (k + 1))
     rw [HU.out]
     rw [HL.out] at hO3
     simpa using hO3
    have HB3 : Hid (Fr B w w3) := HB2.out.trans hb3
    clear hO3 hb3
    go_wp2_with fail
    go_roundw
    case rel => exact ⟨k + 1, by omega, by go_num, HO3.out, HB3.out⟩
    case measure => simp [intOf]; omega
  ·have HU : Hid (L ++ [93] = l ++ 91 :: (commas ts ++ [93])) := by
    show L ++ [93] = l ++ 91 :: (commas ts ++ [93])
    rw [HL.out, upTo_all ts k (by omega)]
    simp
   go_wp2_with (at_builtin; refine wpList_append_own _ rfl _ _ 95 rfl B 5 i0 (.int .u8 0) 1 1 Tryz.underlying95 hi hz0 hz1 hz2 rfl (by decide) _ _ _ rfl (World.ownsRow.alloc (HR.out) _) ⟨wr.heap.size, 0, none⟩ 1 1 [.int .u8 93] rfl rfl (by exact news_at1 _ _ _) (by exact news_one1 _) (by unfold maxLen; omega) (by omega) (by have := HRB.out.below.size; simp; omega) ?_)
   intro v' w2 hown' hgrow _
   have HO2 : Hid (Own B w2 v' (L ++ [93])) := own_snoc1 hown'
   have HB2 : Hid (Fr B w w2) := (HRB.out.alloc (by have := HRB.out.below.size; omega) _).own (World.ownsRow.alloc (HR.out) _) (by have := HRB.out.below.size; simp; omega) hgrow
   clear hown' hgrow
   go_wp2_with fail
   go_ret
   exact ⟨v', rfl, by rw [<- HU.out]; exact HO2.out, HB2.out⟩
set_option maxRecDepth 100000 in
set_option maxHeartbeats 8000000 in
theorem writeObject_any (n : Nat) (hW : WriteOK n) (B : Nat) (fs : List (Bs × J n)) (p : Option Addr) (g cap : Nat) (vs : List Value) (v : Value) (l : Bs) (w : World) (hvl : vs.length = fs.length) (hlc : fs.length <= cap) (hcm : cap <= maxLen) (hp : ∀ k, k < fs.length -> p = some ⟨g, 0, none⟩ /\ g < B)
  (hcell : ∀ (i : Nat) (f : Bs × J n) (u : Value), fs[i]? = some f -> vs[i]? = some u -> w.cell? ⟨g, i * 2, none⟩ = some (.string ⟨f.1.toArray⟩) /\ w.cell? ⟨g, i * 2 + 1, none⟩ = some u) (hel : ∀ (i : Nat) (f : Bs × J n) (u : Value), fs[i]? = some f -> vs[i]? = some u -> St (fun c => B <= c) w n f.2 u)
  (hGo : ∀ f ∈ fs, Fit n f.2) (hO : Own B w v l) (hB : B <= w.heap.size) (hT : Tab B w) (hlim : l.length + (tell (n + 1) (Sum.inr (Sum.inr fs))).length <= 100000000) (hx6 : fs.length <= 100000000) :
  Calls Tryz.prog 79 #[v, .slice p fs.length cap] w fun e w' => ∃ v', e = .returned v' /\ Own B w' v' (l ++ tell (n + 1) (Sum.inr (Sum.inr fs))) /\ Fr B w w' := by
 obtain ⟨i0, hi, hz0, hz1, hz2⟩ := info_parts info_u8
 unfold maxLen at hcm
 have hte : tell (n + 1) (Sum.inr (Sum.inr fs)) = 123 :: (commas (fs.map fun f => quote f.1 ++ 58 :: tell n f.2) ++ [125]) := rfl
 rw [hte] at hlim ⊢
 have hln : (123 :: (commas (fs.map fun f => quote f.1 ++ 58 :: tell n f.2) ++ [125])).length = (commas (fs.map fun f => quote f.1 ++ 58 :: tell n f.2)).length + 2 := by simp
 rw [hln] at hlim
 have HTs : Hid (∀ k (hk : k < fs.length), (fs.map fun f => quote f.1 ++ 58 :: tell n f.2)[k]? = some (quote fs[k].1 ++ 58 :: tell n fs[k].2)) := fun k hk => by simp [hk]
 have hts : (fs.map fun f => quote f.1 ++ 58 :: tell n f.2).length = fs.length := by simp
 generalize hT2 : (fs.map fun f => quote f.1 ++ 58 :: tell n f.2) = ts at *
 have HO : Hid (Own B w v l) := hO
 have HB : Hid (Fr B w w) := Fr.refl _ _
 have HT : Hid (Tab B w) := hT
 have HW : Hid (WriteOK n) := hW
 have HEl : Hid (∀ w1, Below B w w1 -> ∀ k (hk : k < fs.length), ∃ u, w1.cell? ⟨g, k * 2, none⟩ = some (.string ⟨fs[k].1.toArray⟩) /\ w1.cell? ⟨g, k * 2 + 1, none⟩ = some u /\ St (fun c => B <= c) w1 n fs[k].2 u) := by
  intro w1 hb k hk
  have hu : vs[k]? = some (vs[k]'(by omega)) := List.getElem?_eq_getElem (by omega)
  have hf : fs[k]? = some fs[k] := List.getElem?_eq_getElem hk
  have hc := hcell k _ _ hf hu
  exact ⟨_, by rw [hb.cell (p := ⟨g, k * 2, none⟩) (hp k hk).2]; exact hc.1, by rw [hb.cell (p := ⟨g, k * 2 + 1, none⟩) (hp k hk).2]; exact hc.2, (hel k fs[k] _ hf hu).belowB hb⟩
 have HGo : Hid (∀ k (hk : k < fs.length), Fit n fs[k].2) := fun k hk => hGo _ (List.getElem_mem hk)
 have HPp : Hid (∀ k, k < fs.length -> p = some ⟨g, 0, none⟩) := fun k hk => (hp k hk).1
 clear hp
 clear hO hT hW hcell hel hGo hT2 hte hln
 go_enter Tryz.func79, Tryz.ntmps79
 go_wp2_with (at_builtin; refine wpList_append_own _ rfl _ _ 95 rfl B 5 i0 (.int .u8 0) 1 1 Tryz.underlying95 hi hz0 hz1 hz2 rfl (by decide) _ _ _ rfl (World.ownsRow.alloc (HO.out) _) ⟨w.heap.size, 0, none⟩ 1 1 [.int .u8 123] rfl rfl (by exact news_at1 _ _ _) (by exact news_one1 _) (by unfold maxLen; omega) (by omega) (by have := HB.out.below.size; simp; omega) ?_)
 intro v' w1 hown' hgrow _
 have HO1 : Hid (Own B w1 v' (l ++ [123])) := own_snoc1 hown'
 have HB1 : Hid (Fr B w w1) := (HB.out.alloc (by have := HB.out.below.size; omega) _).own (World.ownsRow.alloc (HO.out) _) (by have := HB.out.below.size; simp; omega) hgrow
 clear hown' hgrow
 go_wp2_with fail
 go_loopw [0, 12] (fun x i wr => ∃ k : Nat, k <= fs.length /\ i = .int .i64 k /\ Own B wr x (l ++ 123 :: upTo ts k) /\ Fr B w wr) (fun _ i _ => fs.length - (intOf i).toNat)
 case atStart => exact ⟨0, Nat.zero_le _, rfl, by rw [upTo_zero]; exact HO1.out, HB1.out⟩
 case round =>
  obtain ⟨k, hk, rfl, hown, hbel⟩ := hrel
  have hul := upTo_len ts k
  have hlen : (l ++ 123 :: upTo ts k).length = l.length + 1 + (upTo ts k).length := by simp; omega
  obtain ⟨L, hL⟩ : ∃ L, L = l ++ 123 :: upTo ts k := ⟨_, rfl⟩
  rw [<- hL] at hlen hown
  have HL : Hid (L = l ++ 123 :: upTo ts k) := hL
  have HR : Hid (Own B wr u0 L) := hown
  have HRB : Hid (Fr B w wr) := hbel
  have HLen : Hid (L.length = l.length + 1 + (upTo ts k).length) := hlen
  have hBr : B <= wr.heap.size := by have := HRB.out.below.size; omega
  have hL6 : L.length + 1 <= 100000000 := by omega
  clear hown hbel hlen hL
  by_cases hlt : k < fs.length
  ·have hpe := HPp.out k hlt
   subst hpe
   obtain ⟨u, hcn, hcu, hst⟩ := HEl.out wr HRB.out.below k hlt
   have hul2 := upTo_len ts (k + 1)
   have hkt : k < ts.length := by omega
   have HTk2 : Hid (ts[k] = quote fs[k].1 ++ 58 :: tell n fs[k].2) := by
    have := HTs.out k hlt
    rw [List.getElem?_eq_getElem hkt] at this
    exact Option.some.inj this
   have HGk : Hid (Fit n fs[k].2) := HGo.out k hlt
   obtain ⟨T, x, rfl⟩ := st_iface hst
   have HSt : Hid (St (fun c => B <= c) wr n fs[k].2 (.iface T x)) := hst
   clear hst
   generalize hfk : fs[k] = f at *
   obtain ⟨nm, j⟩ := f
   simp only [] at *
   have HNw : Hid ((wr.alloc (.cells #[.string ⟨nm.toArray⟩, .iface T x] 86)).heap[wr.heap.size]? = some (.cells #[.string ⟨nm.toArray⟩, .iface T x] 86 (0, 0))) := heap_alloc_new wr _
   have HRa : Hid (Own B (wr.alloc (.cells #[.string ⟨nm.toArray⟩, .iface T x] 86)) u0 L) := World.ownsRow.alloc HR.out _
   have HFa : Hid (Fr B w (wr.alloc (.cells #[.string ⟨nm.toArray⟩, .iface T x] 86))) := HRB.out.alloc hBr _
   have HSa : Hid (St (fun c => B <= c) (wr.alloc (.cells #[.string ⟨nm.toArray⟩, .iface T x] 86)) n j (.iface T x)) := HSt.out.grown (World.grownBy_alloc wr _ none) (fun k e => by cases e)
   have hBa : B <= (wr.alloc (.cells #[.string ⟨nm.toArray⟩, .iface T x] 86)).heap.size := by simp; omega
   have hba : wr.heap.size < (wr.alloc (.cells #[.string ⟨nm.toArray⟩, .iface T x] 86)).heap.size := by simp
   by_cases h0 : k = 0
   ·have HU : Hid (upTo ts (k + 1) = quote nm ++ 58 :: tell n j) := by
     show upTo ts (k + 1) = quote nm ++ 58 :: tell n j
     subst h0
     rw [upTo_one ts hkt]
     exact HTk2.out
    have HU0 : Hid (upTo ts k = []) := by show upTo ts k = []; rw [h0, upTo_zero]
    have HLL : Hid (l ++ 123 :: upTo ts (k + 1) = L ++ (quote nm ++ 58 :: tell n j)) := by
     show l ++ 123 :: upTo ts (k + 1) = L ++ (quote nm ++ 58 :: tell n j)
     rw [HL.out, HU0.out, HU.out]
     simp
    have HBd : Hid (L.length + (quote nm).length + 1 + (tell n j).length <= 100000000) := by
     show L.length + (quote nm).length + 1 + (tell n j).length <= 100000000
     have h1 := congrArg List.length HU.out
     have h2 := HLen.out
     rw [HU0.out] at h2
     simp only [List.length_append, List.length_cons, List.length_nil] at h1 h2
     omega
    have hnk : ¬ (0 : Int) < (k : Int) := by omega
    clear h0
    have HLk : Hid (fs[k] = (nm, j)) := hfk
    clear hfk
    go_wp2_with fail
    generalize wr.alloc (.cells #[.string ⟨nm.toArray⟩, .iface T x] 86) = wa at *
    refine (writeQuoted_any B ⟨nm.toArray⟩ u0 (L) wa HRa.out (by have := HFa.out.below.size; omega) (by have h5 := HBd.out; (try simp only [List.length_append, List.length_cons, List.length_nil] at h5 ⊢); omega) (by have h5 := HBd.out; have h6 := quote_ge nm; (try simp only [List.length_append, List.length_cons, List.length_nil] at h5); simp [ByteArray.size]; omega)).mono ?_
    rintro e wq ⟨vq, rfl, hOq, hFq⟩
    obtain ⟨Lq, hLq⟩ : ∃ Lq, Lq = L ++ quote nm := ⟨_, rfl⟩
    have HLq : Hid (Lq = L ++ quote nm) := hLq
    have HOq : Hid (Own B wq vq Lq) := by rw [hLq]; exact hOq
    have HFq : Hid (Fr B w wq) := HFa.out.trans hFq
    have HBq : Hid (wq.heap[wr.heap.size]? = some (.cells #[.string ⟨nm.toArray⟩, .iface T x] 86 (0, 0))) := hFq.others _ _ HNw.out (fun e => by cases e) (fun c fz e => by cases e)
    have HSq : Hid (St (fun c => B <= c) wq n j (.iface T x)) := HSa.out.belowB hFq.below
    have hq6 : Lq.length + 1 + (tell n j).length <= 100000000 := by
     have h5 := HBd.out
     rw [hLq]
     simp only [List.length_append, List.length_cons, List.length_nil] at h5 ⊢
     omega
    have hqw : wr.heap.size < wq.heap.size := lt_of_block HBq.out
    clear hOq hFq hLq
    go_wp2_with (at_builtin; refine wpList_append_own _ rfl _ _ 95 rfl B 5 i0 (.int .u8 0) 1 1 Tryz.underlying95 hi hz0 hz1 hz2 rfl (by decide) _ _ _ rfl (World.ownsRow.alloc (HOq.out) _) ⟨wq.heap.size, 0, none⟩ 1 1 [.int .u8 58] rfl rfl ?p01 ?p02 ?p03 ?p04 ?p05 ?_)
    case p01 => exact news_at1 _ _ _
    case p02 => exact news_one1 _
    case p03 => unfold maxLen; omega
    case p04 => omega
    case p05 => have := HFq.out.below.size; simp; omega
    intro v' wc hown' hgrow _
    have HOc : Hid (Own B wc v' (Lq ++ [58])) := own_snoc1 hown'
    have HFc : Hid (Fr B w wc) := (HFq.out.alloc (by have := HFq.out.below.size; omega) _).own (World.ownsRow.alloc (HOq.out) _) (by have := HFq.out.below.size; simp; omega) hgrow
    have HBc : Hid (wc.heap[wr.heap.size]? = some (.cells #[.string ⟨nm.toArray⟩, .iface T x] 86 (0, 0))) := (((Fr.refl B wq).alloc (by have := HFq.out.below.size; omega) _).own (World.ownsRow.alloc HOq.out _) (by have := HFq.out.below.size; simp; omega) hgrow).others _ _ HBq.out (fun e => by cases e) (fun c fz e => by cases e)
    have HSc : Hid (St (fun c => B <= c) wc n j (.iface T x)) := hSt_back HSq.out HFq.out.below HFc.out.below (by have := hgrow.size; simp at this; omega)
    clear hown' hgrow
    have cb := cell_of_row _ _ 1 _ _ _ HBc.out
    have cb1 : wc.cell? ⟨wr.heap.size, 1, none⟩ = some (.iface T x) := cb
    clear cb
    go_wp2_with fail
    refine (HW.out B j (.iface T x) v' (Lq ++ [58]) wc HSc.out HGk.out HOc.out (by have := HFc.out.below.size; omega) (HT.out.below HFc.out.below) (by rw [List.length_append]; simp only [List.length_cons, List.length_nil]; omega)).mono ?_
    rintro e wz ⟨vz, rfl, hOz, hFz⟩
    have HOz : Hid (Own B wz vz (l ++ 123 :: upTo ts (k + 1))) := by
     show Own B wz vz (l ++ 123 :: upTo ts (k + 1))
     rw [HLq.out] at hOz
     rw [HLL.out]
     simpa using hOz
    have HFz : Hid (Fr B w wz) := HFc.out.trans hFz
    clear hOz hFz cb1
    go_wp2_with fail
    go_roundw
    case rel => exact ⟨k + 1, by omega, by go_num, HOz.out, HFz.out⟩
    case measure => simp [intOf]; omega
   ·have HU : Hid (upTo ts (k + 1) = upTo ts k ++ 44 :: (quote nm ++ 58 :: tell n j)) := by
     show upTo ts (k + 1) = upTo ts k ++ 44 :: (quote nm ++ 58 :: tell n j)
     rw [upTo_step ts k hkt (by omega), HTk2.out]
    have HLL : Hid (l ++ 123 :: upTo ts (k + 1) = L ++ [44] ++ (quote nm ++ 58 :: tell n j)) := by
     show l ++ 123 :: upTo ts (k + 1) = L ++ [44] ++ (quote nm ++ 58 :: tell n j)
     rw [HL.out, HU.out]
     simp
    have HBd : Hid ((L ++ [44]).length + (quote nm).length + 1 + (tell n j).length <= 100000000) := by
     show (L ++ [44]).length + (quote nm).length + 1 + (tell n j).length <= 100000000
     have h1 := congrArg List.length HU.out
     have h2 := HLen.out
     simp only [List.length_append, List.length_cons, List.length_nil] at h1 h2 ⊢
     omega
    have hnk : (0 : Int) < (k : Int) := by omega
    clear h0
    have HLk : Hid (fs[k] = (nm, j)) := hfk
    clear hfk
    go_wp2_with (at_builtin; refine wpList_append_own _ rfl _ _ 95 rfl B 5 i0 (.int .u8 0) 1 1 Tryz.underlying95 hi hz0 hz1 hz2 rfl (by decide) _ _ _ rfl (World.ownsRow.alloc (HRa.out) _) ⟨wr.heap.size + 1, 0, none⟩ 1 1 [.int .u8 44] rfl rfl ?f1 ?f2 ?f3 ?f4 ?f5 ?_)
    case f1 =>
     have := news_at1 (wr.alloc (.cells #[.string ⟨nm.toArray⟩, .iface T x] 86)) (.int .u8 44) 5
     simpa using this
    case f2 => exact news_one1 _
    case f3 => unfold maxLen; omega
    case f4 => omega
    case f5 => have := HFa.out.below.size; simp; omega
    intro v' w2 hown' hgrow _
    have HO2 : Hid (Own B w2 v' (L ++ [44])) := own_snoc1 hown'
    have HF2 : Hid (Fr B w w2) := (HFa.out.alloc (by have := HFa.out.below.size; omega) _).own (World.ownsRow.alloc (HRa.out) _) (by have := HFa.out.below.size; simp; omega) hgrow
    have HB2 : Hid (w2.heap[wr.heap.size]? = some (.cells #[.string ⟨nm.toArray⟩, .iface T x] 86 (0, 0))) := (((Fr.refl B _).alloc hBa _).own (World.ownsRow.alloc HRa.out _) (by simp; omega) hgrow).others _ _ HNw.out (fun e => by cases e) (fun c fz e => by cases e)
    have HS2 : Hid (St (fun c => B <= c) w2 n j (.iface T x)) := hSt_back HSa.out HFa.out.below HF2.out.below (by have := hgrow.size; simp at this ⊢; omega)
    clear hown' hgrow
    have cb := cell_of_row _ _ 0 _ _ _ HB2.out
    have cb0 : w2.cell? ⟨wr.heap.size, 0, none⟩ = some (.string ⟨nm.toArray⟩) := cb
    clear cb
    go_wp2_with fail
    refine (writeQuoted_any B ⟨nm.toArray⟩ v' (L ++ [44]) w2 HO2.out (by have := HF2.out.below.size; omega) (by have h5 := HBd.out; (try simp only [List.length_append, List.length_cons, List.length_nil] at h5 ⊢); omega) (by have h5 := HBd.out; have h6 := quote_ge nm; (try simp only [List.length_append, List.length_cons, List.length_nil] at h5); simp [ByteArray.size]; omega)).mono ?_
    rintro e wq ⟨vq, rfl, hOq, hFq⟩
    obtain ⟨Lq, hLq⟩ : ∃ Lq, Lq = L ++ [44] ++ quote nm := ⟨_, rfl⟩
    have HLq : Hid (Lq = L ++ [44] ++ quote nm) := hLq
    have HOq : Hid (Own B wq vq Lq) := by rw [hLq]; exact hOq
    have HFq : Hid (Fr B w wq) := HF2.out.trans hFq
    have HBq : Hid (wq.heap[wr.heap.size]? = some (.cells #[.string ⟨nm.toArray⟩, .iface T x] 86 (0, 0))) := hFq.others _ _ HB2.out (fun e => by cases e) (fun c fz e => by cases e)
    have HSq : Hid (St (fun c => B <= c) wq n j (.iface T x)) := HS2.out.belowB hFq.below
    have hq6 : Lq.length + 1 + (tell n j).length <= 100000000 := by
     have h5 := HBd.out
     rw [hLq]
     simp only [List.length_append, List.length_cons, List.length_nil] at h5 ⊢
     omega
    have hqw : wr.heap.size < wq.heap.size := lt_of_block HBq.out
    clear hOq hFq hLq
    go_wp2_with (at_builtin; refine wpList_append_own _ rfl _ _ 95 rfl B 5 i0 (.int .u8 0) 1 1 Tryz.underlying95 hi hz0 hz1 hz2 rfl (by decide) _ _ _ rfl (World.ownsRow.alloc (HOq.out) _) ⟨wq.heap.size, 0, none⟩ 1 1 [.int .u8 58] rfl rfl ?p11 ?p12 ?p13 ?p14 ?p15 ?_)
    case p11 => exact news_at1 _ _ _
    case p12 => exact news_one1 _
    case p13 => unfold maxLen; omega
    case p14 => omega
    case p15 => have := HFq.out.below.size; simp; omega
    intro v' wc hown' hgrow _
    have HOc : Hid (Own B wc v' (Lq ++ [58])) := own_snoc1 hown'
    have HFc : Hid (Fr B w wc) := (HFq.out.alloc (by have := HFq.out.below.size; omega) _).own (World.ownsRow.alloc (HOq.out) _) (by have := HFq.out.below.size; simp; omega) hgrow
    have HBc : Hid (wc.heap[wr.heap.size]? = some (.cells #[.string ⟨nm.toArray⟩, .iface T x] 86 (0, 0))) := (((Fr.refl B wq).alloc (by have := HFq.out.below.size; omega) _).own (World.ownsRow.alloc HOq.out _) (by have := HFq.out.below.size; simp; omega) hgrow).others _ _ HBq.out (fun e => by cases e) (fun c fz e => by cases e)
    have HSc : Hid (St (fun c => B <= c) wc n j (.iface T x)) := hSt_back HSq.out HFq.out.below HFc.out.below (by have := hgrow.size; simp at this; omega)
    clear hown' hgrow
    have cb := cell_of_row _ _ 1 _ _ _ HBc.out
    have cb1 : wc.cell? ⟨wr.heap.size, 1, none⟩ = some (.iface T x) := cb
    clear cb
    go_wp2_with fail
    refine (HW.out B j (.iface T x) v' (Lq ++ [58]) wc HSc.out HGk.out HOc.out (by have := HFc.out.below.size; omega) (HT.out.below HFc.out.below) (by rw [List.length_append]; simp only [List.length_cons, List.length_nil]; omega)).mono ?_
    rintro e wz ⟨vz, rfl, hOz, hFz⟩
    have HOz : Hid (Own B wz vz (l ++ 123 :: upTo ts (k + 1))) := by
     show Own B wz vz (l ++ 123 :: upTo ts (k + 1))
     rw [HLq.out] at hOz
     rw [HLL.out]
     simpa using hOz
    have HFz : Hid (Fr B w wz) := HFc.out.trans hFz
    clear hOz hFz cb1
    go_wp2_with fail
    go_roundw
    case rel => exact ⟨k + 1, by omega, by go_num, HOz.out, HFz.out⟩
    case measure => simp [intOf]; omega
  ·have HU : Hid (L ++ [125] = l ++ 123 :: (commas ts ++ [125])) := by
    show L ++ [125] = l ++ 123 :: (commas ts ++ [125])
    rw [HL.out, upTo_all ts k (by omega)]
    simp
   go_wp2_with (at_builtin; refine wpList_append_own _ rfl _ _ 95 rfl B 5 i0 (.int .u8 0) 1 1 Tryz.underlying95 hi hz0 hz1 hz2 rfl (by decide) _ _ _ rfl (World.ownsRow.alloc (HR.out) _) ⟨wr.heap.size, 0, none⟩ 1 1 [.int .u8 125] rfl rfl (by exact news_at1 _ _ _) (by exact news_one1 _) (by unfold maxLen; omega) (by omega) (by have := HRB.out.below.size; simp; omega) ?_)
   intro v' w2 hown' hgrow _
   have HO2 : Hid (Own B w2 v' (L ++ [125])) := own_snoc1 hown'
   have HB2 : Hid (Fr B w w2) := (HRB.out.alloc (by have := HRB.out.below.size; omega) _).own (World.ownsRow.alloc (HR.out) _) (by have := HRB.out.below.size; simp; omega) hgrow
   clear hown' hgrow
   go_wp2_with fail
   go_ret
   exact ⟨v', rfl, by rw [<- HU.out]; exact HO2.out, HB2.out⟩
theorem tell_len_list {n : Nat} (xs : List (J n)) : xs.length <= (tell (n + 1) (Sum.inr (Sum.inl xs))).length := by
 have h : ∀ ts : List Bs, ts.length <= (commas ts).length + 1 := by
  intro ts
  induction ts with
  | nil => simp
  | cons t r ih =>
   cases r with
   | nil => simp
   | cons u r =>
    simp only [commas, List.length_append, List.length_cons] at ih ⊢
    omega
 have h1 := h (xs.map (tell n))
 show xs.length <= (91 :: (commas (xs.map (tell n)) ++ [93])).length
 simp only [List.length_map, List.length_cons, List.length_append, List.length_nil] at h1 ⊢
 omega
theorem tell_len_obj {n : Nat} (fs : List (Bs × J n)) : fs.length <= (tell (n + 1) (Sum.inr (Sum.inr fs))).length := by
 have h : ∀ ts : List Bs, ts.length <= (commas ts).length + 1 := by
  intro ts
  induction ts with
  | nil => simp
  | cons t r ih =>
   cases r with
   | nil => simp
   | cons u r =>
    simp only [commas, List.length_append, List.length_cons] at ih ⊢
    omega
 have h1 := h (fs.map fun f => quote f.1 ++ 58 :: tell n f.2)
 show fs.length <= (123 :: (commas (fs.map fun f => quote f.1 ++ 58 :: tell n f.2) ++ [125])).length
 simp only [List.length_map, List.length_cons, List.length_append, List.length_nil] at h1 ⊢
 omega
set_option maxRecDepth 100000 in
set_option maxHeartbeats 2000000 in
theorem write_ok : ∀ n, WriteOK n
 | 0 => by
  intro B j x v l w hSt hG hO hB hT hlim
  have e : x = leafV j := hSt
  subst e
  exact write_leaf B j v l w hG hO hB hT hlim
 | n + 1 => by
  have hW := write_ok n
  intro B j x v l w hSt hG hO hB hT hlim
  match j, hSt, hG, hlim with
  | Sum.inl a, hSt, hG, hlim =>
   have e : x = leafV a := hSt
   subst e
   exact write_leaf B a v l w hG hO hB hT hlim
  | Sum.inr (Sum.inl xs), hSt, hG, hlim =>
   obtain ⟨p, g, cap, vs, rfl, hpp, hvl, hlc, hcm, hcell, hel⟩ := hSt.list
   have hL := writeList_any n hW B xs p g cap vs v l w hvl hlc hcm (fun k hk => ⟨(hpp k hk).1, by have := (hpp k hk).2.1; omega⟩) hcell hel hG hO hB hT hlim (by have := tell_len_list xs; omega)
   have HL : Hid (Calls Tryz.prog 78 #[v, .slice p xs.length cap] w fun e w' => ∃ v', e = .returned v' /\ Own B w' v' (l ++ tell (n + 1) (Sum.inr (Sum.inl xs))) /\ Fr B w w') := hL
   obtain ⟨a1, a2, a3, a4, a5, a6⟩ := tas_List
   clear hL hcell hel hG hO hT hlim hW hpp
   generalize tell (n + 1) (Sum.inr (Sum.inl xs)) = tl at *
   go_enter Tryz.func55, Tryz.ntmps55
   go_wp2_with fail
   refine Calls.mono HL.out ?_
   rintro e w1 ⟨v', rfl, hO, hb⟩
   have HO1 : Hid (Own B w1 v' (l ++ tl)) := hO
   have HB1 : Hid (Fr B w w1) := hb
   clear hO hb
   go_wp2_with fail
   go_ret
   exact ⟨v', rfl, HO1.out, HB1.out⟩
  | Sum.inr (Sum.inr fs), hSt, hG, hlim =>
   obtain ⟨p, g, cap, vs, rfl, hpp, hvl, hlc, hcm, hcell, hel⟩ := hSt.obj
   have hL := writeObject_any n hW B fs p g cap vs v l w hvl hlc hcm (fun k hk => ⟨(hpp k hk).1, by have := (hpp k hk).2.1; omega⟩) hcell hel hG hO hB hT hlim (by have := tell_len_obj fs; omega)
   have HL : Hid (Calls Tryz.prog 79 #[v, .slice p fs.length cap] w fun e w' => ∃ v', e = .returned v' /\ Own B w' v' (l ++ tell (n + 1) (Sum.inr (Sum.inr fs))) /\ Fr B w w') := hL
   obtain ⟨a1, a2, a3, a4, a5, a6⟩ := tas_Object
   clear hL hcell hel hG hO hT hlim hW hpp
   generalize tell (n + 1) (Sum.inr (Sum.inr fs)) = tl at *
   go_enter Tryz.func55, Tryz.ntmps55
   go_wp2_with fail
   refine Calls.mono HL.out ?_
   rintro e w1 ⟨v', rfl, hO, hb⟩
   have HO1 : Hid (Own B w1 v' (l ++ tl)) := hO
   have HB1 : Hid (Fr B w w1) := hb
   clear hO hb
   go_wp2_with fail
   go_ret
   exact ⟨v', rfl, HO1.out, HB1.out⟩
theorem text_any (n : Nat) (av : Nat -> Prop) (j : J n) (x : Value) (w : World) (hSt : St av w n j x) (hG : Fit n j) (hT : Tab w.heap.size w) (hlim : (tell n j).length <= 100000000) :
  Calls Tryz.prog 44 #[x] w fun e w' => e = .returned (.string ⟨(tell n j).toArray⟩) /\ Below w.heap.size w w' := by
 have hS2 : St (fun c => w.heap.size <= c) w n j x := hSt.wide (fun c hc => Or.inr hc)
 have HW := write_ok n w.heap.size j x (.slice none 0 0) [] w hS2 hG (Own.nil _ _) (Nat.le_refl _) hT (by simpa using hlim)
 have HL : Hid (Calls Tryz.prog 55 #[.slice none 0 0, x] w fun e w' => ∃ v', e = .returned v' /\ Own w.heap.size w' v' (tell n j) /\ Fr w.heap.size w w') := HW
 clear HW hS2 hSt hG hT hlim
 generalize tell n j = tl at *
 go_enter Tryz.func44, Tryz.ntmps44
 go_wp2_with fail
 refine Calls.mono HL.out ?_
 rintro e w1 ⟨v', rfl, hO, hb⟩
 have hcv := conv_own hO
 have HB1 : Hid (Below w.heap.size w w1) := hb.below
 clear hO hb
 go_wp2_with fail
 go_ret
 exact ⟨rfl, HB1.out⟩
end Go.Proofs.YtjcdklbimaclkaaGreatDoor
namespace Go.Proofs.YtjcdklbimaclkaaGreatDoor
set_option linter.unusedVariables false
set_option linter.unusedSimpArgs false
theorem skip_le : ∀ r : Bs, (skip r).length <= r.length
 | [] => Nat.le_refl _
 | c :: r => by
  rw [skip]
  split
  ·exact Nat.le_trans (skip_le r) (by simp)
  ·exact Nat.le_refl _
theorem hd_pos {r : Bs} {c : UInt8} (h : hd r = c) (h0 : c ≠ 0) : r.length = r.tail.length + 1 := by
 cases r with
 | nil => exact absurd h (by intro e; exact h0 e.symm)
 | cons x r => simp
theorem dec_len : ∀ (k u : Nat), 1 <= k -> u < 10 ^ k -> (Lib.decDigits u).length <= k
 | 0, u, h, _ => by omega
 | k + 1, u, _, hu => by
  rw [Lib.decDigits]
  split
  ·simp
  ·rename_i h10
   cases k with
   | zero => simp at hu; omega
   | succ k =>
    have := dec_len (k + 1) (u / 10) (by omega) (by rw [Nat.pow_succ] at hu; omega)
    simp only [List.length_append, List.length_cons, List.length_nil]
    omega
theorem leafE_short {r : Bs} {l : Leaf} {r' : Bs} (h : leafE r = .ok (l, r')) : (tellLeaf l).length + r'.length <= r.length := by
 have hw : ∀ (w : Bs) (a : Leaf), tellLeaf a = w -> word w r a = .ok (l, r') -> (tellLeaf l).length + r'.length <= r.length := by
  intro w a ha hw
  unfold word at hw
  split at hw
  ·rename_i hp
   cases hw
   have := (List.isPrefixOf_iff_prefix.1 hp).length_le
   rw [ha, List.length_drop]
   omega
  ·cases hw
 unfold leafE at h
 split at h
 ·exact hw nullB none rfl h
 ·split at h
  ·exact hw trueB (some (Sum.inl true)) rfl h
  ·split at h
   ·exact hw falseB (some (Sum.inl false)) rfl h
   ·split at h
    ·unfold textE at h
     cases hq : quoted r with
     | none => rw [hq] at h; cases h
     | some p =>
      rw [hq] at h
      cases h
      exact (quoted_meant hq).2
    ·unfold number at h
     simp only [] at h
     have hr1 : (if (hd r == 45) = true then r.tail else r).length + (if (hd r == 45) = true then 1 else 0) <= r.length := by
      split
      ·rename_i h45
       have := hd_pos (r := r) (c := 45) (by simpa using h45) (by decide)
       omega
      ·omega
     generalize (if (hd r == 45) = true then r.tail else r) = r1 at h hr1
     split at h
     ·cases h
     ·split at h
      ·cases h
      ·split at h
       ·cases h
       ·rename_i h1 h2 h3
        cases h
        show (Lib.itoa (numVal (hd r == 45) (r1.takeWhile isDigit))).length + (r1.dropWhile isDigit).length <= r.length
        have hdg : ∀ c ∈ r1.takeWhile isDigit, isDigit c = true := fun c hc => by
         have := List.all_takeWhile (p := isDigit) (l := r1)
         rw [List.all_eq_true] at this
         exact this c hc
        have hsum : (r1.takeWhile isDigit).length + (r1.dropWhile isDigit).length = r1.length := by
         have := congrArg List.length (List.takeWhile_append_dropWhile (p := isDigit) (l := r1))
         rw [List.length_append] at this
         exact this
        have hpos : 1 <= (r1.takeWhile isDigit).length := List.length_pos_iff.2 h1
        have hlt := decV_lt _ hdg
        have hdl := dec_len _ _ hpos hlt
        generalize r1.takeWhile isDigit = ds at *
        have hi : (Lib.itoa (numVal (hd r == 45) ds)).length <= ds.length + (if (hd r == 45) = true then 1 else 0) := by
         unfold Lib.itoa numVal
         cases hd r == 45 with
         | true =>
          simp only [if_true]
          split
          ·rename_i hneg
           have : (-(decV ds : Int)).natAbs = decV ds := by omega
           rw [this, List.length_cons]
           omega
          ·rename_i hneg
           have h0 : decV ds = 0 := by omega
           have : (-(decV ds : Int)).toNat = decV ds := by omega
           rw [this]
           omega
         | false =>
          have : ((decV ds : Nat) : Int).toNat = decV ds := by omega
          simp only [Bool.false_eq_true, if_false]
          rw [if_neg (by omega), this]
          omega
        omega
theorem commas_len : ∀ ts : List Bs, ts ≠ [] -> (commas ts).length + 1 = (ts.map fun t => t.length + 1).sum
 | [], h => absurd rfl h
 | [x], _ => by simp [commas]
 | x :: y :: r, _ => by
  have := commas_len (y :: r) (by simp)
  simp only [commas, List.map_cons, List.sum_cons, List.length_append, List.length_cons] at this ⊢
  omega
theorem rowGo_short {σ : Type} {z : UInt8} {one : σ -> Nat -> Bs -> Except Nat (σ × Nat × Bs)} {W : σ -> Nat} (hz : z ≠ 0) (h : ∀ s k r s' k' r', one s k r = .ok (s', k', r') -> W s' + r'.length <= W s + 1 + r.length /\ W s < W s') : ∀ (f : Nat) (s : σ) (k : Nat) (r : Bs) (s' : σ) (k' : Nat) (r' : Bs), rowGo z one f s k r = .ok (s', k', r') -> W s' + r'.length <= W s + r.length /\ W s < W s'
 | 0, s, k, r, s', k', r', e => by simp [rowGo] at e
 | f + 1, s, k, r, s', k', r', e => by
  rw [rowGo] at e
  cases ho : one s k r with
  | error er => rw [ho] at e; cases e
  | ok p =>
   obtain ⟨s1, k1, r1⟩ := p
   have h1 := h s k r s1 k1 r1 ho
   have h2 := skip_le r1
   rw [ho] at e
   simp only [] at e
   split at e
   ·rename_i hc
    have h3 := hd_pos hc hz
    cases e
    omega
   ·split at e
    ·rename_i hc
     have h3 := hd_pos hc (by decide)
     have h4 := rowGo_short hz h f s1 k1 _ s' k' r' e
     omega
    ·cases e
theorem row_short {σ : Type} {z : UInt8} {one : σ -> Nat -> Bs -> Except Nat (σ × Nat × Bs)} {W : σ -> Nat} (hz : z ≠ 0) (h : ∀ s k r s' k' r', one s k r = .ok (s', k', r') -> W s' + r'.length <= W s + 1 + r.length /\ W s < W s') (s : σ) (k : Nat) (r : Bs) (s' : σ) (k' : Nat) (r' : Bs) (hr : 0 < r.length) (e : row z one s k r = .ok (s', k', r')) : (s' = s /\ r'.length + 2 <= r.length) ∨ (W s' + r'.length + 1 <= W s + r.length /\ W s < W s') := by
 have ht : r.tail.length + 1 = r.length := by simp; omega
 have hsk := skip_le r.tail
 unfold row at e
 split at e
 ·rename_i hc
  have h3 := hd_pos hc hz
  cases e
  exact Or.inl ⟨rfl, by omega⟩
 ·have := rowGo_short hz h _ _ _ _ _ _ _ e
  exact Or.inr ⟨by omega, this.2⟩
theorem sum_insert {α : Type} (W : Bs × α -> Nat) (fs : List (Bs × α)) (nm : Bs) (v : α) : ((insertAt fs nm v).map W).sum = (fs.map W).sum + W (nm, v) := by
 rw [insert_eq]
 have h : (fs.map W).sum = ((fs.take (placeOfName fs nm)).map W).sum + ((fs.drop (placeOfName fs nm)).map W).sum := by
  rw [<- List.sum_append, <- List.map_append, List.take_append_drop]
 rw [List.map_append, List.sum_append, List.map_cons, List.sum_cons, h]
 omega
theorem value_short : ∀ (n : Nat) (k : Nat) (r : Bs) (j : J n) (k' : Nat) (r' : Bs), value n k r = .ok (j, k', r') -> (tell n j).length + r'.length <= r.length
 | 0, k, r, j, k', r', e => by
  have hsk := skip_le r
  rcases (value_cases e).2 with ⟨l, _, _, hl, hj, _⟩ | ⟨m, hm, _⟩ | ⟨m, hm, _⟩
  ·have := leafE_short hl
   have e1 : tell 0 j = tellLeaf l := by rw [hj]; rfl
   rw [e1]
   omega
  ·cases hm
  ·cases hm
 | n + 1, k, r, j, k', r', e => by
  have hsk := skip_le r
  rcases (value_cases e).2 with ⟨l, _, _, hl, rfl, _⟩ | ⟨m, hm, xs, hc, hr, hj⟩ | ⟨m, hm, fs, hc, hr, hj⟩
  ·have := leafE_short hl
   show (tellLeaf l).length + r'.length <= r.length
   omega
  ·cases hm
   subst hj
   have hp := hd_pos hc (by decide)
   show (91 :: (commas (xs.map (tell n)) ++ [93])).length + r'.length <= r.length
   simp only [List.length_cons, List.length_append, List.length_nil]
   rcases row_short (one := oneItem (value n)) (W := fun s => (s.map fun x => (tell n x).length + 1).sum) (by decide) (fun s k r s' k' r' ho => by
     obtain ⟨v, hv, rfl⟩ := oneItem_ok ho
     have := value_short n k r v k' r' hv
     simp only [List.map_append, List.sum_append, List.map_cons, List.map_nil, List.sum_cons, List.sum_nil]
     omega) _ _ _ _ _ _ (by omega) hr with ⟨h1, h2⟩ | ⟨h1, h2⟩
   ·subst h1
    simp [commas]
    omega
   ·by_cases h0 : xs = []
    ·rw [h0] at h2
     simp at h2
    ·have := commas_len (xs.map (tell n)) (by simpa using h0)
     simp only [List.map_map] at this
     have e1 : (xs.map ((fun t : Bs => t.length + 1) ∘ tell n)).sum = (xs.map fun x => (tell n x).length + 1).sum := rfl
     rw [e1] at this
     simp only [List.map_nil, List.sum_nil] at h1
     omega
  ·cases hm
   subst hj
   have hp := hd_pos hc (by decide)
   show (123 :: (commas (fs.map fun f => quote f.1 ++ 58 :: tell n f.2) ++ [125])).length + r'.length <= r.length
   simp only [List.length_cons, List.length_append, List.length_nil]
   rcases row_short (one := oneField (value n)) (W := fun s => (s.map fun f => (quote f.1 ++ 58 :: tell n f.2).length + 1).sum) (by decide) (fun s k r s' k' r' ho => by
     obtain ⟨nm, v, r1, hn, hv, rfl⟩ := oneField_ok ho
     obtain ⟨q, hq, _, h58, rfl⟩ := nameE_ok hn
     have h1 := value_short n k _ v k' r' hv
     have h2 := (quoted_meant hq).2
     have h3 := skip_le r
     have h4 := skip_le q
     have h5 := hd_pos h58 (by decide)
     rw [sum_insert]
     simp only [List.length_append, List.length_cons] at h2 ⊢
     omega) _ _ _ _ _ _ (by omega) hr with ⟨h1, h2⟩ | ⟨h1, h2⟩
   ·subst h1
    simp [commas]
    omega
   ·by_cases h0 : fs = []
    ·rw [h0] at h2
     simp at h2
    ·have := commas_len (fs.map fun f => quote f.1 ++ 58 :: tell n f.2) (by simpa using h0)
     rw [List.map_map] at this
     have e1 : (fs.map ((fun t : Bs => t.length + 1) ∘ fun f => quote f.1 ++ 58 :: tell n f.2)).sum = (fs.map fun f => (quote f.1 ++ 58 :: tell n f.2).length + 1).sum := rfl
     rw [e1] at this
     simp only [List.map_nil, List.sum_nil] at h1
     omega
theorem read_short {s : Bs} {j : J 10} (h : read s = .ok j) : (tell 10 j).length <= s.length /\ s.length <= 2000 := by
 unfold read at h
 split at h
 ·cases h
 ·rename_i h2
  cases hv : value 10 0 s with
  | error er => rw [hv] at h; cases h
  | ok p =>
   obtain ⟨j1, k1, r1⟩ := p
   rw [hv] at h
   simp only [] at h
   split at h
   ·cases h
    have := value_short 10 0 s j k1 r1 hv
    exact ⟨by omega, by omega⟩
   ·cases h
end Go.Proofs.YtjcdklbimaclkaaGreatDoor
namespace Go.Proofs.YtjcdklbimaclkaaGreatDoor
open Go.RowKit
set_option linter.unusedVariables false
set_option linter.unusedSimpArgs false
def ReadPost (s : Bs) (w : World) (e : Ending) (w' : World) : Prop :=
 Below w.heap.size w w' /\ ((∃ er : Nat, read s = .error er /\ er ≠ 0 /\ er < 100 /\ e = .returned (.tuple #[.nilIface, .int .i64 er])) ∨
  ∃ (j : J 10) (v : Value), read s = .ok j /\ e = .returned (.tuple #[v, .int .i64 0]) /\ (∃ T x, v = .iface T x) /\ St (fun c => c < w.heap.size) w' 10 j v)
theorem rest_zero (t : ByteArray) : rest t 0 = t.data.toList := by simp [rest]
theorem data_len (t : ByteArray) : t.data.toList.length = t.size := by simp
set_option maxRecDepth 100000 in
set_option maxHeartbeats 2000000 in
theorem read_any (t : ByteArray) (w : World) (hs : t.size <= maxLen) :
  Calls Tryz.prog 25 #[.string t] w (ReadPost t.data.toList w) := by
 unfold maxLen at hs
 by_cases hbig : (2000 : Int) < (t.size : Int)
 ·have HE : Hid (read t.data.toList = .error 2) := by
   show read t.data.toList = .error 2
   unfold read
   rw [if_pos (by rw [data_len]; omega)]
  go_enter Tryz.func25, Tryz.ntmps25
  go_wp2_with fail
  go_ret2
  exact ⟨Below.refl _ _, Or.inl ⟨2, HE.out, by decide, by decide, rfl⟩⟩
 have ht : t.size <= 2000 := by omega
 have HE : Hid (read t.data.toList = match value 10 0 (rest t 0) with
   | .error e => .error e
   | .ok (j, _, r) => if skip r = [] then .ok j else .error eSyntax) := by
  show read t.data.toList = _
  unfold read
  rw [if_neg (by rw [data_len]; omega), rest_zero]
  cases value 10 0 t.data.toList <;> rfl
 have HR : Hid (Rd w.heap.size t 0 0 (w.alloc (.cells #[.string t, .int .i64 0, .int .i64 0] 72))) := heap_alloc_new w _
 go_enter Tryz.func25, Tryz.ntmps25
 go_wp2_with fail
 refine (value_ok 10 w.heap.size t 0 0 0 _ HR.out (Nat.zero_le _) ht (by decide) (by decide) (by decide)).mono ?_
 rintro e w1 ⟨g1, h1⟩
 have HB1 : Hid (Below w.heap.size w w1) := below_of_new g1
 clear g1
 rcases h1 with ⟨er, v, hv, her, her2, rfl, hone⟩ | ⟨j, k', q, v, hv, hpq, hq, hkk, hk2, rfl, hone, hR, hst⟩
 ·have HV : Hid (value 10 0 (rest t 0) = .error er) := hv
  have hbe : ((er : Int) != 0) = true := by rw [bne_iff_ne]; omega
  clear hv
  go_wp2_with fail
  go_ret2
  exact ⟨HB1.out, Or.inl ⟨er, by rw [HE.out, HV.out], her, her2, rfl⟩⟩
 ·have HV : Hid (value 10 0 (rest t 0) = .ok (j, k', rest t q)) := hv
  have HR1 : Hid (Rd w.heap.size t q k' w1) := hR
  have HSt : Hid (St (fun c => c < w.heap.size + 1) w1 10 j v) := by show St (fun c => c < w.heap.size + 1) w1 10 j v; simpa using hst
  have HOne : Hid (∃ T x, v = .iface T x) := hone
  have HE2 : Hid (read t.data.toList = if skip (rest t q) = [] then .ok j else .error eSyntax) := by
   show read t.data.toList = _
   rw [HE.out, HV.out]
  clear hv hR hst hone
  go_wp2_with fail
  refine (skipBlanks_any w.heap.size t q k' _ HR1.out hq ht).mono ?_
  rintro e w2 ⟨rfl, g2, r2⟩
  have HB2 : Hid (Below w.heap.size w w2) := HB1.out.trans (below_of_G g2 HR1.out.lt)
  have HSt2 : Hid (St (fun c => c < w.heap.size) w2 10 j v) := ((HSt.out.grown g2 (fun k e => by cases e; show w.heap.size < w.heap.size + 1; omega)).mono (fun c _ hc => by show c < w.heap.size + 1; omega))
  have c1 := r2.place
  have hsl := skipAt_le t q
  have HSk : Hid (rest t (skipAt t q) = skip (rest t q)) := rest_skip t q hq
  clear g2 r2
  by_cases hend : skipAt t q < t.size
  ·have hI : ((skipAt t q : Nat) : Int) < (t.size : Int) := by omega
   have HN : Hid (skip (rest t q) ≠ []) := by
    show skip (rest t q) ≠ []
    rw [<- HSk.out, rest_cons hend]
    simp
   go_wp2_with fail
   go_ret2
   exact ⟨HB2.out, Or.inl ⟨3, by rw [HE2.out, if_neg HN.out], by decide, by decide, rfl⟩⟩
  ·have hI : ¬ ((skipAt t q : Nat) : Int) < (t.size : Int) := by omega
   have HN : Hid (skip (rest t q) = []) := by
    show skip (rest t q) = []
    rw [<- HSk.out, rest_nil (by omega)]
   go_wp2_with fail
   go_ret2
   exact ⟨HB2.out, Or.inr ⟨j, v, by rw [HE2.out, if_pos HN.out], rfl, HOne.out, HSt2.out⟩⟩
set_option maxRecDepth 100000 in
set_option maxHeartbeats 1000000 in
theorem kindOf_leaf (l : Leaf) (w : World) :
  Calls Tryz.prog 26 #[leafV l] w fun e w' => e = .returned (.int .i64 (kindLeaf l)) /\ w' = w := by
 match l with
 | none =>
  obtain ⟨a1, a2, a3, a4, a5, a6⟩ := tas_Null
  unfold leafV
  go_enter Tryz.func26, Tryz.ntmps26
  go_wp2_with fail
  go_ret
  exact ⟨rfl, rfl⟩
 | some (Sum.inl b) =>
  obtain ⟨a1, a2, a3, a4, a5, a6⟩ := tas_Bool
  unfold leafV
  go_enter Tryz.func26, Tryz.ntmps26
  go_wp2_with fail
  go_ret
  exact ⟨rfl, rfl⟩
 | some (Sum.inr (Sum.inl i)) =>
  obtain ⟨a1, a2, a3, a4, a5, a6⟩ := tas_Number
  unfold leafV
  go_enter Tryz.func26, Tryz.ntmps26
  go_wp2_with fail
  go_ret
  exact ⟨rfl, rfl⟩
 | some (Sum.inr (Sum.inr s)) =>
  obtain ⟨a1, a2, a3, a4, a5, a6⟩ := tas_Text
  unfold leafV
  go_enter Tryz.func26, Tryz.ntmps26
  go_wp2_with fail
  go_ret
  exact ⟨rfl, rfl⟩
set_option maxRecDepth 100000 in
set_option maxHeartbeats 1000000 in
theorem kindOf_list (x : Value) (w : World) :
  Calls Tryz.prog 26 #[.iface 78 x] w fun e w' => e = .returned (.int .i64 5) /\ w' = w := by
 obtain ⟨a1, a2, a3, a4, a5, a6⟩ := tas_List
 go_enter Tryz.func26, Tryz.ntmps26
 go_wp2_with fail
 go_ret
 exact ⟨rfl, rfl⟩
set_option maxRecDepth 100000 in
set_option maxHeartbeats 1000000 in
theorem kindOf_object (x : Value) (w : World) :
  Calls Tryz.prog 26 #[.iface 53 x] w fun e w' => e = .returned (.int .i64 6) /\ w' = w := by
 obtain ⟨a1, a2, a3, a4, a5, a6⟩ := tas_Object
 go_enter Tryz.func26, Tryz.ntmps26
 go_wp2_with fail
 go_ret
 exact ⟨rfl, rfl⟩
theorem kindOf_any : ∀ (n : Nat) (av : Nat -> Prop) (j : J n) (x : Value) (w : World), St av w n j x -> Calls Tryz.prog 26 #[x] w fun e w' => e = .returned (.int .i64 (kindJ n j)) /\ w' = w
 | 0, av, j, x, w, h => by
  have e : x = leafV j := h
  subst e
  exact kindOf_leaf j w
 | n + 1, av, Sum.inl l, x, w, h => by
  have e : x = leafV l := h
  subst e
  exact kindOf_leaf l w
 | n + 1, av, Sum.inr (Sum.inl xs), x, w, h => by
  obtain ⟨p, g, cap, vs, rfl, _⟩ := h.list
  exact kindOf_list _ w
 | n + 1, av, Sum.inr (Sum.inr fs), x, w, h => by
  obtain ⟨p, g, cap, vs, rfl, _⟩ := h.obj
  exact kindOf_object _ w
theorem St.ona {av : Nat -> Prop} {w w' : World} {n : Nat} {j : J n} {v : Value} (h : St av w n j v) (hb : Below w.heap.size w w') : St av w' n j v := h.step hb.size (fun c hc _ => hb.block c hc)
def OptV (av : Nat -> Prop) (w : World) (n : Nat) (o : Option (J n)) (v : Value) : Prop :=
 (o = none /\ v = .nilIface) ∨ ∃ (j : J n) (T : TypeId) (x : Value), o = some j /\ v = .iface T x /\ St av w n j (.iface T x)
theorem OptV.below {av : Nat -> Prop} {w w' : World} {n : Nat} {o : Option (J n)} {v : Value} (h : OptV av w n o v) (hb : Below w.heap.size w w') : OptV av w' n o v := by
 rcases h with h | ⟨j, T, x, h1, h2, h3⟩
 ·exact Or.inl h
 ·exact Or.inr ⟨j, T, x, h1, h2, h3.ona hb⟩
def Flds (av : Nat -> Prop) (w : World) (n : Nat) (fs : List (Bs × J n)) (v : Value) : Prop :=
 (fs = [] /\ ∃ p c, v = .slice p 0 c) ∨ ∃ g o cap, v = .slice (some ⟨g, o, none⟩) fs.length cap /\ fs.length <= cap /\ cap <= maxLen /\ ¬ av g /\ g < w.heap.size /\
  ∀ (i : Nat) (f : Bs × J n), fs[i]? = some f -> ∃ T x, w.cell? ⟨g, o + i * 2, none⟩ = some (.string ⟨f.1.toArray⟩) /\ w.cell? ⟨g, o + i * 2 + 1, none⟩ = some (.iface T x) /\ St av w n f.2 (.iface T x)
theorem Flds.move {av av' : Nat -> Prop} {w w' : World} {n : Nat} {fs : List (Bs × J n)} {v : Value} (h : Flds av w n fs v) (hs : w.heap.size <= w'.heap.size) (hb : ∀ c, c < w.heap.size -> ¬ av c -> w'.heap[c]? = w.heap[c]?) (ha : ∀ c, c < w.heap.size -> ¬ av c -> ¬ av' c) : Flds av' w' n fs v := by
 rcases h with h | ⟨g, o, cap, hv, h1, h2, h3, h4, h5⟩
 ·exact Or.inl h
 ·refine Or.inr ⟨g, o, cap, hv, h1, h2, ha g h4 h3, by omega, fun i f hf => ?_⟩
  obtain ⟨T, x, c1, c2, c3⟩ := h5 i f hf
  refine ⟨T, x, ?_, ?_, St.move hs hb ha n f.2 _ c3⟩
  ·rw [World.cell?_of_block (w := w) (w' := w') (a := ⟨g, o + i * 2, none⟩) (hb g h4 h3)]; exact c1
  ·rw [World.cell?_of_block (w := w) (w' := w') (a := ⟨g, o + i * 2 + 1, none⟩) (hb g h4 h3)]; exact c2
theorem Flds.below {av : Nat -> Prop} {w w' : World} {n : Nat} {fs : List (Bs × J n)} {v : Value} (h : Flds av w n fs v) (hb : Below w.heap.size w w') : Flds av w' n fs v :=
 h.move hb.size (fun c hc _ => hb.block c hc) (fun _ _ h => h)
theorem flds_of_st {av : Nat -> Prop} {w : World} {n : Nat} {fs : List (Bs × J n)} {v : Value} (h : St av w (n + 1) (Sum.inr (Sum.inr fs)) v) : ∃ p cap, v = .iface 53 (.slice p fs.length cap) /\ Flds av w n fs (.slice p fs.length cap) := by
 rcases h with ⟨rfl, rfl⟩ | ⟨g, cap, vs, hv, hl, hc, hm, hg, hlt, hcell, hel⟩
 ·exact ⟨none, 0, rfl, Or.inl ⟨rfl, none, 0, rfl⟩⟩
 ·refine ⟨_, cap, hv, Or.inr ⟨g, 0, cap, rfl, hc, hm, hg, hlt, fun i f hf => ?_⟩⟩
  have hi : i < fs.length := by
   rcases Nat.lt_or_ge i fs.length with h | h
   ·exact h
   ·rw [List.getElem?_eq_none h] at hf; cases hf
  have hu : vs[i]? = some (vs[i]'(by omega)) := List.getElem?_eq_getElem (by omega)
  have hs := hel i f _ hf hu
  obtain ⟨T, x, e⟩ := st_iface hs
  have hc2 := hcell i f _ hf hu
  rw [e] at hs hc2
  refine ⟨T, x, ?_, ?_, hs⟩
  ·rw [Nat.zero_add]; exact hc2.1
  ·rw [Nat.zero_add]; exact hc2.2
theorem Flds.form {av : Nat -> Prop} {w : World} {n : Nat} {fs : List (Bs × J n)} {v : Value} (h : Flds av w n fs v) : ∃ p cap, v = .slice p fs.length cap := by
 rcases h with ⟨rfl, p, c, h⟩ | ⟨g, o, cap, h, _⟩
 ·exact ⟨p, c, h⟩
 ·exact ⟨_, _, h⟩
theorem Flds.cons {av : Nat -> Prop} {w : World} {n : Nat} {f : Bs × J n} {r : List (Bs × J n)} {v : Value} (h : Flds av w n (f :: r) v) : ∃ g o cap T x, v = .slice (some ⟨g, o, none⟩) (r.length + 1) cap /\ r.length + 1 <= cap /\ cap <= maxLen /\ g < w.heap.size /\ w.cell? ⟨g, o, none⟩ = some (.string ⟨f.1.toArray⟩) /\ w.cell? ⟨g, o + 1, none⟩ = some (.iface T x) /\ St av w n f.2 (.iface T x) /\
  ∀ A, (A = ⟨g, o, none⟩ /\ cap = 1) ∨ A = ⟨g, o + 2, none⟩ -> Flds av w n r (.slice (some A) r.length (cap - 1)) := by
 rcases h with ⟨h, _⟩ | ⟨g, o, cap, hv, h1, h2, h3, h4, h5⟩
 ·cases h
 ·obtain ⟨T, x, c1, c2, c3⟩ := h5 0 f rfl
  rw [List.length_cons] at h1
  refine ⟨g, o, cap, T, x, hv, h1, h2, h4, by simpa using c1, by simpa using c2, c3, fun A hA => ?_⟩
  rcases hA with ⟨rfl, hc⟩ | rfl
  ·have : r = [] := List.eq_nil_of_length_eq_zero (by omega)
   subst this
   exact Or.inl ⟨rfl, _, _, rfl⟩
  ·refine Or.inr ⟨g, o + 2, cap - 1, rfl, by omega, by omega, h3, h4, fun i f' hf => ?_⟩
   obtain ⟨T', x', d1, d2, d3⟩ := h5 (i + 1) f' (by simpa using hf)
   have e : o + (i + 1) * 2 = o + 2 + i * 2 := by omega
   rw [e] at d1 d2
   exact ⟨T', x', d1, d2, d3⟩
theorem bytes_eq (a b : Bs) : ((⟨a.toArray⟩ : ByteArray).toList == (⟨b.toArray⟩ : ByteArray).toList) = decide (a = b) := by
 rw [ByteArray.toList_eq, ByteArray.toList_eq, Bool.eq_iff_iff, beq_iff_eq, decide_eq_true_iff]
theorem named_two (c : Prop) [Decidable c] (a b : Addr) : ∃ A, (if c then some a else some b) = some A /\ ((A = a /\ c) ∨ A = b) := by
 split
 ·rename_i h
  exact ⟨_, rfl, Or.inl ⟨rfl, h⟩⟩
 ·exact ⟨_, rfl, Or.inr rfl⟩
def TakePost (av : Nat -> Prop) {n : Nat} (fs : List (Bs × J n)) (nm : Bs) (w : World) (e : Ending) (w' : World) : Prop :=
 Below w.heap.size w w' /\ ∃ u v, e = .returned (.tuple #[u, v]) /\ OptV av w' n (takeV fs nm) u /\ Flds av w' n (takeR fs nm) v
set_option maxRecDepth 100000 in
set_option maxHeartbeats 1000000 in
theorem take_any (av : Nat -> Prop) {n : Nat} (fs : List (Bs × J n)) (nm : ByteArray) (v : Value) (w : World) (h : Flds av w n fs v) :
  Calls Tryz.prog 49 #[v, .string nm] w (TakePost av fs nm.data.toList w) := by
 cases fs with
 | nil =>
  obtain ⟨p, cap, rfl⟩ := h.form
  have HF : Hid (Flds av w n [] (.slice p 0 cap)) := h
  clear h
  go_enter Tryz.func49, Tryz.ntmps49
  go_wp2_with fail
  go_ret2
  exact ⟨Below.refl _ _, _, _, rfl, Or.inl ⟨rfl, rfl⟩, HF.out⟩
 | cons f r =>
  have HF0 : Hid (Flds av w n (f :: r) v) := h
  obtain ⟨g, o, cap, T, x, rfl, h1, h2, h4, c1, c2, c3, ht⟩ := h.cons
  obtain ⟨fn, fj⟩ := f
  simp only [] at c1 c3
  have hbe : ((⟨fn.toArray⟩ : ByteArray).toList == nm.toList) = decide (fn = nm.data.toList) := by
   rw [ByteArray.toList_eq, ByteArray.toList_eq, Bool.eq_iff_iff, beq_iff_eq, decide_eq_true_iff]
  unfold maxLen at h2
  clear h
  by_cases he : fn = nm.data.toList
  ·obtain ⟨A, hA, hA2⟩ := named_two (cap = 1) ⟨g, o, none⟩ ⟨g, o + 2, none⟩
   have hq : ((⟨fn.toArray⟩ : ByteArray).toList == nm.toList) = true := by rw [hbe]; exact decide_eq_true he
   have HV : Hid (takeV ((fn, fj) :: r) nm.data.toList = some fj) := if_pos he
   have HRr : Hid (takeR ((fn, fj) :: r) nm.data.toList = r) := if_pos he
   have HS : Hid (St av w.drew n fj (.iface T x)) := c3.ona (Below.refl _ _).drew
   have HT : Hid (Flds av w.drew n r (.slice (some A) r.length (cap - 1))) := (ht A hA2).below (Below.refl _ _).drew
   clear hbe he c3 ht HF0 hA2
   generalize (⟨fn.toArray⟩ : ByteArray) = fb at *
   generalize r.length = rl at *
   go_enter Tryz.func49, Tryz.ntmps49
   go_wp2_with fail
   go_region_with fail
   all_goals (go_wp2_with fail; go_ret2)
   all_goals exact ⟨(Below.refl _ _).drew, .iface T x, .slice (some A) rl (cap - 1), rfl, by rw [HV.out]; exact Or.inr ⟨_, _, _, rfl, rfl, HS.out⟩, by rw [HRr.out]; exact HT.out⟩
  ·have hq : ((⟨fn.toArray⟩ : ByteArray).toList == nm.toList) = false := by rw [hbe]; exact decide_eq_false he
   have HV : Hid (takeV ((fn, fj) :: r) nm.data.toList = none) := if_neg he
   have HRr : Hid (takeR ((fn, fj) :: r) nm.data.toList = (fn, fj) :: r) := if_neg he
   clear hbe he c3 ht
   generalize (⟨fn.toArray⟩ : ByteArray) = fb at *
   go_enter Tryz.func49, Tryz.ntmps49
   go_wp2_with fail
   go_ret2
   exact ⟨Below.refl _ _, _, _, rfl, by rw [HV.out]; exact Or.inl ⟨rfl, rfl⟩, by rw [HRr.out]; exact HF0.out⟩
theorem less_bytes : ∀ (a b : Bs), Op.bytesLess a b = less a b
 | [], [] => by simp [Op.bytesLess, less, Lib.compareBytes]
 | [], _ :: _ => by simp [Op.bytesLess, less, Lib.compareBytes]
 | _ :: _, [] => by simp [Op.bytesLess, less, Lib.compareBytes]
 | x :: a, y :: b => by
  have ih := less_bytes a b
  simp only [Op.bytesLess, less, Lib.compareBytes] at ih ⊢
  by_cases h1 : x < y
  ·simp [h1]
  ·by_cases h2 : y < x
   ·have h3 : (x == y) = false := by
     rw [beq_eq_false_iff_ne]
     rintro rfl
     exact h1 h2
    simp [h1, h2, h3]
   ·have h3 : x = y := UInt8.le_antisymm (UInt8.not_lt.1 h2) (UInt8.not_lt.1 h1)
    subst h3
    simp [ih]
theorem drewN_below {B : Nat} {a w : World} (h : Below B a w) (n : Nat) : Below B a (w.drewN n) := ⟨h.os, h.tape, h.output, h.size, h.block⟩
set_option maxRecDepth 100000 in
set_option maxHeartbeats 1000000 in
theorem firstName_any (av : Nat -> Prop) {n : Nat} (a b : List (Bs × J n)) (va vb : Value) (w : World) (ha : Flds av w n a va) (hb : Flds av w n b vb) (hne : a.length + b.length ≠ 0) :
  Calls Tryz.prog 48 #[va, vb] w fun e w' => e = .returned (.string ⟨(lowName a b).toArray⟩) /\ Below w.heap.size w w' := by
 cases a with
 | nil =>
  cases b with
  | nil => simp at hne
  | cons g b =>
   obtain ⟨p, cap, rfl⟩ := ha.form
   obtain ⟨gb, ob, capb, T, x, rfl, h1, h2, h4, c1, c2, c3, ht⟩ := hb.cons
   have HL : Hid (lowName [] (g :: b) = g.1) := rfl
   unfold maxLen at h2
   clear ha hb hne ht c3
   rw [HL.out]
   generalize (⟨g.1.toArray⟩ : ByteArray) = gn at *
   have hI : ((b.length : Int) + 1 == 0) = false := by rw [beq_eq_false_iff_ne]; omega
   go_enter Tryz.func48, Tryz.ntmps48
   go_wp2_with fail
   go_quiet (fail)
   go_wp2_with fail
   go_ret
   exact ⟨rfl, drewN_below (Below.refl _ _) _⟩
 | cons f a =>
  cases b with
  | nil =>
   obtain ⟨p, cap, rfl⟩ := hb.form
   obtain ⟨ga, oa, capa, T, x, rfl, h1, h2, h4, c1, c2, c3, ht⟩ := ha.cons
   have HL : Hid (lowName (f :: a) [] = f.1) := rfl
   unfold maxLen at h2
   clear ha hb hne ht c3
   rw [HL.out]
   generalize (⟨f.1.toArray⟩ : ByteArray) = fn at *
   go_enter Tryz.func48, Tryz.ntmps48
   go_wp2_with fail
   go_quiet (fail)
   go_wp2_with fail
   go_ret
   exact ⟨rfl, drewN_below (Below.refl _ _) _⟩
  | cons g b =>
   obtain ⟨ga, oa, capa, T, x, rfl, h1, h2, h4, c1, c2, c3, ht⟩ := ha.cons
   obtain ⟨gb, ob, capb, T', x', rfl, k1, k2, k4, d1, d2, d3, kt⟩ := hb.cons
   unfold maxLen at h2 k2
   clear ha hb hne ht c3 kt d3
   have hI : ((b.length : Int) + 1 == 0) = false := by rw [beq_eq_false_iff_ne]; omega
   have hJ : (0 : Int) < (a.length : Int) + 1 := by omega
   have hbl := less_bytes f.1 g.1
   by_cases hl : less f.1 g.1 = true
   ·have HL : Hid (lowName (f :: a) (g :: b) = f.1) := if_pos hl
    rw [hl] at hbl
    rw [HL.out]
    go_enter Tryz.func48, Tryz.ntmps48
    go_wp2_with fail
    go_quiet (fail)
    go_wp2_with fail
    go_ret
    exact ⟨rfl, drewN_below (Below.refl _ _) _⟩
   ·have HL : Hid (lowName (f :: a) (g :: b) = g.1) := if_neg hl
    rw [Bool.not_eq_true] at hl
    rw [hl] at hbl
    rw [HL.out]
    go_enter Tryz.func48, Tryz.ntmps48
    go_wp2_with fail
    go_quiet (fail)
    go_wp2_with fail
    go_ret
    exact ⟨rfl, drewN_below (Below.refl _ _) _⟩
end Go.Proofs.YtjcdklbimaclkaaGreatDoor
