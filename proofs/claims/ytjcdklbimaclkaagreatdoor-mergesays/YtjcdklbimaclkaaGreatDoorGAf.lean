import Derived.Test.YtjcdklbimaclkaaGreatDoorGAc
import Derived.Test.YtjcdklbimaclkaaGreatDoorGAd
import Derived.Test.YtjcdklbimaclkaaGreatDoorGAe
import Derived.Handy
namespace Go.Proofs.YtjcdklbimaclkaaGreatDoor
open Go.RowKit
set_option linter.unusedVariables false
set_option linter.unusedSimpArgs false
theorem setGo_len {α : Type} (nm : Bs) (v : α) : ∀ (fs : List (Bs × α)) (z : Bool), (setGo nm v z fs).length <= fs.length + (if z then 0 else 1)
 | [], z => by cases z <;> simp [setGo]
 | f :: r, z => by
  have ih := setGo_len nm v r (z || !less f.1 nm)
  simp only [setGo, List.length_append, List.length_cons]
  have h1 : (if f.1 = nm then ([] : List (Bs × α)) else [f]).length <= 1 := by split <;> simp
  cases z with
  | true =>
   rw [if_neg (by simp)]
   simp at ih ⊢
   omega
  | false =>
   cases hl : less f.1 nm with
   | true =>
    rw [hl] at ih
    rw [if_neg (by simp)]
    simp at ih ⊢
    omega
   | false =>
    rw [hl] at ih
    rw [if_pos (by simp)]
    simp at ih ⊢
    omega
theorem setF_len {α : Type} (fs : List (Bs × α)) (nm : Bs) (v : α) : (setF fs nm v).length <= fs.length + 1 := by
 have := setGo_len nm v fs false
 simpa [setF] using this
theorem drop_at {α : Type} {l : List α} {k : Nat} {x : α} (h : l[k]? = some x) : l.drop k = x :: l.drop (k + 1) := by
 have hk := (List.getElem?_eq_some_iff.1 h).1
 rw [List.drop_eq_getElem_cons hk]
 rw [List.getElem?_eq_getElem hk] at h
 cases h
 rfl
set_option maxRecDepth 100000 in
set_option maxHeartbeats 4000000 in
theorem rffind_none (dh : Hd) (nm : ByteArray) (pn : Option Addr) (cn : Nat) (pl : Option Addr) (nl cl : Nat) (w : World) :
  Calls Tryz.prog 33 #[rfV dh (.slice pn 0 cn) (.slice pl nl cl), .string nm] w fun e w' => Below w.heap.size w w' /\ e = .returned (.tuple #[rfV ⟨0, false, 0, []⟩ (.slice none 0 0) (.slice none 0 0), .bool false]) := by
 unfold rfV
 obtain ⟨w0, hw0⟩ : ∃ w0, w0 = (w.alloc (.cells #[.int .i64 dh.k, .bool dh.b, .int .i64 dh.i, .string ⟨dh.s.toArray⟩, .slice pn 0 cn, .slice pl nl cl] 38)).alloc (.cells #[.int .i64 0, .bool false, .int .i64 0, .string ⟨#[]⟩, .slice none 0 0, .slice none 0 0] 38) := ⟨_, rfl⟩
 have HB0 : Hid (Below w.heap.size w w0) := by
  show Below _ _ _
  rw [hw0]
  exact ((Below.refl _ _).alloc (Nat.le_refl _) _).alloc (by simp) _
 have HR0 : Hid (Box w0 (w.heap.size + 1) ⟨0, false, 0, []⟩ (.slice none 0 0) (.slice none 0 0)) := by
  show Box _ _ _ _ _
  have := box_new (w.alloc (.cells #[.int .i64 dh.k, .bool dh.b, .int .i64 dh.i, .string ⟨dh.s.toArray⟩, .slice pn 0 cn, .slice pl nl cl] 38)) ⟨0, false, 0, []⟩ (.slice none 0 0) (.slice none 0 0)
  rw [hw0]
  simpa using this
 have HW0 : Hid (w0 = (w.alloc (.cells #[.int .i64 dh.k, .bool dh.b, .int .i64 dh.i, .string ⟨dh.s.toArray⟩, .slice pn 0 cn, .slice pl nl cl] 38)).alloc (.cells #[.int .i64 0, .bool false, .int .i64 0, .string ⟨#[]⟩, .slice none 0 0, .slice none 0 0] 38)) := hw0
 clear hw0
 go_enter Tryz.func33, Tryz.ntmps33
 go_wp2
 rw [<- HW0.out]
 go_loopw [11] (fun i wr => i = .int .i64 0 /\ Below w.heap.size w wr /\ Box wr (w.heap.size + 1) ⟨0, false, 0, []⟩ (.slice none 0 0) (.slice none 0 0)) (fun i _ => 0)
 case atStart => exact ⟨rfl, HB0.out, HR0.out⟩
 case round =>
  obtain ⟨rfl, hB, hR⟩ := hrel
  have HB : Hid (Below w.heap.size w wr) := hB
  have HR : Hid (Box wr (w.heap.size + 1) ⟨0, false, 0, []⟩ (.slice none 0 0) (.slice none 0 0)) := hR
  clear hB hR HB0 HR0 HW0
  have f0 := HR.out.free 0
  have f1 := HR.out.free 1
  have f2 := HR.out.free 2
  have f3 := HR.out.free 3
  have f4 := HR.out.free 4
  have f5 := HR.out.free 5
  have r0 := HR.out.c0
  have r1 := HR.out.c1
  have r2 := HR.out.c2
  have r3 := HR.out.c3
  have r4 := HR.out.c4
  have r5 := HR.out.c5
  go_wp2_with fail
  have e6 := put6_box HR.out ⟨0, false, 0, []⟩ (.slice none 0 0) (.slice none 0 0)
  have b6 := put6_below HB.out (g := w.heap.size + 1) (by omega) HB.out.size (.int .i64 0) (.bool false) (.int .i64 0) (.string ⟨#[]⟩) (.slice none 0 0) (.slice none 0 0)
  change bodyPost _ _ _ _ _ (put6 wr (w.heap.size + 1) _ _ _ _ _ _)
  generalize put6 wr (w.heap.size + 1) (.int .i64 0) (.bool false) (.int .i64 0) (.string ⟨#[]⟩) (.slice none 0 0) (.slice none 0 0) = W at *
  exact bodyPost_ret (v := .tuple #[rfV ⟨0, false, 0, []⟩ (.slice none 0 0) (.slice none 0 0), .bool false]) (by simp [results, Tryz.results33, go_sem, rfV, e6.c0, e6.c1, e6.c2, e6.c3, e6.c4, e6.c5]) rfl ⟨b6, rfl⟩
theorem rffind_at {av : Nat -> Prop} {n : Nat} {dfs : List (Bs × J n)} {dh : Hd} {dn dl : Value} (nm : ByteArray) (w : World) (h : DAt av w dfs dh dn dl) :
  Calls Tryz.prog 33 #[rfV dh dn dl, .string nm] w fun e w' => Below w.heap.size w w' /\ ∃ v b, e = .returned (.tuple #[v, .bool b]) /\ b = (findF dfs nm.data.toList).isSome /\ ROpt av w n (findF dfs nm.data.toList) v := by
 rcases h.vals with ⟨rfl, hv⟩ | ⟨hk, rfl⟩
 ·refine (rffind_any _ dfs nm dn dl w h.names hv).mono ?_
  rintro e w1 ⟨b1, ⟨hf, rfl⟩ | ⟨x, v, hf, rfl, hs⟩⟩
  ·exact ⟨b1, _, _, rfl, by rw [hf]; rfl, by rw [hf]; rfl⟩
  ·exact ⟨b1, _, _, rfl, by rw [hf]; rfl, by rw [hf]; exact hs⟩
 ·obtain ⟨p, c, e1, _⟩ := h.names.form
  obtain ⟨q, k, d, rfl⟩ := h.shape
  simp at e1
  subst e1
  refine (rffind_none dh nm p c q k d w).mono ?_
  rintro e w1 ⟨b1, rfl⟩
  exact ⟨b1, _, _, rfl, rfl, rfl⟩
def IntoOK (n : Nat) : Prop := ∀ (av : Nat -> Prop) (d : Option (J n)) (j : J n) (dv v : Value) (w : World), (∀ c, w.heap.size <= c -> ¬ av c) -> ROpt av w n d dv -> RSt av w n j v -> (∀ x, d = some x -> nodes n x <= 1000) -> nodes n j <= 1000 ->
 Calls Tryz.prog 17 #[dv, v] w fun e w' => ∃ u, e = .returned u /\ RSt av w' n (intoP n d j) u /\ Below w.heap.size w w'
set_option maxRecDepth 100000 in
set_option maxHeartbeats 4000000 in
theorem into_else (dh h : Hd) (hk : h.k ≠ 6) (pd : Option Addr) (nd cd : Nat) (pe : Option Addr) (ne ce : Nat) (pn : Option Addr) (nn cn : Nat) (pl : Option Addr) (nl cl : Nat) (w : World) :
  Calls Tryz.prog 17 #[rfV dh (.slice pd nd cd) (.slice pe ne ce), rfV h (.slice pn nn cn) (.slice pl nl cl)] w fun e w' => e = .returned (rfV h (.slice pn nn cn) (.slice pl nl cl)) /\ Below w.heap.size w w' := by
 have hq : (((h.k : Int) != 6)) = true := by rw [bne_iff_ne]; omega
 unfold rfV
 have HR0 : Hid (Box (((w.alloc (.cells #[.int .i64 dh.k, .bool dh.b, .int .i64 dh.i, .string ⟨dh.s.toArray⟩, .slice pd nd cd, .slice pe ne ce] 38)).alloc (.cells #[.int .i64 h.k, .bool h.b, .int .i64 h.i, .string ⟨h.s.toArray⟩, .slice pn nn cn, .slice pl nl cl] 38)).alloc (.cells #[.int .i64 h.k, .bool h.b, .int .i64 h.i, .string ⟨h.s.toArray⟩, .slice pn nn cn, .slice pl nl cl] 38)) (w.heap.size + 1 + 1) h (.slice pn nn cn) (.slice pl nl cl)) := by
  show Box _ _ _ _ _
  have := box_new ((w.alloc (.cells #[.int .i64 dh.k, .bool dh.b, .int .i64 dh.i, .string ⟨dh.s.toArray⟩, .slice pd nd cd, .slice pe ne ce] 38)).alloc (.cells #[.int .i64 h.k, .bool h.b, .int .i64 h.i, .string ⟨h.s.toArray⟩, .slice pn nn cn, .slice pl nl cl] 38)) h (.slice pn nn cn) (.slice pl nl cl)
  simpa using this
 have HB0 : Hid (Below w.heap.size w (((w.alloc (.cells #[.int .i64 dh.k, .bool dh.b, .int .i64 dh.i, .string ⟨dh.s.toArray⟩, .slice pd nd cd, .slice pe ne ce] 38)).alloc (.cells #[.int .i64 h.k, .bool h.b, .int .i64 h.i, .string ⟨h.s.toArray⟩, .slice pn nn cn, .slice pl nl cl] 38)).alloc (.cells #[.int .i64 h.k, .bool h.b, .int .i64 h.i, .string ⟨h.s.toArray⟩, .slice pn nn cn, .slice pl nl cl] 38))) := (((Below.refl _ _).alloc (Nat.le_refl _) _).alloc (by simp) _).alloc (by simp; omega) _
 clear hk
 go_enter Tryz.func17, Tryz.ntmps17
 go_wp2_with fail
 generalize ((w.alloc (.cells #[.int .i64 dh.k, .bool dh.b, .int .i64 dh.i, .string ⟨dh.s.toArray⟩, .slice pd nd cd, .slice pe ne ce] 38)).alloc (.cells #[.int .i64 h.k, .bool h.b, .int .i64 h.i, .string ⟨h.s.toArray⟩, .slice pn nn cn, .slice pl nl cl] 38)).alloc (.cells #[.int .i64 h.k, .bool h.b, .int .i64 h.i, .string ⟨h.s.toArray⟩, .slice pn nn cn, .slice pl nl cl] 38) = W at *
 have e6 := HR0.out
 exact bodyPost_ret (v := rfV h (.slice pn nn cn) (.slice pl nl cl)) (by simp [results, Tryz.results17, go_sem, rfV, e6.c0, e6.c1, e6.c2, e6.c3, e6.c4, e6.c5]) rfl ⟨rfl, HB0.out⟩
theorem null_head : ∀ (n : Nat) (j : J n), isNullJ n j = decide ((headJ n j).k = 1)
 | 0, none => rfl
 | 0, some (Sum.inl _) => rfl
 | 0, some (Sum.inr (Sum.inl _)) => rfl
 | 0, some (Sum.inr (Sum.inr _)) => rfl
 | _ + 1, Sum.inl none => rfl
 | _ + 1, Sum.inl (some (Sum.inl _)) => rfl
 | _ + 1, Sum.inl (some (Sum.inr (Sum.inl _))) => rfl
 | _ + 1, Sum.inl (some (Sum.inr (Sum.inr _))) => rfl
 | _ + 1, Sum.inr (Sum.inl _) => rfl
 | _ + 1, Sum.inr (Sum.inr _) => rfl
structure IntoAt (av : Nat -> Prop) (w : World) (dh : Hd) (dn dl vn vl : Value) {n : Nat} (s : List (Bs × J n)) (un ul : Value) (wr : World) : Prop where
 out : OutAt (Loc av w.heap.size (w.heap.size + 4)) (w.heap.size + 1 + 1 + 1) s un ul wr
 bel : Below w.heap.size w wr
 d : Box wr w.heap.size dh dn dl
 v : Box wr (w.heap.size + 1) ⟨6, false, 0, []⟩ vn vl
 r : Box wr (w.heap.size + 1 + 1) ⟨0, false, 0, []⟩ (.slice none 0 0) (.slice none 0 0)
section
variable {av : Nat -> Prop} {w wr w' : World} {dh : Hd} {dn dl vn vl un ul un' ul' : Value} {n : Nat} {s s' : List (Bs × J n)}
theorem IntoAt.below (h : IntoAt av w dh dn dl vn vl s un ul wr) (g : Below wr.heap.size wr w') : IntoAt av w dh dn dl vn vl s un ul w' :=
 ⟨h.out.below g, h.bel.trans (g.mono h.bel.size), h.d.below g, h.v.below g, h.r.below g⟩
theorem IntoAt.alloc (h : IntoAt av w dh dn dl vn vl s un ul wr) (o : Obj) : IntoAt av w dh dn dl vn vl s un ul (wr.alloc o) := h.below ((Below.refl _ _).alloc (Nat.le_refl _) _)
theorem IntoAt.put (h : IntoAt av w dh dn dl vn vl s un ul wr) (hn : RStrs (Loc av w.heap.size (w.heap.size + 4)) wr (s'.map fun f => f.1) un') (hl : RVals (Loc av w.heap.size (w.heap.size + 4)) wr n (s'.map fun f => f.2) ul') :
  IntoAt av w dh dn dl vn vl s' un' ul' (put6 wr (w.heap.size + 1 + 1 + 1) (.int .i64 6) (.bool false) (.int .i64 0) (.string ⟨#[]⟩) un' ul') := by
 have g := put6_grown wr (w.heap.size + 1 + 1 + 1) (.int .i64 6) (.bool false) (.int .i64 0) (.string ⟨#[]⟩) un' ul'
 exact ⟨h.out.put hn hl, h.bel.grown g h.bel.size (fun k e => by cases e; omega), h.d.grown g (fun e => by have := Option.some.inj e; omega), h.v.grown g (fun e => by have := Option.some.inj e; omega), h.r.grown g (fun e => by have := Option.some.inj e; omega)⟩
end
def ILoop (av : Nat -> Prop) (w : World) (dh : Hd) (dn dl vn vl : Value) {n : Nat} (P : List (Bs × J n) -> Nat -> Prop) (m len : Nat) (i : Value) (wr : World) : Prop :=
 ∃ (k : Nat) (s : List (Bs × J n)) (un ul : Value), k <= len /\ i = .int .i64 k /\ P s k /\ s.length <= m + k /\ IntoAt av w dh dn dl vn vl s un ul wr
set_option maxRecDepth 100000 in
set_option maxHeartbeats 8000000 in
theorem into_obj (av : Nat -> Prop) (n : Nat) (ih : IntoOK n) (dfs fs : List (Bs × J n)) (dh : Hd) (dn dl vn vl : Value) (w : World) (hav : ∀ c, w.heap.size <= c -> ¬ av c) (hD : DAt av w dfs dh dn dl) (hN : RStrs av w (fs.map fun f => f.1) vn) (hL : RVals av w n (fs.map fun f => f.2) vl)
  (hdl : dfs.length <= 1000) (hdm : ∀ f ∈ dfs, nodes n f.2 <= 1000) (hfl : fs.length <= 1000) (hfm : ∀ f ∈ fs, nodes n f.2 <= 1000) :
  Calls Tryz.prog 17 #[rfV dh dn dl, rfV ⟨6, false, 0, []⟩ vn vl] w fun e w' => ∃ un ul, e = .returned (rfV ⟨6, false, 0, []⟩ un ul) /\ RStrs av w' ((putAll (isNullJ n) (intoP n) dfs fs (keepAll fs dfs [])).map fun f => f.1) un /\ RVals av w' n ((putAll (isNullJ n) (intoP n) dfs fs (keepAll fs dfs [])).map fun f => f.2) ul /\ Below w.heap.size w w' := by
 obtain ⟨pd, cd, hdn, hd1, hd2, hd3⟩ := hD.names.form
 obtain ⟨pe, ne, ce, hdlv⟩ := hD.shape
 obtain ⟨pn, cn, hvn, hn1, hn2, hn3⟩ := hN.form
 obtain ⟨pl, cl, hvl, hl1, hl2, hl3⟩ := hL.form
 rw [List.length_map] at hdn hd1 hvn hn1 hvl hl1
 subst hdn hdlv hvn hvl
 unfold maxLen at hd2 hn2 hl2
 have HFd : Hid (∀ (nm : ByteArray) (w1 : World), Below w.heap.size w w1 -> Calls Tryz.prog 33 #[rfV dh (.slice pd dfs.length cd) (.slice pe ne ce), .string nm] w1 fun e w' => Below w1.heap.size w1 w' /\ ∃ v b, e = .returned (.tuple #[v, .bool b]) /\ b = (findF dfs nm.data.toList).isSome /\ ROpt (Loc av w.heap.size (w.heap.size + 4)) w1 n (findF dfs nm.data.toList) v) := fun nm w1 b => rffind_at nm w1 (hD.loc b)
 have HFv : Hid (∀ (nm : ByteArray) (w1 : World), Below w.heap.size w w1 -> Calls Tryz.prog 33 #[rfV ⟨6, false, 0, []⟩ (.slice pn fs.length cn) (.slice pl fs.length cl), .string nm] w1 fun e w' => Below w1.heap.size w1 w' /\ ∃ v b, e = .returned (.tuple #[v, .bool b]) /\ b = (findF fs nm.data.toList).isSome /\ ROpt av w1 n (findF fs nm.data.toList) v) := fun nm w1 b => rffind_at nm w1 ⟨hN.below b, Or.inl ⟨rfl, hL.below b⟩, ⟨_, _, _, rfl⟩⟩
 have HD3 : Hid (∀ (i : Nat) (f : Bs × J n), dfs[i]? = some f -> ∃ g, pd = some ⟨g, 0, none⟩ /\ g < w.heap.size /\ w.cell? ⟨g, i, none⟩ = some (.string ⟨f.1.toArray⟩)) := fun i f h => hd3 i f.1 (by rw [List.getElem?_map, h]; rfl)
 have HN3 : Hid (∀ (i : Nat) (f : Bs × J n), fs[i]? = some f -> ∃ g, pn = some ⟨g, 0, none⟩ /\ g < w.heap.size /\ w.cell? ⟨g, i, none⟩ = some (.string ⟨f.1.toArray⟩)) := fun i f h => hn3 i f.1 (by rw [List.getElem?_map, h]; rfl)
 have HL3 : Hid (∀ (i : Nat) (f : Bs × J n), fs[i]? = some f -> ∃ g nm' l', pl = some ⟨g, 0, none⟩ /\ g < w.heap.size /\ Six w g (i * 6) (headJ n f.2) nm' l' /\ RSt av w n f.2 (rfV (headJ n f.2) nm' l')) := fun i f h => hl3 i f.2 (by rw [List.getElem?_map, h]; rfl)
 have HDm : Hid (∀ s x, findF dfs s = some x -> nodes n x <= 1000) := fun s x h => by
  rw [find_look] at h
  exact hdm _ (look_mem h)
 have HFm : Hid (∀ (i : Nat) (f : Bs × J n), fs[i]? = some f -> nodes n f.2 <= 1000) := fun i f h => hfm f (List.mem_of_getElem? h)
 have HIh : Hid (IntoOK n) := ih
 have HAv : Hid (∀ c, w.heap.size <= c -> ¬ av c) := hav
 obtain ⟨w0, hw0⟩ : ∃ w0, w0 = (((w.alloc (.cells #[.int .i64 dh.k, .bool dh.b, .int .i64 dh.i, .string ⟨dh.s.toArray⟩, .slice pd dfs.length cd, .slice pe ne ce] 38)).alloc (.cells #[.int .i64 6, .bool false, .int .i64 0, .string ⟨#[]⟩, .slice pn fs.length cn, .slice pl fs.length cl] 38)).alloc (.cells #[.int .i64 0, .bool false, .int .i64 0, .string ⟨#[]⟩, .slice none 0 0, .slice none 0 0] 38)).alloc (.cells #[.int .i64 6, .bool false, .int .i64 0, .string ⟨#[]⟩, .slice none 0 0, .slice none 0 0] 38) := ⟨_, rfl⟩
 have HI0 : Hid (IntoAt av w dh (.slice pd dfs.length cd) (.slice pe ne ce) (.slice pn fs.length cn) (.slice pl fs.length cl) ([] : List (Bs × J n)) (.slice none 0 0) (.slice none 0 0) w0) := by
  have x0 := ((box_new w dh (.slice pd dfs.length cd) (.slice pe ne ce)).alloc (.cells #[.int .i64 6, .bool false, .int .i64 0, .string ⟨#[]⟩, .slice pn fs.length cn, .slice pl fs.length cl] 38)).alloc (.cells #[.int .i64 0, .bool false, .int .i64 0, .string ⟨#[]⟩, .slice none 0 0, .slice none 0 0] 38) |>.alloc (.cells #[.int .i64 6, .bool false, .int .i64 0, .string ⟨#[]⟩, .slice none 0 0, .slice none 0 0] 38)
  have x1 := ((box_new (w.alloc (.cells #[.int .i64 dh.k, .bool dh.b, .int .i64 dh.i, .string ⟨dh.s.toArray⟩, .slice pd dfs.length cd, .slice pe ne ce] 38)) ⟨6, false, 0, []⟩ (.slice pn fs.length cn) (.slice pl fs.length cl)).alloc (.cells #[.int .i64 0, .bool false, .int .i64 0, .string ⟨#[]⟩, .slice none 0 0, .slice none 0 0] 38)).alloc (.cells #[.int .i64 6, .bool false, .int .i64 0, .string ⟨#[]⟩, .slice none 0 0, .slice none 0 0] 38)
  have x2 := (box_new ((w.alloc (.cells #[.int .i64 dh.k, .bool dh.b, .int .i64 dh.i, .string ⟨dh.s.toArray⟩, .slice pd dfs.length cd, .slice pe ne ce] 38)).alloc (.cells #[.int .i64 6, .bool false, .int .i64 0, .string ⟨#[]⟩, .slice pn fs.length cn, .slice pl fs.length cl] 38)) ⟨0, false, 0, []⟩ (.slice none 0 0) (.slice none 0 0)).alloc (.cells #[.int .i64 6, .bool false, .int .i64 0, .string ⟨#[]⟩, .slice none 0 0, .slice none 0 0] 38)
  have x3 := box_new (((w.alloc (.cells #[.int .i64 dh.k, .bool dh.b, .int .i64 dh.i, .string ⟨dh.s.toArray⟩, .slice pd dfs.length cd, .slice pe ne ce] 38)).alloc (.cells #[.int .i64 6, .bool false, .int .i64 0, .string ⟨#[]⟩, .slice pn fs.length cn, .slice pl fs.length cl] 38)).alloc (.cells #[.int .i64 0, .bool false, .int .i64 0, .string ⟨#[]⟩, .slice none 0 0, .slice none 0 0] 38)) ⟨6, false, 0, []⟩ (.slice none 0 0) (.slice none 0 0)
  show IntoAt _ _ _ _ _ _ _ _ _ _ _
  rw [hw0]
  refine ⟨⟨Or.inl ⟨rfl, rfl⟩, Or.inl ⟨rfl, rfl⟩, by simpa using x3, Or.inr ⟨by omega, by omega⟩, fun c hc e => by
   simp at hc
   rcases e with e | e
   ·exact hav c (by omega) e
   ·omega⟩, ?_, by simpa using x0, by simpa using x1, by simpa using x2⟩
  exact ((((Below.refl _ _).alloc (Nat.le_refl _) _).alloc (by simp) _).alloc (by simp; omega) _).alloc (by simp; omega) _
 have HW0 : Hid (w0 = (((w.alloc (.cells #[.int .i64 dh.k, .bool dh.b, .int .i64 dh.i, .string ⟨dh.s.toArray⟩, .slice pd dfs.length cd, .slice pe ne ce] 38)).alloc (.cells #[.int .i64 6, .bool false, .int .i64 0, .string ⟨#[]⟩, .slice pn fs.length cn, .slice pl fs.length cl] 38)).alloc (.cells #[.int .i64 0, .bool false, .int .i64 0, .string ⟨#[]⟩, .slice none 0 0, .slice none 0 0] 38)).alloc (.cells #[.int .i64 6, .bool false, .int .i64 0, .string ⟨#[]⟩, .slice none 0 0, .slice none 0 0] 38)) := hw0
 have HV := hD.vals
 clear hw0 hD hN hL hd3 hn3 hl3 hdm hfm ih
 rcases HV with ⟨hdh, hE⟩ | ⟨hk, hdf⟩
 ·obtain ⟨pe', ce', he0, he1, he2, he3⟩ := hE.form
  rw [List.length_map] at he0 he1
  cases he0
  unfold maxLen at he2
  have HE3 : Hid (∀ (i : Nat) (f : Bs × J n), dfs[i]? = some f -> ∃ g nm' l', pe = some ⟨g, 0, none⟩ /\ g < w.heap.size /\ Six w g (i * 6) (headJ n f.2) nm' l' /\ RSt av w n f.2 (rfV (headJ n f.2) nm' l')) := fun i f h => he3 i f.2 (by rw [List.getElem?_map, h]; rfl)
  subst hdh
  clear hE he3
  unfold rfV
  have HW6 : Hid (w0 = (((w.alloc (.cells #[.int .i64 6, .bool false, .int .i64 0, .string ⟨#[]⟩, .slice pd dfs.length cd, .slice pe dfs.length ce] 38)).alloc (.cells #[.int .i64 6, .bool false, .int .i64 0, .string ⟨#[]⟩, .slice pn fs.length cn, .slice pl fs.length cl] 38)).alloc (.cells #[.int .i64 0, .bool false, .int .i64 0, .string ⟨#[]⟩, .slice none 0 0, .slice none 0 0] 38)).alloc (.cells #[.int .i64 6, .bool false, .int .i64 0, .string ⟨#[]⟩, .slice none 0 0, .slice none 0 0] 38)) := HW0.out
  go_enter Tryz.func17, Tryz.ntmps17
  go_wp2_with fail
  rw [<- HW6.out]
  go_loopw [25] (fun i wr => ILoop av w ⟨6, false, 0, []⟩ (.slice pd dfs.length cd) (.slice pe dfs.length ce) (.slice pn fs.length cn) (.slice pl fs.length cl) (fun s k => keepAll fs dfs [] = keepAll fs (dfs.drop k) s) 0 dfs.length i wr) (fun i _ => dfs.length - (intOf i).toNat)
  case atStart => exact ⟨0, [], _, _, Nat.zero_le _, rfl, rfl, Nat.zero_le _, HI0.out⟩
  case round =>
   obtain ⟨k, s, un, ul, hk, rfl, hP, hsl, hI⟩ := hrel
   obtain ⟨⟨pu, cu, rfl⟩, pq, cq, rfl⟩ := hI.out.shape
   have HP : Hid (keepAll fs dfs [] = keepAll fs (dfs.drop k) s) := hP
   have HI : Hid (IntoAt av w ⟨6, false, 0, []⟩ (.slice pd dfs.length cd) (.slice pe dfs.length ce) (.slice pn fs.length cn) (.slice pl fs.length cl) s (.slice pu s.length cu) (.slice pq s.length cq) wr) := hI
   clear hP hI HI0 HW0
   by_cases hlt : k < dfs.length
   ·obtain ⟨f, hfk⟩ : ∃ f, dfs[k]? = some f := ⟨dfs[k], List.getElem?_eq_getElem hlt⟩
    obtain ⟨g, rfl, hg, hgc⟩ := HD3.out k f hfk
    obtain ⟨ge, nm', l', rfl, hge, h6, hst⟩ := HE3.out k f hfk
    obtain ⟨⟨q1, m1, e1, rfl⟩, q2, m2, e2, rfl⟩ := rst_sl hst
    obtain ⟨nb, hnb⟩ : ∃ nb : ByteArray, nb = ⟨f.1.toArray⟩ := ⟨_, rfl⟩
    have hnl : nb.data.toList = f.1 := by rw [hnb]
    have n1 : wr.cell? ⟨g, k, none⟩ = some (.string nb) := by rw [hnb]; exact (HI.out.bel.cell (p := ⟨g, k, none⟩) hg).trans hgc
    have HK : Hid (dfs[k]? = some f) := hfk
    have HX : Hid (∀ w', Below w.heap.size w w' -> Six w' ge (k * 6) (headJ n f.2) (.slice q1 m1 e1) (.slice q2 m2 e2)) := fun w' b => h6.keep (b.block ge hge)
    have HSt : Hid (∀ w', Below w.heap.size w w' -> RSt (Loc av w.heap.size (w.heap.size + 4)) w' n f.2 (rfV (headJ n f.2) (.slice q1 m1 e1) (.slice q2 m2 e2))) := fun w' b => hst.loc b
    have HSet : Hid (∀ (W : World) (uv : Value), IntoAt av w ⟨6, false, 0, []⟩ (.slice (some ⟨g, 0, none⟩) dfs.length cd) (.slice (some ⟨ge, 0, none⟩) dfs.length ce) (.slice pn fs.length cn) (.slice pl fs.length cl) s (.slice pu s.length cu) (.slice pq s.length cq) W -> RSt (Loc av w.heap.size (w.heap.size + 4)) W n f.2 uv -> Calls Tryz.prog 34 #[rfV ⟨6, false, 0, []⟩ (.slice pu s.length cu) (.slice pq s.length cq), .string nb, uv] W (SetPost (Loc av w.heap.size (w.heap.size + 4)) s f.1 f.2 W)) := fun W uv hW hu => by
     have h9 := rfset_any (Loc av w.heap.size (w.heap.size + 4)) s nb f.2 _ _ uv W hW.out.names hW.out.vals hu hW.out.free (by omega)
     rw [hnl] at h9
     exact h9
    have HF : Hid _ := HFv.out nb wr HI.out.bel
    have v0 := HI.out.v.c0
    have v1 := HI.out.v.c1
    have v2 := HI.out.v.c2
    have v3 := HI.out.v.c3
    have v4 := HI.out.v.c4
    have v5 := HI.out.v.c5
    have hkI : (k : Int) < (dfs.length : Int) := by omega
    rw [hnl] at HF
    clear hgc hfk h6 hst hnb
    unfold rfV at HF HSet
    go_wp2_with fail
    refine Calls.mono HF.out ?_
    rintro e w5 ⟨b5, v, b, rfl, hb, hv⟩
    obtain ⟨xh, p1, k1, c1, p2, k2, c2, rfl⟩ := hv.form
    have HI5 : Hid _ := HI.out.below b5
    clear b5 hv HF v0 v1 v2 v3 v4 v5 n1
    unfold rfV
    cases hfind : (findF fs f.1).isSome with
    | true =>
     rw [hfind] at hb
     subst hb
     have HPn : Hid (keepAll fs dfs [] = keepAll fs (dfs.drop (k + 1)) s) := by
      show _ = _
      rw [HP.out, drop_at HK.out]
      show keepAll fs _ (if (findF fs f.1).isSome = true then s else _) = _
      rw [hfind, if_pos rfl]
     go_wp2_with fail
     go_roundw
     case rel =>
      have hrelN : ILoop av w ⟨6, false, 0, []⟩ (.slice _ dfs.length cd) (.slice _ dfs.length ce) (.slice pn fs.length cn) (.slice pl fs.length cl) (fun s k => keepAll fs dfs [] = keepAll fs (dfs.drop k) s) 0 dfs.length (.int .i64 ((k : Int) + 1)) (w5.alloc (.cells #[.int .i64 xh.k, .bool xh.b, .int .i64 xh.i, .string ⟨xh.s.toArray⟩, .slice p1 k1 c1, .slice p2 k2 c2] 38)) := ⟨k + 1, s, _, _, by omega, by go_num, HPn.out, by omega, HI5.out.alloc _⟩
      first | exact hrelN | ((repeat apply Exists.intro); refine ⟨hrelN, ?_⟩; first | rfl | exact ⟨rfl, rfl⟩ | exact ⟨rfl, rfl, rfl⟩ | exact ⟨rfl, rfl, rfl, rfl⟩)
     case measure => (simp [intOf]; omega)
    | false =>
     rw [hfind] at hb
     subst hb
     have HPn : Hid (keepAll fs dfs [] = keepAll fs (dfs.drop (k + 1)) (setF s f.1 f.2)) := by
      show _ = _
      rw [HP.out, drop_at HK.out]
      show keepAll fs _ (if (findF fs f.1).isSome = true then s else _) = _
      rw [hfind, if_neg (by simp)]
     go_wp2_with fail
     have HIa : Hid _ := HI5.out.alloc (.cells #[.int .i64 xh.k, .bool xh.b, .int .i64 xh.i, .string ⟨xh.s.toArray⟩, .slice p1 k1 c1, .slice p2 k2 c2] 38)
     generalize w5.alloc (.cells #[.int .i64 xh.k, .bool xh.b, .int .i64 xh.i, .string ⟨xh.s.toArray⟩, .slice p1 k1 c1, .slice p2 k2 c2] 38) = wa at *
     have hHeld : Below wa.heap.size wa wa.drew := (Below.refl _ _).drew
     refine M_begin 8 9 (fun w' => Below wa.heap.size wa w') (by kernel_rfl) rfl ?_
     refine M_takeA 0 (v := ?vv1) rfl hHeld (Or.inl ⟨by rfl, ?hy1⟩) ?_
     case hy1 => (intro w' hSw; have hI := HIa.out.below hSw; have o0 := hI.out.o.c0; have o1 := hI.out.o.c1; have o2 := hI.out.o.c2; have o3 := hI.out.o.c3; have o4 := hI.out.o.c4; have o5 := hI.out.o.c5; go_simp; try (with_reducible rfl))
     try simp only [Act.put, List.setIfInBounds_toArray, List.set_cons_zero, List.set_cons_succ]
     refine M_takeA 1 (v := ?vv2) rfl hHeld (Or.inl ⟨by rfl, ?hy2⟩) ?_
     case hy2 => (intro w' hSw; go_simp; try (with_reducible rfl))
     try simp only [Act.put, List.setIfInBounds_toArray, List.set_cons_zero, List.set_cons_succ]
     refine M_takeA 2 (v := ?vv3) rfl hHeld (Or.inl ⟨by rfl, ?hy3⟩) ?_
     case hy3 => (intro w' hSw; have hI := HIa.out.below hSw; have d5 := hI.d.c5; go_simp; try (with_reducible rfl))
     try simp only [Act.put, List.setIfInBounds_toArray, List.set_cons_zero, List.set_cons_succ]
     refine M_takeA 3 (v := ?vv4) rfl hHeld (Or.inl ⟨by rfl, ?hy4⟩) ?_
     case hy4 => (intro w' hSw; have hI := HIa.out.below hSw; have d5 := hI.d.c5; go_simp; try (with_reducible rfl))
     try simp only [Act.put, List.setIfInBounds_toArray, List.set_cons_zero, List.set_cons_succ]
     refine M_takeA 4 (v := ?vv5) rfl hHeld (Or.inl ⟨by rfl, ?hy5⟩) ?_
     case hy5 => (intro w' hSw; go_simp; try (with_reducible rfl))
     try simp only [Act.put, List.setIfInBounds_toArray, List.set_cons_zero, List.set_cons_succ]
     refine M_takeA 5 (v := ?vv6) rfl hHeld (Or.inl ⟨by rfl, ?hy6⟩) ?_
     case hy6 => (intro w' hSw; go_simp; try (with_reducible rfl))
     try simp only [Act.put, List.setIfInBounds_toArray, List.set_cons_zero, List.set_cons_succ]
     refine M_takeA 6 (v := ?vv7) rfl hHeld (Or.inl ⟨by rfl, ?hy7⟩) ?_
     case hy7 => (intro w' hSw; obtain ⟨x0, x1, x2, x3, x4, x5⟩ := HX.out w' (HIa.out.below hSw).bel; go_simp; try (with_reducible rfl))
     try simp only [Act.put, List.setIfInBounds_toArray, List.set_cons_zero, List.set_cons_succ]
     refine M_ready [7] (by kernel_rfl) (by decide) ?_
     refine AllM.cons (i := 7) rfl (fun K hK => ?_) AllM.nil
     rw [if_pos (by rfl)]
     go_wp2_with fail
     refine Calls.mono (HSet.out _ _ (HIa.out.below hHeld) (HSt.out _ (HIa.out.below hHeld).bel)) ?_
     rintro e x2 ⟨b2, un2, ul2, rfl, hn2, hl2⟩
     obtain ⟨pu2, cu2, hpu, _⟩ := hn2.form
     obtain ⟨pq2, cq2, hpq, _⟩ := hl2.form
     rw [List.length_map] at hpu hpq
     subst hpu hpq
     unfold rfV
     dsimp only
     refine hK.out _ _ (hHeld.trans (b2.mono hHeld.size)) (fun hHeld => ?_)
     clear hK K
     try simp only [Act.put, List.setIfInBounds_toArray, List.set_cons_zero, List.set_cons_succ]
     refine M_tail [{ dst := none, op := Op.store 38 (Operand.tmp 5) (Operand.tmp 45), type := 0, pos := "docs.go:16", after := #[{ on := 7, ground := Ground.data }, { on := 7, ground := Ground.chain }, { on := 0, ground := Ground.phase }, { on := 1, ground := Ground.phase }, { on := 2, ground := Ground.phase }, { on := 3, ground := Ground.phase }, { on := 4, ground := Ground.phase }, { on := 5, ground := Ground.phase }, { on := 6, ground := Ground.phase }, { on := 7, ground := Ground.phase }], guard := none }] rfl (by kernel_rfl) (by kernel_rfl) ?_
     have hIx := HIa.out.below hHeld
     have o0 := hIx.out.o.c0
     have o1 := hIx.out.o.c1
     have o2 := hIx.out.o.c2
     have o3 := hIx.out.o.c3
     have o4 := hIx.out.o.c4
     have o5 := hIx.out.o.c5
     have f0 := hIx.out.o.free 0
     have f1 := hIx.out.o.free 1
     have f2 := hIx.out.o.free 2
     have f3 := hIx.out.o.free 3
     have f4 := hIx.out.o.free 4
     have f5 := hIx.out.o.free 5
     have HPut : Hid _ := hIx.put hn2 hl2
     have hsl2 := setF_len s f.1 f.2
     clear hIx hHeld hn2 hl2 b2
     go_wp2_with fail
     go_roundw
     case rel =>
      have hrelN : ILoop av w ⟨6, false, 0, []⟩ (.slice _ dfs.length cd) (.slice _ dfs.length ce) (.slice pn fs.length cn) (.slice pl fs.length cl) (fun s k => keepAll fs dfs [] = keepAll fs (dfs.drop k) s) 0 dfs.length (.int .i64 ((k : Int) + 1)) _ := ⟨k + 1, setF s f.1 f.2, _, _, by omega, by go_num, by exact HPn.out, by omega, HPut.out⟩
      first | exact hrelN | ((repeat apply Exists.intro); refine ⟨hrelN, ?_⟩; first | rfl | exact ⟨rfl, rfl⟩ | exact ⟨rfl, rfl, rfl⟩ | exact ⟨rfl, rfl, rfl, rfl⟩ | exact ⟨rfl, rfl, rfl, rfl, rfl⟩)
     case measure => (simp [intOf]; omega)
   ·have HKe : Hid (keepAll fs dfs [] = s) := by
     show _ = _
     rw [HP.out, List.drop_eq_nil_of_le (by omega)]
     rfl
    have v4 := HI.out.v.c4
    clear HP HE3
    go_wp2_with fail
    go_loopw [50] (fun i wr => ILoop av w ⟨6, false, 0, []⟩ (.slice pd dfs.length cd) (.slice pe dfs.length ce) (.slice pn fs.length cn) (.slice pl fs.length cl) (fun s k => putAll (isNullJ n) (intoP n) dfs fs (keepAll fs dfs []) = putAll (isNullJ n) (intoP n) dfs (fs.drop k) s) dfs.length fs.length i wr) (fun i _ => fs.length - (intOf i).toNat)
    case atStart => exact ⟨0, s, _, _, Nat.zero_le _, rfl, by rw [HKe.out]; rfl, by omega, HI.out⟩
    case round =>
     obtain ⟨k, s, un, ul, hk, rfl, hP, hsl, hI⟩ := hrel
     obtain ⟨⟨pu, cu, rfl⟩, pq, cq, rfl⟩ := hI.out.shape
     have HP : Hid (putAll (isNullJ n) (intoP n) dfs fs (keepAll fs dfs []) = putAll (isNullJ n) (intoP n) dfs (fs.drop k) s) := hP
     have HI : Hid (IntoAt av w ⟨6, false, 0, []⟩ (.slice pd dfs.length cd) (.slice pe dfs.length ce) (.slice pn fs.length cn) (.slice pl fs.length cl) s (.slice pu s.length cu) (.slice pq s.length cq) wr) := hI
     clear hP hI
     by_cases hlt : k < fs.length
     ·obtain ⟨f, hfk⟩ : ∃ f, fs[k]? = some f := ⟨fs[k], List.getElem?_eq_getElem hlt⟩
      obtain ⟨g, rfl, hg, hgc⟩ := HN3.out k f hfk
      obtain ⟨ge, nm', l', rfl, hge, h6, hst⟩ := HL3.out k f hfk
      obtain ⟨⟨q1, m1, e1, rfl⟩, q2, m2, e2, rfl⟩ := rst_sl hst
      obtain ⟨nb, hnb⟩ : ∃ nb : ByteArray, nb = ⟨f.1.toArray⟩ := ⟨_, rfl⟩
      have hnl : nb.data.toList = f.1 := by rw [hnb]
      have n1 : wr.cell? ⟨g, k, none⟩ = some (.string nb) := by rw [hnb]; exact (HI.out.bel.cell (p := ⟨g, k, none⟩) hg).trans hgc
      have HK : Hid (fs[k]? = some f) := hfk
      have HX : Hid (∀ w', Below w.heap.size w w' -> Six w' ge (k * 6) (headJ n f.2) (.slice q1 m1 e1) (.slice q2 m2 e2)) := fun w' b => h6.keep (b.block ge hge)
      have HSt : Hid (∀ w', Below w.heap.size w w' -> RSt (Loc av w.heap.size (w.heap.size + 4)) w' n f.2 (rfV (headJ n f.2) (.slice q1 m1 e1) (.slice q2 m2 e2))) := fun w' b => hst.loc b
      have v5 := HI.out.v.c5
      obtain ⟨x0, x1, x2, x3, x4, x5⟩ := HX.out wr HI.out.bel
      have hkI : (k : Int) < (fs.length : Int) := by omega
      have hnul := null_head n f.2
      have hnx := HFm.out k f hfk
      clear hgc hfk h6 hst hnb
      cases hnull : isNullJ n f.2 with
      | true =>
       rw [hnull] at hnul
       have hz : (((headJ n f.2).k : Int) == 1) = true := by
        have := of_decide_eq_true hnul.symm
        rw [this]
        rfl
       have HPn : Hid (putAll (isNullJ n) (intoP n) dfs fs (keepAll fs dfs []) = putAll (isNullJ n) (intoP n) dfs (fs.drop (k + 1)) s) := by
        show _ = _
        rw [HP.out, drop_at HK.out]
        show putAll _ _ _ _ (if isNullJ n f.2 = true then s else _) = _
        rw [hnull, if_pos rfl]
       clear hnul
       go_wp2_with fail
       go_roundw
       case rel =>
        have hrelN : ILoop av w ⟨6, false, 0, []⟩ (.slice pd dfs.length cd) (.slice pe dfs.length ce) (.slice _ fs.length cn) (.slice _ fs.length cl) (fun s k => putAll (isNullJ n) (intoP n) dfs fs (keepAll fs dfs []) = putAll (isNullJ n) (intoP n) dfs (fs.drop k) s) dfs.length fs.length (.int .i64 ((k : Int) + 1)) wr := ⟨k + 1, s, _, _, by omega, by go_num, HPn.out, by omega, HI.out⟩
        first | exact hrelN | ((repeat apply Exists.intro); refine ⟨hrelN, ?_⟩; first | rfl | exact ⟨rfl, rfl⟩ | exact ⟨rfl, rfl, rfl⟩ | exact ⟨rfl, rfl, rfl, rfl⟩)
       case measure => (simp [intOf]; omega)
      | false =>
       rw [hnull] at hnul
       have hz : (((headJ n f.2).k : Int) == 1) = false := by
        have := of_decide_eq_false hnul.symm
        rw [beq_eq_false_iff_ne]
        omega
       have HPn : Hid (putAll (isNullJ n) (intoP n) dfs fs (keepAll fs dfs []) = putAll (isNullJ n) (intoP n) dfs (fs.drop (k + 1)) (setF s f.1 (intoP n (findF dfs f.1) f.2))) := by
        show _ = _
        rw [HP.out, drop_at HK.out]
        show putAll _ _ _ _ (if isNullJ n f.2 = true then s else _) = _
        rw [hnull, if_neg (by simp)]
       clear hnul
       have HSet : Hid (∀ (W : World) (uv : Value), IntoAt av w ⟨6, false, 0, []⟩ (.slice pd dfs.length cd) (.slice pe dfs.length ce) (.slice (some ⟨g, 0, none⟩) fs.length cn) (.slice (some ⟨ge, 0, none⟩) fs.length cl) s (.slice pu s.length cu) (.slice pq s.length cq) W -> RSt (Loc av w.heap.size (w.heap.size + 4)) W n (intoP n (findF dfs f.1) f.2) uv -> Calls Tryz.prog 34 #[rfV ⟨6, false, 0, []⟩ (.slice pu s.length cu) (.slice pq s.length cq), .string nb, uv] W (SetPost (Loc av w.heap.size (w.heap.size + 4)) s f.1 (intoP n (findF dfs f.1) f.2) W)) := fun W uv hW hu => by
        have h9 := rfset_any (Loc av w.heap.size (w.heap.size + 4)) s nb (intoP n (findF dfs f.1) f.2) _ _ uv W hW.out.names hW.out.vals hu hW.out.free (by omega)
        rw [hnl] at h9
        exact h9
       have HF : Hid (∀ w1 : World, Below w.heap.size w w1 -> Calls Tryz.prog 33 #[rfV ⟨6, false, 0, []⟩ (.slice pd dfs.length cd) (.slice pe dfs.length ce), .string nb] w1 fun e w' => Below w1.heap.size w1 w' /\ ∃ v b, e = .returned (.tuple #[v, .bool b]) /\ b = (findF dfs nb.data.toList).isSome /\ ROpt (Loc av w.heap.size (w.heap.size + 4)) w1 n (findF dfs nb.data.toList) v) := fun w1 b => HFd.out nb w1 b
       have HInto : Hid (∀ (W : World) (wv : Value), IntoAt av w ⟨6, false, 0, []⟩ (.slice pd dfs.length cd) (.slice pe dfs.length ce) (.slice (some ⟨g, 0, none⟩) fs.length cn) (.slice (some ⟨ge, 0, none⟩) fs.length cl) s (.slice pu s.length cu) (.slice pq s.length cq) W -> ROpt (Loc av w.heap.size (w.heap.size + 4)) W n (findF dfs f.1) wv -> Calls Tryz.prog 17 #[wv, rfV (headJ n f.2) (.slice q1 m1 e1) (.slice q2 m2 e2)] W fun e w' => ∃ u, e = .returned u /\ RSt (Loc av w.heap.size (w.heap.size + 4)) w' n (intoP n (findF dfs f.1) f.2) u /\ Below W.heap.size W w') := fun W wv hW ho => HIh.out _ (findF dfs f.1) f.2 wv _ W hW.out.free ho (HSt.out W hW.bel) (HDm.out f.1) hnx
       rw [hnl] at HF
       have d0 := HI.out.d.c0
       have d1 := HI.out.d.c1
       have d2 := HI.out.d.c2
       have d3 := HI.out.d.c3
       have d4 := HI.out.d.c4
       have d5 := HI.out.d.c5
       unfold rfV at HF HSet HInto
       go_wp2_with fail
       refine Calls.mono (HF.out wr HI.out.bel) ?_
       rintro e w5 ⟨b5, v, b, rfl, hb, hv⟩
       obtain ⟨xh, p1, k1, c1, p2, k2, c2, rfl⟩ := hv.form
       have HI5 : Hid _ := HI.out.below b5
       have HO5 : Hid (∀ w', Below w5.heap.size w5 w' -> ROpt (Loc av w.heap.size (w.heap.size + 4)) w' n (findF dfs f.1) (rfV xh (.slice p1 k1 c1) (.slice p2 k2 c2))) := fun w' bb => (hv.below b5).below bb
       clear b5 hv HF d0 d1 d2 d3 d4 d5 n1 x0 x1 x2 x3 x4 x5 v5 hb
       unfold rfV at HO5 ⊢
       go_wp2_with fail
       have HIa : Hid _ := HI5.out.alloc (.cells #[.int .i64 xh.k, .bool xh.b, .int .i64 xh.i, .string ⟨xh.s.toArray⟩, .slice p1 k1 c1, .slice p2 k2 c2] 38)
       have HWb : Hid (Box (w5.alloc (.cells #[.int .i64 xh.k, .bool xh.b, .int .i64 xh.i, .string ⟨xh.s.toArray⟩, .slice p1 k1 c1, .slice p2 k2 c2] 38)) w5.heap.size xh (.slice p1 k1 c1) (.slice p2 k2 c2)) := box_new w5 xh _ _
       have HOa : Hid (∀ w', Below (w5.alloc (.cells #[.int .i64 xh.k, .bool xh.b, .int .i64 xh.i, .string ⟨xh.s.toArray⟩, .slice p1 k1 c1, .slice p2 k2 c2] 38)).heap.size (w5.alloc (.cells #[.int .i64 xh.k, .bool xh.b, .int .i64 xh.i, .string ⟨xh.s.toArray⟩, .slice p1 k1 c1, .slice p2 k2 c2] 38)) w' -> ROpt (Loc av w.heap.size (w.heap.size + 4)) w' n (findF dfs f.1) (.agg #[.int .i64 xh.k, .bool xh.b, .int .i64 xh.i, .string ⟨xh.s.toArray⟩, .slice p1 k1 c1, .slice p2 k2 c2])) := fun w' bb => (HO5.out _ ((Below.refl _ _).alloc (Nat.le_refl _) _)).below bb
       generalize w5.alloc (.cells #[.int .i64 xh.k, .bool xh.b, .int .i64 xh.i, .string ⟨xh.s.toArray⟩, .slice p1 k1 c1, .slice p2 k2 c2] 38) = wa at *
       have hHeld : Below wa.heap.size wa wa.drew := (Below.refl _ _).drew
       refine M_begin 10 11 (fun w' => Below wa.heap.size wa w') (by kernel_rfl) rfl ?_
       refine M_takeA 0 (v := ?vv8) rfl hHeld (Or.inl ⟨by rfl, ?hy8⟩) ?_
       case hy8 => (intro w' hSw; have hI := HIa.out.below hSw; have o0 := hI.out.o.c0; have o1 := hI.out.o.c1; have o2 := hI.out.o.c2; have o3 := hI.out.o.c3; have o4 := hI.out.o.c4; have o5 := hI.out.o.c5; go_simp; try (with_reducible rfl))
       try simp only [Act.put, List.setIfInBounds_toArray, List.set_cons_zero, List.set_cons_succ]
       refine M_takeA 1 (v := ?vv9) rfl hHeld (Or.inl ⟨by rfl, ?hy9⟩) ?_
       case hy9 => (intro w' hSw; go_simp; try (with_reducible rfl))
       try simp only [Act.put, List.setIfInBounds_toArray, List.set_cons_zero, List.set_cons_succ]
       refine M_takeA 2 (v := ?vv10) rfl hHeld (Or.inl ⟨by rfl, ?hy10⟩) ?_
       case hy10 => (intro w' hSw; have hB := HWb.out.below hSw; have y0 := hB.c0; have y1 := hB.c1; have y2 := hB.c2; have y3 := hB.c3; have y4 := hB.c4; have y5 := hB.c5; go_simp; try (with_reducible rfl))
       try simp only [Act.put, List.setIfInBounds_toArray, List.set_cons_zero, List.set_cons_succ]
       refine M_takeA 3 (v := ?vv11) rfl hHeld (Or.inl ⟨by rfl, ?hy11⟩) ?_
       case hy11 => (intro w' hSw; have hI := HIa.out.below hSw; have v5 := hI.v.c5; go_simp; try (with_reducible rfl))
       try simp only [Act.put, List.setIfInBounds_toArray, List.set_cons_zero, List.set_cons_succ]
       refine M_takeA 4 (v := ?vv12) rfl hHeld (Or.inl ⟨by rfl, ?hy12⟩) ?_
       case hy12 => (intro w' hSw; have hI := HIa.out.below hSw; have v5 := hI.v.c5; go_simp; try (with_reducible rfl))
       try simp only [Act.put, List.setIfInBounds_toArray, List.set_cons_zero, List.set_cons_succ]
       refine M_takeA 5 (v := ?vv13) rfl hHeld (Or.inl ⟨by rfl, ?hy13⟩) ?_
       case hy13 => (intro w' hSw; go_simp; try (with_reducible rfl))
       try simp only [Act.put, List.setIfInBounds_toArray, List.set_cons_zero, List.set_cons_succ]
       refine M_takeA 6 (v := ?vv14) rfl hHeld (Or.inl ⟨by rfl, ?hy14⟩) ?_
       case hy14 => (intro w' hSw; go_simp; try (with_reducible rfl))
       try simp only [Act.put, List.setIfInBounds_toArray, List.set_cons_zero, List.set_cons_succ]
       refine M_takeA 7 (v := ?vv15) rfl hHeld (Or.inl ⟨by rfl, ?hy15⟩) ?_
       case hy15 => (intro w' hSw; obtain ⟨x0, x1, x2, x3, x4, x5⟩ := HX.out w' (HIa.out.below hSw).bel; go_simp; try (with_reducible rfl))
       try simp only [Act.put, List.setIfInBounds_toArray, List.set_cons_zero, List.set_cons_succ]
       refine M_ready [8] (by kernel_rfl) (by decide) ?_
       refine AllM.cons (i := 8) rfl (fun K hK => ?_) AllM.nil
       rw [if_pos (by rfl)]
       go_wp2_with fail
       refine Calls.mono (HInto.out _ _ (HIa.out.below hHeld) (HOa.out _ hHeld)) ?_
       rintro e x1 ⟨u, rfl, hu, b1⟩
       obtain ⟨un1, ul1, rfl⟩ := rst_form hu
       obtain ⟨⟨r1, z1, y1, rfl⟩, r2, z2, y2, rfl⟩ := rst_sl hu
       unfold rfV
       dsimp only
       refine hK.out _ _ (hHeld.trans (b1.mono hHeld.size)) (fun hHeld => ?_)
       clear hK K
       try simp only [Act.put, List.setIfInBounds_toArray, List.set_cons_zero, List.set_cons_succ]
       refine M_ready [9] (by kernel_rfl) (by decide) ?_
       refine AllM.cons (i := 9) rfl (fun K hK => ?_) AllM.nil
       rw [if_pos (by rfl)]
       go_wp2_with fail
       refine Calls.mono (HSet.out _ _ (HIa.out.below hHeld) hu) ?_
       rintro e x2 ⟨b2, un2, ul2, rfl, hn2, hl2⟩
       obtain ⟨pu2, cu2, hpu, _⟩ := hn2.form
       obtain ⟨pq2, cq2, hpq, _⟩ := hl2.form
       rw [List.length_map] at hpu hpq
       subst hpu hpq
       unfold rfV
       dsimp only
       refine hK.out _ _ (hHeld.trans (b2.mono hHeld.size)) (fun hHeld => ?_)
       clear hK K
       try simp only [Act.put, List.setIfInBounds_toArray, List.set_cons_zero, List.set_cons_succ]
       refine M_tail [{ dst := none, op := Op.store 38 (Operand.tmp 5) (Operand.tmp 77), type := 0, pos := "docs.go:25", after := #[{ on := 9, ground := Ground.data }, { on := 9, ground := Ground.chain }, { on := 0, ground := Ground.phase }, { on := 1, ground := Ground.phase }, { on := 2, ground := Ground.phase }, { on := 3, ground := Ground.phase }, { on := 4, ground := Ground.phase }, { on := 5, ground := Ground.phase }, { on := 6, ground := Ground.phase }, { on := 7, ground := Ground.phase }, { on := 8, ground := Ground.phase }, { on := 9, ground := Ground.phase }], guard := none }] rfl (by kernel_rfl) (by kernel_rfl) ?_
       have hIx := HIa.out.below hHeld
       have o0 := hIx.out.o.c0
       have o1 := hIx.out.o.c1
       have o2 := hIx.out.o.c2
       have o3 := hIx.out.o.c3
       have o4 := hIx.out.o.c4
       have o5 := hIx.out.o.c5
       have f0 := hIx.out.o.free 0
       have f1 := hIx.out.o.free 1
       have f2 := hIx.out.o.free 2
       have f3 := hIx.out.o.free 3
       have f4 := hIx.out.o.free 4
       have f5 := hIx.out.o.free 5
       have HPut : Hid _ := hIx.put hn2 hl2
       have hsl2 := setF_len s f.1 (intoP n (findF dfs f.1) f.2)
       clear hIx hHeld hn2 hl2 b2
       go_wp2_with fail
       go_roundw
       case rel =>
        have hrelN : ILoop av w ⟨6, false, 0, []⟩ (.slice pd dfs.length cd) (.slice pe dfs.length ce) (.slice _ fs.length cn) (.slice _ fs.length cl) (fun s k => putAll (isNullJ n) (intoP n) dfs fs (keepAll fs dfs []) = putAll (isNullJ n) (intoP n) dfs (fs.drop k) s) dfs.length fs.length (.int .i64 ((k : Int) + 1)) _ := ⟨k + 1, setF s f.1 (intoP n (findF dfs f.1) f.2), _, _, by omega, by go_num, by exact HPn.out, by omega, HPut.out⟩
        first | exact hrelN | ((repeat apply Exists.intro); refine ⟨hrelN, ?_⟩; first | rfl | exact ⟨rfl, rfl⟩ | exact ⟨rfl, rfl, rfl⟩ | exact ⟨rfl, rfl, rfl, rfl⟩ | exact ⟨rfl, rfl, rfl, rfl, rfl⟩)
       case measure => (simp [intOf]; omega)
     ·have HEn : Hid (putAll (isNullJ n) (intoP n) dfs fs (keepAll fs dfs []) = s) := by
       show _ = _
       rw [HP.out, List.drop_eq_nil_of_le (by omega)]
       rfl
      have HZ : Hid (Box wr (w.heap.size + 1 + 1) ⟨0, false, 0, []⟩ (.slice none 0 0) (.slice none 0 0)) := HI.out.r
      have HO : Hid (Box wr (w.heap.size + 1 + 1 + 1) ⟨6, false, 0, []⟩ (.slice pu s.length cu) (.slice pq s.length cq)) := HI.out.out.o
      have o0 := HO.out.c0
      have o1 := HO.out.c1
      have o2 := HO.out.c2
      have o3 := HO.out.c3
      have o4 := HO.out.c4
      have o5 := HO.out.c5
      have f0 := HZ.out.free 0
      have f1 := HZ.out.free 1
      have f2 := HZ.out.free 2
      have f3 := HZ.out.free 3
      have f4 := HZ.out.free 4
      have f5 := HZ.out.free 5
      have z0 := HZ.out.c0
      have z1 := HZ.out.c1
      have z2 := HZ.out.c2
      have z3 := HZ.out.c3
      have z4 := HZ.out.c4
      have z5 := HZ.out.c5
      go_wp2_with fail
      have e6 : Box (put6 wr (w.heap.size + 1 + 1) (.int .i64 6) (.bool false) (.int .i64 0) (.string ⟨#[]⟩) (.slice pu s.length cu) (.slice pq s.length cq)) (w.heap.size + 1 + 1) ⟨6, false, 0, []⟩ (.slice pu s.length cu) (.slice pq s.length cq) := put6_box HZ.out ⟨6, false, 0, []⟩ (.slice pu s.length cu) (.slice pq s.length cq)
      have g6 := put6_grown wr (w.heap.size + 1 + 1) (.int .i64 6) (.bool false) (.int .i64 0) (.string ⟨#[]⟩) (.slice pu s.length cu) (.slice pq s.length cq)
      change bodyPost _ _ _ _ _ (put6 wr (w.heap.size + 1 + 1) _ _ _ _ _ _)
      generalize put6 wr (w.heap.size + 1 + 1) (.int .i64 6) (.bool false) (.int .i64 0) (.string ⟨#[]⟩) (.slice pu s.length cu) (.slice pq s.length cq) = W at *
      exact bodyPost_ret (v := rfV ⟨6, false, 0, []⟩ (.slice pu s.length cu) (.slice pq s.length cq)) (by simp [results, Tryz.results17, go_sem, rfV, e6.c0, e6.c1, e6.c2, e6.c3, e6.c4, e6.c5]) rfl ⟨_, _, rfl, by rw [HEn.out]; exact (HI.out.out.names.grown g6 (fun k e => by cases e; exact Or.inr ⟨by omega, by omega⟩)).unloc, by rw [HEn.out]; exact (HI.out.out.vals.grown g6 (fun k e => by cases e; exact Or.inr ⟨by omega, by omega⟩)).unloc, HI.out.bel.grown g6 HI.out.bel.size (fun k e => by cases e; omega)⟩
 ·subst hdf
  have hq : ((dh.k : Int) == 6) = false := by rw [beq_eq_false_iff_ne]; omega
  unfold rfV
  clear hk
  have HW7 : Hid (w0 = (((w.alloc (.cells #[.int .i64 dh.k, .bool dh.b, .int .i64 dh.i, .string ⟨dh.s.toArray⟩, .slice pd 0 cd, .slice pe ne ce] 38)).alloc (.cells #[.int .i64 6, .bool false, .int .i64 0, .string ⟨#[]⟩, .slice pn fs.length cn, .slice pl fs.length cl] 38)).alloc (.cells #[.int .i64 0, .bool false, .int .i64 0, .string ⟨#[]⟩, .slice none 0 0, .slice none 0 0] 38)).alloc (.cells #[.int .i64 6, .bool false, .int .i64 0, .string ⟨#[]⟩, .slice none 0 0, .slice none 0 0] 38)) := HW0.out
  go_enter Tryz.func17, Tryz.ntmps17
  go_wp2_with fail
  rw [<- HW7.out]
  go_loopw [50] (fun i wr => ILoop av w dh (.slice pd 0 cd) (.slice pe ne ce) (.slice pn fs.length cn) (.slice pl fs.length cl) (fun s k => putAll (isNullJ n) (intoP n) ([] : List (Bs × J n)) fs (keepAll fs ([] : List (Bs × J n)) []) = putAll (isNullJ n) (intoP n) ([] : List (Bs × J n)) (fs.drop k) s) 0 fs.length i wr) (fun i _ => fs.length - (intOf i).toNat)
  case atStart => exact ⟨0, [], _, _, Nat.zero_le _, rfl, rfl, Nat.zero_le _, HI0.out⟩
  case round =>
   obtain ⟨k, s, un, ul, hk, rfl, hP, hsl, hI⟩ := hrel
   obtain ⟨⟨pu, cu, rfl⟩, pq, cq, rfl⟩ := hI.out.shape
   have HP : Hid (putAll (isNullJ n) (intoP n) ([] : List (Bs × J n)) fs (keepAll fs ([] : List (Bs × J n)) []) = putAll (isNullJ n) (intoP n) ([] : List (Bs × J n)) (fs.drop k) s) := hP
   have HI : Hid (IntoAt av w dh (.slice pd 0 cd) (.slice pe ne ce) (.slice pn fs.length cn) (.slice pl fs.length cl) s (.slice pu s.length cu) (.slice pq s.length cq) wr) := hI
   clear hP hI
   by_cases hlt : k < fs.length
   ·obtain ⟨f, hfk⟩ : ∃ f, fs[k]? = some f := ⟨fs[k], List.getElem?_eq_getElem hlt⟩
    obtain ⟨g, rfl, hg, hgc⟩ := HN3.out k f hfk
    obtain ⟨ge, nm', l', rfl, hge, h6, hst⟩ := HL3.out k f hfk
    obtain ⟨⟨q1, m1, e1, rfl⟩, q2, m2, e2, rfl⟩ := rst_sl hst
    obtain ⟨nb, hnb⟩ : ∃ nb : ByteArray, nb = ⟨f.1.toArray⟩ := ⟨_, rfl⟩
    have hnl : nb.data.toList = f.1 := by rw [hnb]
    have n1 : wr.cell? ⟨g, k, none⟩ = some (.string nb) := by rw [hnb]; exact (HI.out.bel.cell (p := ⟨g, k, none⟩) hg).trans hgc
    have HK : Hid (fs[k]? = some f) := hfk
    have HX : Hid (∀ w', Below w.heap.size w w' -> Six w' ge (k * 6) (headJ n f.2) (.slice q1 m1 e1) (.slice q2 m2 e2)) := fun w' b => h6.keep (b.block ge hge)
    have HSt : Hid (∀ w', Below w.heap.size w w' -> RSt (Loc av w.heap.size (w.heap.size + 4)) w' n f.2 (rfV (headJ n f.2) (.slice q1 m1 e1) (.slice q2 m2 e2))) := fun w' b => hst.loc b
    have v5 := HI.out.v.c5
    obtain ⟨x0, x1, x2, x3, x4, x5⟩ := HX.out wr HI.out.bel
    have hkI : (k : Int) < (fs.length : Int) := by omega
    have hnul := null_head n f.2
    have hnx := HFm.out k f hfk
    clear hgc hfk h6 hst hnb
    cases hnull : isNullJ n f.2 with
    | true =>
     rw [hnull] at hnul
     have hz : (((headJ n f.2).k : Int) == 1) = true := by
      have := of_decide_eq_true hnul.symm
      rw [this]
      rfl
     have HPn : Hid (putAll (isNullJ n) (intoP n) ([] : List (Bs × J n)) fs (keepAll fs ([] : List (Bs × J n)) []) = putAll (isNullJ n) (intoP n) ([] : List (Bs × J n)) (fs.drop (k + 1)) s) := by
      show _ = _
      rw [HP.out, drop_at HK.out]
      show putAll _ _ _ _ (if isNullJ n f.2 = true then s else _) = _
      rw [hnull, if_pos rfl]
     clear hnul
     go_wp2_with fail
     go_roundw
     case rel =>
      have hrelN : ILoop av w dh (.slice pd 0 cd) (.slice pe ne ce) (.slice _ fs.length cn) (.slice _ fs.length cl) (fun s k => putAll (isNullJ n) (intoP n) ([] : List (Bs × J n)) fs (keepAll fs ([] : List (Bs × J n)) []) = putAll (isNullJ n) (intoP n) ([] : List (Bs × J n)) (fs.drop k) s) 0 fs.length (.int .i64 ((k : Int) + 1)) wr := ⟨k + 1, s, _, _, by omega, by go_num, HPn.out, by omega, HI.out⟩
      first | exact hrelN | ((repeat apply Exists.intro); refine ⟨hrelN, ?_⟩; first | rfl | exact ⟨rfl, rfl⟩ | exact ⟨rfl, rfl, rfl⟩ | exact ⟨rfl, rfl, rfl, rfl⟩)
     case measure => (simp [intOf]; omega)
    | false =>
     rw [hnull] at hnul
     have hz : (((headJ n f.2).k : Int) == 1) = false := by
      have := of_decide_eq_false hnul.symm
      rw [beq_eq_false_iff_ne]
      omega
     have HPn : Hid (putAll (isNullJ n) (intoP n) ([] : List (Bs × J n)) fs (keepAll fs ([] : List (Bs × J n)) []) = putAll (isNullJ n) (intoP n) ([] : List (Bs × J n)) (fs.drop (k + 1)) (setF s f.1 (intoP n (findF ([] : List (Bs × J n)) f.1) f.2))) := by
      show _ = _
      rw [HP.out, drop_at HK.out]
      show putAll _ _ _ _ (if isNullJ n f.2 = true then s else _) = _
      rw [hnull, if_neg (by simp)]
     clear hnul
     have HSet : Hid (∀ (W : World) (uv : Value), IntoAt av w dh (.slice pd 0 cd) (.slice pe ne ce) (.slice (some ⟨g, 0, none⟩) fs.length cn) (.slice (some ⟨ge, 0, none⟩) fs.length cl) s (.slice pu s.length cu) (.slice pq s.length cq) W -> RSt (Loc av w.heap.size (w.heap.size + 4)) W n (intoP n (findF ([] : List (Bs × J n)) f.1) f.2) uv -> Calls Tryz.prog 34 #[rfV ⟨6, false, 0, []⟩ (.slice pu s.length cu) (.slice pq s.length cq), .string nb, uv] W (SetPost (Loc av w.heap.size (w.heap.size + 4)) s f.1 (intoP n (findF ([] : List (Bs × J n)) f.1) f.2) W)) := fun W uv hW hu => by
      have h9 := rfset_any (Loc av w.heap.size (w.heap.size + 4)) s nb (intoP n (findF ([] : List (Bs × J n)) f.1) f.2) _ _ uv W hW.out.names hW.out.vals hu hW.out.free (by omega)
      rw [hnl] at h9
      exact h9
     have HF : Hid (∀ w1 : World, Below w.heap.size w w1 -> Calls Tryz.prog 33 #[rfV dh (.slice pd 0 cd) (.slice pe ne ce), .string nb] w1 fun e w' => Below w1.heap.size w1 w' /\ ∃ v b, e = .returned (.tuple #[v, .bool b]) /\ b = (findF ([] : List (Bs × J n)) nb.data.toList).isSome /\ ROpt (Loc av w.heap.size (w.heap.size + 4)) w1 n (findF ([] : List (Bs × J n)) nb.data.toList) v) := fun w1 b => HFd.out nb w1 b
     have HInto : Hid (∀ (W : World) (wv : Value), IntoAt av w dh (.slice pd 0 cd) (.slice pe ne ce) (.slice (some ⟨g, 0, none⟩) fs.length cn) (.slice (some ⟨ge, 0, none⟩) fs.length cl) s (.slice pu s.length cu) (.slice pq s.length cq) W -> ROpt (Loc av w.heap.size (w.heap.size + 4)) W n (findF ([] : List (Bs × J n)) f.1) wv -> Calls Tryz.prog 17 #[wv, rfV (headJ n f.2) (.slice q1 m1 e1) (.slice q2 m2 e2)] W fun e w' => ∃ u, e = .returned u /\ RSt (Loc av w.heap.size (w.heap.size + 4)) w' n (intoP n (findF ([] : List (Bs × J n)) f.1) f.2) u /\ Below W.heap.size W w') := fun W wv hW ho => HIh.out _ (findF ([] : List (Bs × J n)) f.1) f.2 wv _ W hW.out.free ho (HSt.out W hW.bel) (HDm.out f.1) hnx
     rw [hnl] at HF
     have d0 := HI.out.d.c0
     have d1 := HI.out.d.c1
     have d2 := HI.out.d.c2
     have d3 := HI.out.d.c3
     have d4 := HI.out.d.c4
     have d5 := HI.out.d.c5
     unfold rfV at HF HSet HInto
     go_wp2_with fail
     refine Calls.mono (HF.out wr HI.out.bel) ?_
     rintro e w5 ⟨b5, v, b, rfl, hb, hv⟩
     obtain ⟨xh, p1, k1, c1, p2, k2, c2, rfl⟩ := hv.form
     have HI5 : Hid _ := HI.out.below b5
     have HO5 : Hid (∀ w', Below w5.heap.size w5 w' -> ROpt (Loc av w.heap.size (w.heap.size + 4)) w' n (findF ([] : List (Bs × J n)) f.1) (rfV xh (.slice p1 k1 c1) (.slice p2 k2 c2))) := fun w' bb => (hv.below b5).below bb
     clear b5 hv HF d0 d1 d2 d3 d4 d5 n1 x0 x1 x2 x3 x4 x5 v5 hb
     unfold rfV at HO5 ⊢
     go_wp2_with fail
     have HIa : Hid _ := HI5.out.alloc (.cells #[.int .i64 xh.k, .bool xh.b, .int .i64 xh.i, .string ⟨xh.s.toArray⟩, .slice p1 k1 c1, .slice p2 k2 c2] 38)
     have HWb : Hid (Box (w5.alloc (.cells #[.int .i64 xh.k, .bool xh.b, .int .i64 xh.i, .string ⟨xh.s.toArray⟩, .slice p1 k1 c1, .slice p2 k2 c2] 38)) w5.heap.size xh (.slice p1 k1 c1) (.slice p2 k2 c2)) := box_new w5 xh _ _
     have HOa : Hid (∀ w', Below (w5.alloc (.cells #[.int .i64 xh.k, .bool xh.b, .int .i64 xh.i, .string ⟨xh.s.toArray⟩, .slice p1 k1 c1, .slice p2 k2 c2] 38)).heap.size (w5.alloc (.cells #[.int .i64 xh.k, .bool xh.b, .int .i64 xh.i, .string ⟨xh.s.toArray⟩, .slice p1 k1 c1, .slice p2 k2 c2] 38)) w' -> ROpt (Loc av w.heap.size (w.heap.size + 4)) w' n (findF ([] : List (Bs × J n)) f.1) (.agg #[.int .i64 xh.k, .bool xh.b, .int .i64 xh.i, .string ⟨xh.s.toArray⟩, .slice p1 k1 c1, .slice p2 k2 c2])) := fun w' bb => (HO5.out _ ((Below.refl _ _).alloc (Nat.le_refl _) _)).below bb
     generalize w5.alloc (.cells #[.int .i64 xh.k, .bool xh.b, .int .i64 xh.i, .string ⟨xh.s.toArray⟩, .slice p1 k1 c1, .slice p2 k2 c2] 38) = wa at *
     have hHeld : Below wa.heap.size wa wa.drew := (Below.refl _ _).drew
     refine M_begin 10 11 (fun w' => Below wa.heap.size wa w') (by kernel_rfl) rfl ?_
     refine M_takeA 0 (v := ?vv16) rfl hHeld (Or.inl ⟨by rfl, ?hy16⟩) ?_
     case hy16 => (intro w' hSw; have hI := HIa.out.below hSw; have o0 := hI.out.o.c0; have o1 := hI.out.o.c1; have o2 := hI.out.o.c2; have o3 := hI.out.o.c3; have o4 := hI.out.o.c4; have o5 := hI.out.o.c5; go_simp; try (with_reducible rfl))
     try simp only [Act.put, List.setIfInBounds_toArray, List.set_cons_zero, List.set_cons_succ]
     refine M_takeA 1 (v := ?vv17) rfl hHeld (Or.inl ⟨by rfl, ?hy17⟩) ?_
     case hy17 => (intro w' hSw; go_simp; try (with_reducible rfl))
     try simp only [Act.put, List.setIfInBounds_toArray, List.set_cons_zero, List.set_cons_succ]
     refine M_takeA 2 (v := ?vv18) rfl hHeld (Or.inl ⟨by rfl, ?hy18⟩) ?_
     case hy18 => (intro w' hSw; have hB := HWb.out.below hSw; have y0 := hB.c0; have y1 := hB.c1; have y2 := hB.c2; have y3 := hB.c3; have y4 := hB.c4; have y5 := hB.c5; go_simp; try (with_reducible rfl))
     try simp only [Act.put, List.setIfInBounds_toArray, List.set_cons_zero, List.set_cons_succ]
     refine M_takeA 3 (v := ?vv19) rfl hHeld (Or.inl ⟨by rfl, ?hy19⟩) ?_
     case hy19 => (intro w' hSw; have hI := HIa.out.below hSw; have v5 := hI.v.c5; go_simp; try (with_reducible rfl))
     try simp only [Act.put, List.setIfInBounds_toArray, List.set_cons_zero, List.set_cons_succ]
     refine M_takeA 4 (v := ?vv20) rfl hHeld (Or.inl ⟨by rfl, ?hy20⟩) ?_
     case hy20 => (intro w' hSw; have hI := HIa.out.below hSw; have v5 := hI.v.c5; go_simp; try (with_reducible rfl))
     try simp only [Act.put, List.setIfInBounds_toArray, List.set_cons_zero, List.set_cons_succ]
     refine M_takeA 5 (v := ?vv21) rfl hHeld (Or.inl ⟨by rfl, ?hy21⟩) ?_
     case hy21 => (intro w' hSw; go_simp; try (with_reducible rfl))
     try simp only [Act.put, List.setIfInBounds_toArray, List.set_cons_zero, List.set_cons_succ]
     refine M_takeA 6 (v := ?vv22) rfl hHeld (Or.inl ⟨by rfl, ?hy22⟩) ?_
     case hy22 => (intro w' hSw; go_simp; try (with_reducible rfl))
     try simp only [Act.put, List.setIfInBounds_toArray, List.set_cons_zero, List.set_cons_succ]
     refine M_takeA 7 (v := ?vv23) rfl hHeld (Or.inl ⟨by rfl, ?hy23⟩) ?_
     case hy23 => (intro w' hSw; obtain ⟨x0, x1, x2, x3, x4, x5⟩ := HX.out w' (HIa.out.below hSw).bel; go_simp; try (with_reducible rfl))
     try simp only [Act.put, List.setIfInBounds_toArray, List.set_cons_zero, List.set_cons_succ]
     refine M_ready [8] (by kernel_rfl) (by decide) ?_
     refine AllM.cons (i := 8) rfl (fun K hK => ?_) AllM.nil
     rw [if_pos (by rfl)]
     go_wp2_with fail
     refine Calls.mono (HInto.out _ _ (HIa.out.below hHeld) (HOa.out _ hHeld)) ?_
     rintro e x1 ⟨u, rfl, hu, b1⟩
     obtain ⟨un1, ul1, rfl⟩ := rst_form hu
     obtain ⟨⟨r1, z1, y1, rfl⟩, r2, z2, y2, rfl⟩ := rst_sl hu
     unfold rfV
     dsimp only
     refine hK.out _ _ (hHeld.trans (b1.mono hHeld.size)) (fun hHeld => ?_)
     clear hK K
     try simp only [Act.put, List.setIfInBounds_toArray, List.set_cons_zero, List.set_cons_succ]
     refine M_ready [9] (by kernel_rfl) (by decide) ?_
     refine AllM.cons (i := 9) rfl (fun K hK => ?_) AllM.nil
     rw [if_pos (by rfl)]
     go_wp2_with fail
     refine Calls.mono (HSet.out _ _ (HIa.out.below hHeld) hu) ?_
     rintro e x2 ⟨b2, un2, ul2, rfl, hn2, hl2⟩
     obtain ⟨pu2, cu2, hpu, _⟩ := hn2.form
     obtain ⟨pq2, cq2, hpq, _⟩ := hl2.form
     rw [List.length_map] at hpu hpq
     subst hpu hpq
     unfold rfV
     dsimp only
     refine hK.out _ _ (hHeld.trans (b2.mono hHeld.size)) (fun hHeld => ?_)
     clear hK K
     try simp only [Act.put, List.setIfInBounds_toArray, List.set_cons_zero, List.set_cons_succ]
     refine M_tail [{ dst := none, op := Op.store 38 (Operand.tmp 5) (Operand.tmp 77), type := 0, pos := "docs.go:25", after := #[{ on := 9, ground := Ground.data }, { on := 9, ground := Ground.chain }, { on := 0, ground := Ground.phase }, { on := 1, ground := Ground.phase }, { on := 2, ground := Ground.phase }, { on := 3, ground := Ground.phase }, { on := 4, ground := Ground.phase }, { on := 5, ground := Ground.phase }, { on := 6, ground := Ground.phase }, { on := 7, ground := Ground.phase }, { on := 8, ground := Ground.phase }, { on := 9, ground := Ground.phase }], guard := none }] rfl (by kernel_rfl) (by kernel_rfl) ?_
     have hIx := HIa.out.below hHeld
     have o0 := hIx.out.o.c0
     have o1 := hIx.out.o.c1
     have o2 := hIx.out.o.c2
     have o3 := hIx.out.o.c3
     have o4 := hIx.out.o.c4
     have o5 := hIx.out.o.c5
     have f0 := hIx.out.o.free 0
     have f1 := hIx.out.o.free 1
     have f2 := hIx.out.o.free 2
     have f3 := hIx.out.o.free 3
     have f4 := hIx.out.o.free 4
     have f5 := hIx.out.o.free 5
     have HPut : Hid _ := hIx.put hn2 hl2
     have hsl2 := setF_len s f.1 (intoP n (findF ([] : List (Bs × J n)) f.1) f.2)
     clear hIx hHeld hn2 hl2 b2
     go_wp2_with fail
     go_roundw
     case rel =>
      have hrelN : ILoop av w dh (.slice pd 0 cd) (.slice pe ne ce) (.slice _ fs.length cn) (.slice _ fs.length cl) (fun s k => putAll (isNullJ n) (intoP n) ([] : List (Bs × J n)) fs (keepAll fs ([] : List (Bs × J n)) []) = putAll (isNullJ n) (intoP n) ([] : List (Bs × J n)) (fs.drop k) s) 0 fs.length (.int .i64 ((k : Int) + 1)) _ := ⟨k + 1, setF s f.1 (intoP n (findF ([] : List (Bs × J n)) f.1) f.2), _, _, by omega, by go_num, by exact HPn.out, by omega, HPut.out⟩
      first | exact hrelN | ((repeat apply Exists.intro); refine ⟨hrelN, ?_⟩; first | rfl | exact ⟨rfl, rfl⟩ | exact ⟨rfl, rfl, rfl⟩ | exact ⟨rfl, rfl, rfl, rfl⟩ | exact ⟨rfl, rfl, rfl, rfl, rfl⟩)
     case measure => (simp [intOf]; omega)
   ·have HEn : Hid (putAll (isNullJ n) (intoP n) ([] : List (Bs × J n)) fs (keepAll fs ([] : List (Bs × J n)) []) = s) := by
     show _ = _
     rw [HP.out, List.drop_eq_nil_of_le (by omega)]
     rfl
    have HZ : Hid (Box wr (w.heap.size + 1 + 1) ⟨0, false, 0, []⟩ (.slice none 0 0) (.slice none 0 0)) := HI.out.r
    have HO : Hid (Box wr (w.heap.size + 1 + 1 + 1) ⟨6, false, 0, []⟩ (.slice pu s.length cu) (.slice pq s.length cq)) := HI.out.out.o
    have o0 := HO.out.c0
    have o1 := HO.out.c1
    have o2 := HO.out.c2
    have o3 := HO.out.c3
    have o4 := HO.out.c4
    have o5 := HO.out.c5
    have f0 := HZ.out.free 0
    have f1 := HZ.out.free 1
    have f2 := HZ.out.free 2
    have f3 := HZ.out.free 3
    have f4 := HZ.out.free 4
    have f5 := HZ.out.free 5
    have z0 := HZ.out.c0
    have z1 := HZ.out.c1
    have z2 := HZ.out.c2
    have z3 := HZ.out.c3
    have z4 := HZ.out.c4
    have z5 := HZ.out.c5
    go_wp2_with fail
    have e6 : Box (put6 wr (w.heap.size + 1 + 1) (.int .i64 6) (.bool false) (.int .i64 0) (.string ⟨#[]⟩) (.slice pu s.length cu) (.slice pq s.length cq)) (w.heap.size + 1 + 1) ⟨6, false, 0, []⟩ (.slice pu s.length cu) (.slice pq s.length cq) := put6_box HZ.out ⟨6, false, 0, []⟩ (.slice pu s.length cu) (.slice pq s.length cq)
    have g6 := put6_grown wr (w.heap.size + 1 + 1) (.int .i64 6) (.bool false) (.int .i64 0) (.string ⟨#[]⟩) (.slice pu s.length cu) (.slice pq s.length cq)
    change bodyPost _ _ _ _ _ (put6 wr (w.heap.size + 1 + 1) _ _ _ _ _ _)
    generalize put6 wr (w.heap.size + 1 + 1) (.int .i64 6) (.bool false) (.int .i64 0) (.string ⟨#[]⟩) (.slice pu s.length cu) (.slice pq s.length cq) = W at *
    exact bodyPost_ret (v := rfV ⟨6, false, 0, []⟩ (.slice pu s.length cu) (.slice pq s.length cq)) (by simp [results, Tryz.results17, go_sem, rfV, e6.c0, e6.c1, e6.c2, e6.c3, e6.c4, e6.c5]) rfl ⟨_, _, rfl, by rw [HEn.out]; exact (HI.out.out.names.grown g6 (fun k e => by cases e; exact Or.inr ⟨by omega, by omega⟩)).unloc, by rw [HEn.out]; exact (HI.out.out.vals.grown g6 (fun k e => by cases e; exact Or.inr ⟨by omega, by omega⟩)).unloc, HI.out.bel.grown g6 HI.out.bel.size (fun k e => by cases e; omega)⟩
theorem headL_six (l : Leaf) : (headL l).k ≠ 6 :=
 match l with
 | none => (show (1 : Nat) ≠ 6 by decide)
 | some (Sum.inl b) => (show (2 : Nat) ≠ 6 by decide)
 | some (Sum.inr (Sum.inl i)) => (show (3 : Nat) ≠ 6 by decide)
 | some (Sum.inr (Sum.inr s)) => (show (4 : Nat) ≠ 6 by decide)
theorem ROpt.dat {av : Nat -> Prop} {w : World} {n : Nat} {d : Option (J (n + 1))} {v : Value} (h : ROpt av w (n + 1) d v) : ∃ dh dn dl, v = rfV dh dn dl /\ DAt av w (fieldsP d) dh dn dl := by
 match d, h with
 | none, h => exact ⟨_, _, _, h, ⟨Or.inl ⟨rfl, rfl⟩, Or.inr ⟨by decide, rfl⟩, ⟨_, _, _, rfl⟩⟩⟩
 | some (Sum.inl l), h =>
  obtain ⟨nm, l', hv, h1, h2⟩ := RSt.open h
  obtain ⟨p, c, e, _⟩ := h2.form
  exact ⟨_, _, _, hv, ⟨h1, Or.inr ⟨headL_six l, rfl⟩, ⟨_, _, _, e⟩⟩⟩
 | some (Sum.inr (Sum.inl xs)), h =>
  obtain ⟨nm, l', hv, h1, h2⟩ := RSt.open h
  obtain ⟨p, c, e, _⟩ := h2.form
  exact ⟨_, _, _, hv, ⟨h1, Or.inr ⟨(show (5 : Nat) ≠ 6 by decide), rfl⟩, ⟨_, _, _, e⟩⟩⟩
 | some (Sum.inr (Sum.inr fs)), h =>
  obtain ⟨nm, l', hv, h1, h2⟩ := RSt.open h
  obtain ⟨p, c, e, _⟩ := h2.form
  exact ⟨_, _, _, hv, ⟨h1, Or.inl ⟨rfl, h2⟩, ⟨_, _, _, e⟩⟩⟩
theorem sum_memR {α : Type} (f : α -> Nat) : ∀ (l : List α) (x : α), x ∈ l -> f x <= (l.map f).sum
 | y :: l, x, h => by
  rw [List.map_cons, List.sum_cons]
  rcases List.mem_cons.1 h with rfl | h
  ·omega
  ·have := sum_memR f l x h; omega
theorem nodes_posR : ∀ (n : Nat) (j : J n), 1 <= nodes n j
 | 0, _ => Nat.le_refl _
 | _ + 1, Sum.inl _ => Nat.le_refl _
 | _ + 1, Sum.inr (Sum.inl _) => Nat.le_add_right _ _
 | _ + 1, Sum.inr (Sum.inr _) => Nat.le_add_right _ _
theorem sum_lenR {α : Type} (f : α -> Nat) (hf : ∀ x, 1 <= f x) : ∀ l : List α, l.length <= (l.map f).sum
 | [] => Nat.zero_le _
 | y :: l => by
  have := sum_lenR f hf l
  have := hf y
  rw [List.map_cons, List.sum_cons, List.length_cons]
  omega
theorem obj_bound {n m : Nat} {fs : List (Bs × J n)} (h : nodes (n + 1) (Sum.inr (Sum.inr fs)) <= m) : fs.length <= m /\ ∀ f ∈ fs, nodes n f.2 <= m := by
 have h3 : 1 + (fs.map fun f => nodes n f.2).sum <= m := h
 refine ⟨?_, fun f hf => ?_⟩
 ·have := sum_lenR (fun f : Bs × J n => nodes n f.2) (fun x => nodes_posR n x.2) fs
  omega
 ·have := sum_memR (fun f : Bs × J n => nodes n f.2) fs f hf
  omega
theorem fields_bound {n m : Nat} {d : Option (J (n + 1))} (h : ∀ x, d = some x -> nodes (n + 1) x <= m) : (fieldsP d).length <= m /\ ∀ f ∈ fieldsP d, nodes n f.2 <= m := by
 match d, h with
 | none, h => exact ⟨Nat.zero_le _, fun f hf => by cases hf⟩
 | some (Sum.inl l), h => exact ⟨Nat.zero_le _, fun f hf => by cases hf⟩
 | some (Sum.inr (Sum.inl xs)), h => exact ⟨Nat.zero_le _, fun f hf => by cases hf⟩
 | some (Sum.inr (Sum.inr fs)), h => exact obj_bound (h _ rfl)
theorem into_plain {n : Nat} {av : Nat -> Prop} {d : Option (J n)} {j : J n} {dv v : Value} {w : World} (ho : ROpt av w n d dv) (hs : RSt av w n j v) (hk : (headJ n j).k ≠ 6) (he : intoP n d j = j) :
  Calls Tryz.prog 17 #[dv, v] w fun e w' => ∃ u, e = .returned u /\ RSt av w' n (intoP n d j) u /\ Below w.heap.size w w' := by
 obtain ⟨dh, p, k, c, q, l, e, rfl⟩ := ho.form
 obtain ⟨nm, l2, rfl⟩ := rst_form hs
 obtain ⟨⟨p1, k1, c1, rfl⟩, p2, k2, c2, rfl⟩ := rst_sl hs
 refine (into_else dh (headJ n j) hk p k c q l e p1 k1 c1 p2 k2 c2 w).mono ?_
 rintro e w' ⟨rfl, b⟩
 exact ⟨_, rfl, by rw [he]; exact hs.below b, b⟩
theorem into_ok : ∀ n, IntoOK n
 | 0 => fun av d j dv v w hav ho hs hd' hj => into_plain ho hs (headL_six j) rfl
 | n + 1 => fun av d j dv v w hav ho hs hd' hj => by
  have ih := into_ok n
  match j, hs, hj with
  | Sum.inl l, hs, hj => exact into_plain ho hs (headL_six l) rfl
  | Sum.inr (Sum.inl xs), hs, hj => exact into_plain ho hs (show (5 : Nat) ≠ 6 by decide) rfl
  | Sum.inr (Sum.inr fs), hs, hj =>
   obtain ⟨dh, dn, dl, rfl, hD⟩ := ho.dat
   obtain ⟨nm, l, hv, h1, h2⟩ := hs.open
   subst hv
   have hb := obj_bound hj
   have hb2 := fields_bound hd'
   refine (into_obj av n ih (fieldsP d) fs dh dn dl nm l w hav hD h1 h2 hb2.1 hb2.2 hb.1 hb.2).mono ?_
   rintro e w' ⟨un, ul, rfl, g1, g2, b⟩
   exact ⟨_, rfl, rst_mk (j := (Sum.inr (Sum.inr _) : J (n + 1))) g1 g2, b⟩
end Go.Proofs.YtjcdklbimaclkaaGreatDoor
