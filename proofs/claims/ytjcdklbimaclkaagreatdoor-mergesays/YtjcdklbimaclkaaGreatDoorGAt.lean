import Derived.Test.YtjcdklbimaclkaaGreatDoorGAk
import Derived.Test.YtjcdklbimaclkaaGreatDoorGAp
import Derived.Deep.AppendLies
import Derived.Laws.MakeOwn
import Derived.Test.YtjcdklbimaclkaaGreatDoorGAm
import Derived.Test.YtjcdklbimaclkaaGreatDoorGAo
import Derived.Test.YtjcdklbimaclkaaGreatDoorGAn
namespace Go.Proofs.YtjcdklbimaclkaaGreatDoor
open Go.RowKit
set_option linter.unusedVariables false
set_option linter.unusedSimpArgs false
def readsE (x y : Bs) : Except Nat (J 10 × J 10) :=
 match read x with
 | .error e => .error e
 | .ok a => match read y with
  | .error e => .error e
  | .ok b => .ok (a, b)
def ReadsPost (x y : Bs) (w : World) (e : Ending) (w' : World) : Prop :=
 Below w.heap.size w w' /\ ((∃ er : Nat, readsE x y = .error er /\ er ≠ 0 /\ er < 100 /\ ∃ p k c, e = .returned (.tuple #[.slice p k c, .int .i64 er])) ∨
  ∃ (a b : J 10) (g c : Nat), readsE x y = .ok (a, b) /\ e = .returned (.tuple #[.slice (some ⟨g, 0, none⟩) 2 c, .int .i64 0]) /\ RVals (fun _ => False) w' 10 [a, b] (.slice (some ⟨g, 0, none⟩) 2 c))
def RLoop (w : World) (x y : ByteArray) (vo i : Value) (wr : World) : Prop :=
 Below w.heap.size w wr /\ ((i = .int .i64 0 /\ OwnV (fun _ => False) w.heap.size wr 10 ([] : List (J 10)) vo) ∨ (∃ A, i = .int .i64 1 /\ read x.data.toList = .ok A /\ OwnV (fun _ => False) w.heap.size wr 10 [A] vo) ∨ ∃ A B, i = .int .i64 2 /\ read x.data.toList = .ok A /\ read y.data.toList = .ok B /\ OwnV (fun _ => False) w.heap.size wr 10 [A, B] vo)
set_option maxRecDepth 100000 in
set_option maxHeartbeats 8000000 in
theorem rfreads_any (x y : ByteArray) (g : Nat) (w : World) (hg : w.heap[g]? = some (.cells #[.string x, .string y] 9 (0, 0))) :
  Calls Tryz.prog 16 #[.slice (some ⟨g, 0, none⟩) 2 2] w (ReadsPost x.data.toList y.data.toList w) := by
 obtain ⟨i0, hi, hz0, hz1, hz2⟩ := info_parts info_V
 have HG : Hid (w.heap[g]? = some (.cells #[.string x, .string y] 9 (0, 0))) := hg
 obtain ⟨ob, hmk⟩ : ∃ ob, ∀ W : World, (Instr.makeSlice 33 (.int .i64 2) (.int .i64 2)).run Tryz.prog W = .ok (.slice (some ⟨W.heap.size, 0, none⟩) 2 2) (W.alloc ob) := ⟨_, fun W => run_make W 33 38 i0 _ Tryz.underlying33 hi hz0 .i64 .i64 2 2 (by decide) (by decide) (by rw [hz2]; decide) (by decide)⟩
 clear hg
 go_enter Tryz.func16, Tryz.ntmps16
 go_wp2_with fail
 go_loopw [4, 11] (fun o i wr => RLoop w x y o i wr) (fun _ i _ => 2 - (intOf i).toNat)
 case atStart => exact ⟨Below.refl _ _, Or.inl ⟨rfl, OwnV.nil _ _ _ _⟩⟩
 case round =>
  obtain ⟨hB, ⟨hi0, hO⟩ | ⟨A, hi0, hA, hO⟩ | ⟨A, B, hi0, hA, hB2, hO⟩⟩ := hrel
  ·subst hi0
   obtain ⟨pv, cv, hvo⟩ := OwnV.shape hO
   have hvo : u4 = .slice pv 0 cv := hvo
   subst hvo
   have HB : Hid (Below w.heap.size w wr) := hB
   have HO : Hid (OwnV (fun _ => False) w.heap.size wr 10 ([] : List (J 10)) (.slice pv 0 cv)) := hO
   clear hB hO
   have HRd : Hid (Calls Tryz.prog 32 #[.string x] wr (RReadPost 10 (read x.data.toList) wr)) := by
    have h9 := rfread_any 10 rfl x wr
    rw [readN_ten] at h9
    exact h9
   have n1 : wr.cell? ⟨g, 0, none⟩ = some (.string x) := (HB.out.cell (p := ⟨g, 0, none⟩) (lt_of_block HG.out)).trans (by rw [cell_of_row _ _ _ _ _ _ HG.out]; rfl)
   go_wp2_with fail
   refine Calls.mono HRd.out ?_
   rintro e w5 ⟨b5, h5⟩
   clear HRd n1
   have HB5 : Hid (Below w.heap.size w w5) := HB.out.trans (b5.mono HB.out.size)
   have HO5 : Hid (OwnV (fun _ => False) w.heap.size w5 10 ([] : List (J 10)) (.slice pv 0 cv)) := OwnV.kept HO.out (below_grownR b5) (own_none (.slice pv 0 cv)) (fun k e => by cases e)
   rcases h5 with ⟨er, hr, her, her2, rfl⟩ | ⟨j, v, hr, rfl, hst⟩
   ·have hbe : ((er : Int) != 0) = true := by rw [bne_iff_ne]; omega
    have HX : Hid (readsE x.data.toList y.data.toList = .error er) := by
     show readsE _ _ = _
     unfold readsE
     rw [hr]
    unfold rfV
    clear hr b5
    go_wp2_with fail
    go_ret2
    exact ⟨(HB5.out.alloc HB5.out.size _).alloc (by simp; exact Nat.le_succ_of_le HB5.out.size) _, Or.inl ⟨er, HX.out, her, her2, _, _, _, rfl⟩⟩
   ·obtain ⟨nm1, l1, rfl⟩ := rst_form hst
    obtain ⟨⟨p1, k1, c1, rfl⟩, p2, k2, c2, rfl⟩ := rst_sl hst
    have HRead : Hid (read x.data.toList = .ok j) := hr
    have HSt : Hid (RSt (fun c => c < wr.heap.size) w5 10 j (rfV (headJ 10 j) (.slice p1 k1 c1) (.slice p2 k2 c2))) := hst
    have HBx : Hid (Box (w5.alloc (.cells #[.int .i64 (headJ 10 j).k, .bool (headJ 10 j).b, .int .i64 (headJ 10 j).i, .string ⟨(headJ 10 j).s.toArray⟩, .slice p1 k1 c1, .slice p2 k2 c2] 38)) w5.heap.size (headJ 10 j) (.slice p1 k1 c1) (.slice p2 k2 c2)) := box_new w5 (headJ 10 j) _ _
    have HVr : Hid (∀ c, (Value.slice pv 0 cv).ownBlock = some c -> w.heap.size <= c /\ c < wr.heap.size) := OwnV.row HO.out
    have hwr5 : wr.heap.size <= w5.heap.size := b5.size
    have hw5 : w.heap.size <= w5.heap.size := HB5.out.size
    unfold rfV
    obtain ⟨us, hul, huo, hue⟩ := HO5.out
    have HUo : Hid (w5.ownsRow w.heap.size 38 6 (.slice pv 0 cv) 0 (us.flatMap six3)) := huo
    have HUe : Hid _ := hue
    clear hr hst b5 huo hue
    go_wp2_with (at_builtin; refine wpList_append_lies _ rfl _ _ 33 rfl w.heap.size 38 i0 (.agg #[.int .i64 0, .bool false, .int .i64 0, .string ⟨#[]⟩, .slice none 0 0, .slice none 0 0]) 6 88 Tryz.underlying33 hi hz0 hz1 hz2 rfl (by decide) (.slice pv 0 cv) 0 (us.flatMap six3) rfl (World.ownsRow.alloc (World.ownsRow.alloc HUo.out _) _) ⟨w5.heap.size + 1, 0, none⟩ 1 1 (six3 (headJ 10 j, .slice p1 k1 c1, .slice p2 k2 c2)) rfl rfl ?c1 ?c2 (by decide) ?c3 ?c4 ?c5 _ rfl ?_)
    case c1 =>
     have h9 := six_new (w5.alloc (.cells #[.int .i64 (headJ 10 j).k, .bool (headJ 10 j).b, .int .i64 (headJ 10 j).i, .string ⟨(headJ 10 j).s.toArray⟩, .slice p1 k1 c1, .slice p2 k2 c2] 38)) (headJ 10 j) (.slice p1 k1 c1) (.slice p2 k2 c2)
     have e9 : (w5.alloc (.cells #[.int .i64 (headJ 10 j).k, .bool (headJ 10 j).b, .int .i64 (headJ 10 j).i, .string ⟨(headJ 10 j).s.toArray⟩, .slice p1 k1 c1, .slice p2 k2 c2] 38)).heap.size = w5.heap.size + 1 := by simp
     rw [e9] at h9
     exact h9
    case c2 => exact six_one w5 _ _ _ _ _ _ _
    case c3 => (unfold maxLen; decide)
    case c4 => decide
    case c5 => (simp; omega)
    intro gg cap w8 hown8 hgrow8 hat8 hlt8
    have HO8 : Hid (OwnV (fun _ => False) w.heap.size w8 10 ([] ++ [j] : List (J 10)) (.slice (some ⟨gg, 0, none⟩) (0 + 1) cap)) := OwnV.snoc (xs := ([] : List (J 10))) hul (fun i x u hx hu => ⟨(HUe.out i x u hx hu).1, ((HUe.out i x u hx hu).2.alloc _).alloc _⟩) hown8 hgrow8 (by rcases hat8 with h | h; exact Or.inl h; exact Or.inr (by simp at h ⊢; omega)) (((HSt.out.wide (fun c e => by
      rcases e with e | e
      ·exact e.elim
      ·exact Or.inl (HVr.out c e).2)).alloc _).alloc _)
    have HB8 : Hid (Below w.heap.size w w8) := ((HB5.out.alloc HB5.out.size _).alloc (by simp; omega) _).grown hgrow8 (by simp; omega) (fun k e => (HVr.out k e).1)
    clear hown8 hgrow8 hat8 hlt8
    go_wp2_with fail
    go_roundw
    case rel =>
     have hrelN : RLoop w x y (.slice (some ⟨gg, 0, none⟩) (0 + 1) cap) (.int .i64 1) w8 := ⟨HB8.out, Or.inr (Or.inl ⟨j, rfl, HRead.out, HO8.out⟩)⟩
     first | exact hrelN | ((repeat apply Exists.intro); refine ⟨hrelN, ?_⟩; first | rfl | exact ⟨rfl, rfl⟩)
    case measure => (simp [intOf])
  ·subst hi0
   obtain ⟨pv, cv, hvo⟩ := OwnV.shape hO
   have hvo : u4 = .slice pv 1 cv := hvo
   subst hvo
   have HB : Hid (Below w.heap.size w wr) := hB
   have HO : Hid (OwnV (fun _ => False) w.heap.size wr 10 ([A] : List (J 10)) (.slice pv 1 cv)) := hO
   have HA : Hid (read x.data.toList = .ok A) := hA
   clear hB hO hA
   have HRd : Hid (Calls Tryz.prog 32 #[.string y] wr (RReadPost 10 (read y.data.toList) wr)) := by
    have h9 := rfread_any 10 rfl y wr
    rw [readN_ten] at h9
    exact h9
   have n1 : wr.cell? ⟨g, 1, none⟩ = some (.string y) := (HB.out.cell (p := ⟨g, 1, none⟩) (lt_of_block HG.out)).trans (by rw [cell_of_row _ _ _ _ _ _ HG.out]; rfl)
   go_wp2_with fail
   refine Calls.mono HRd.out ?_
   rintro e w5 ⟨b5, h5⟩
   clear HRd n1
   have HB5 : Hid (Below w.heap.size w w5) := HB.out.trans (b5.mono HB.out.size)
   have HO5 : Hid (OwnV (fun _ => False) w.heap.size w5 10 ([A] : List (J 10)) (.slice pv 1 cv)) := OwnV.kept HO.out (below_grownR b5) (own_none (.slice pv 1 cv)) (fun k e => by cases e)
   rcases h5 with ⟨er, hr, her, her2, rfl⟩ | ⟨j, v, hr, rfl, hst⟩
   ·have hbe : ((er : Int) != 0) = true := by rw [bne_iff_ne]; omega
    have HX : Hid (readsE x.data.toList y.data.toList = .error er) := by
     show readsE _ _ = _
     unfold readsE
     rw [HA.out]
     show (match read y.data.toList with | .error e => _ | .ok b => _) = _
     rw [hr]
    unfold rfV
    clear hr b5
    go_wp2_with fail
    go_ret2
    exact ⟨(HB5.out.alloc HB5.out.size _).alloc (by simp; exact Nat.le_succ_of_le HB5.out.size) _, Or.inl ⟨er, HX.out, her, her2, _, _, _, rfl⟩⟩
   ·obtain ⟨nm1, l1, rfl⟩ := rst_form hst
    obtain ⟨⟨p1, k1, c1, rfl⟩, p2, k2, c2, rfl⟩ := rst_sl hst
    have HRead : Hid (read y.data.toList = .ok j) := hr
    have HSt : Hid (RSt (fun c => c < wr.heap.size) w5 10 j (rfV (headJ 10 j) (.slice p1 k1 c1) (.slice p2 k2 c2))) := hst
    have HBx : Hid (Box (w5.alloc (.cells #[.int .i64 (headJ 10 j).k, .bool (headJ 10 j).b, .int .i64 (headJ 10 j).i, .string ⟨(headJ 10 j).s.toArray⟩, .slice p1 k1 c1, .slice p2 k2 c2] 38)) w5.heap.size (headJ 10 j) (.slice p1 k1 c1) (.slice p2 k2 c2)) := box_new w5 (headJ 10 j) _ _
    have HVr : Hid (∀ c, (Value.slice pv 1 cv).ownBlock = some c -> w.heap.size <= c /\ c < wr.heap.size) := OwnV.row HO.out
    have hwr5 : wr.heap.size <= w5.heap.size := b5.size
    have hw5 : w.heap.size <= w5.heap.size := HB5.out.size
    unfold rfV
    obtain ⟨us, hul, huo, hue⟩ := HO5.out
    have HUo : Hid (w5.ownsRow w.heap.size 38 6 (.slice pv 1 cv) 1 (us.flatMap six3)) := huo
    have HUe : Hid _ := hue
    clear hr hst b5 huo hue
    go_wp2_with (at_builtin; refine wpList_append_lies _ rfl _ _ 33 rfl w.heap.size 38 i0 (.agg #[.int .i64 0, .bool false, .int .i64 0, .string ⟨#[]⟩, .slice none 0 0, .slice none 0 0]) 6 88 Tryz.underlying33 hi hz0 hz1 hz2 rfl (by decide) (.slice pv 1 cv) 1 (us.flatMap six3) rfl (World.ownsRow.alloc (World.ownsRow.alloc HUo.out _) _) ⟨w5.heap.size + 1, 0, none⟩ 1 1 (six3 (headJ 10 j, .slice p1 k1 c1, .slice p2 k2 c2)) rfl rfl ?c1 ?c2 (by decide) ?c3 ?c4 ?c5 _ rfl ?_)
    case c1 =>
     have h9 := six_new (w5.alloc (.cells #[.int .i64 (headJ 10 j).k, .bool (headJ 10 j).b, .int .i64 (headJ 10 j).i, .string ⟨(headJ 10 j).s.toArray⟩, .slice p1 k1 c1, .slice p2 k2 c2] 38)) (headJ 10 j) (.slice p1 k1 c1) (.slice p2 k2 c2)
     have e9 : (w5.alloc (.cells #[.int .i64 (headJ 10 j).k, .bool (headJ 10 j).b, .int .i64 (headJ 10 j).i, .string ⟨(headJ 10 j).s.toArray⟩, .slice p1 k1 c1, .slice p2 k2 c2] 38)).heap.size = w5.heap.size + 1 := by simp
     rw [e9] at h9
     exact h9
    case c2 => exact six_one w5 _ _ _ _ _ _ _
    case c3 => (unfold maxLen; decide)
    case c4 => decide
    case c5 => (simp; omega)
    intro gg cap w8 hown8 hgrow8 hat8 hlt8
    have HO8 : Hid (OwnV (fun _ => False) w.heap.size w8 10 ([A] ++ [j] : List (J 10)) (.slice (some ⟨gg, 0, none⟩) (1 + 1) cap)) := OwnV.snoc (xs := ([A] : List (J 10))) hul (fun i x u hx hu => ⟨(HUe.out i x u hx hu).1, ((HUe.out i x u hx hu).2.alloc _).alloc _⟩) hown8 hgrow8 (by rcases hat8 with h | h; exact Or.inl h; exact Or.inr (by simp at h ⊢; omega)) (((HSt.out.wide (fun c e => by
      rcases e with e | e
      ·exact e.elim
      ·exact Or.inl (HVr.out c e).2)).alloc _).alloc _)
    have HB8 : Hid (Below w.heap.size w w8) := ((HB5.out.alloc HB5.out.size _).alloc (by simp; omega) _).grown hgrow8 (by simp; omega) (fun k e => (HVr.out k e).1)
    clear hown8 hgrow8 hat8 hlt8
    go_wp2_with fail
    go_roundw
    case rel =>
     have hrelN : RLoop w x y (.slice (some ⟨gg, 0, none⟩) (1 + 1) cap) (.int .i64 2) w8 := ⟨HB8.out, Or.inr (Or.inr ⟨A, j, rfl, HA.out, HRead.out, HO8.out⟩)⟩
     first | exact hrelN | ((repeat apply Exists.intro); refine ⟨hrelN, ?_⟩; first | rfl | exact ⟨rfl, rfl⟩)
    case measure => (simp [intOf])
  ·subst hi0
   have HB : Hid (Below w.heap.size w wr) := hB
   have HX : Hid (readsE x.data.toList y.data.toList = .ok (A, B)) := by
    show readsE _ _ = _
    unfold readsE
    rw [hA, hB2]
   obtain ⟨p9, c9, hv9⟩ := hO.shape
   have HO : Hid _ := OwnV.vals hO (fun _ _ e => e)
   clear hB hA hB2
   have hne9 : ∃ g9 c9, u4 = .slice (some ⟨g9, 0, none⟩) 2 c9 := by
    rcases HO.out with ⟨h, _⟩ | ⟨g9, c9, h, _⟩
    ·cases h
    ·exact ⟨g9, c9, h⟩
   obtain ⟨g9, c9', hu4⟩ := hne9
   subst hu4
   clear hv9
   go_wp2_with fail
   go_ret2
   exact ⟨HB.out, Or.inr ⟨A, B, g9, c9', HX.out, rfl, HO.out⟩⟩
def ComposedOK (n : Nat) : Prop := ∀ (av : Nat -> Prop) (w : World) (p q : J n) (Tp : TypeId) (xp : Value) (T : TypeId) (x : Value), (∀ c, av c -> c < w.heap.size) -> St av w n p (.iface Tp xp) -> St av w n q (.iface T x) -> Okv n p -> Okv n q -> Tab w.heap.size w ->
 Calls Tryz.prog 22 #[.iface Tp xp, .iface T x] w (MadeV av n (composedP n p q) w)
set_option maxRecDepth 100000 in
set_option maxHeartbeats 1000000 in
theorem composed_flat (av : Nat -> Prop) (n : Nat) (w : World) (p q : J n) (vp : Value) (T : TypeId) (x : Value) (hst : St av w n q (.iface T x)) (hj : isObjJ n q = false) :
  Calls Tryz.prog 22 #[vp, .iface T x] w (MadeV av n (composedP n p q) w) := by
 have ht := ta_flat (flat_type hst hj)
 rw [composed_flatP p hj]
 have HS : Hid (St av w n q (.iface T x)) := hst
 clear hst hj
 go_enter Tryz.func22, Tryz.ntmps22
 go_wp2_with fail
 go_ret2
 exact ⟨Below.refl _ _, Or.inr ⟨_, _, _, rfl, rfl, HS.out⟩⟩
theorem enterC (args : Array Value) (w : World) : (callFunc 43 args).run Tryz.prog w = .ok (.enter 43 args) w := by
 have h1 : (Tryz.f43.name == "runtime.NumGoroutine") = false := by kernel_rfl
 obtain ⟨c, hb⟩ : ∃ c, Tryz.f43.body = some c := ⟨_, rfl⟩
 simp only [beq_eq_false_iff_ne, ne_eq] at h1
 simp [callFunc, Tryz.func43, h1, hb]
set_option maxRecDepth 100000 in
set_option maxHeartbeats 1000000 in
theorem closureC (n : Nat) (hM : ComposedOK n) : OfOK 43 n (ofC (composedP n)) := by
 intro av w v u vv vu hav hv hu okv oku hT
 rcases hu with ⟨rfl, rfl⟩ | ⟨j, T, x, rfl, rfl, hst⟩
 ·have HV : Hid (OptV av w n v vv) := hv
  clear hv okv oku hT hM
  go_enter Tryz.func43, Tryz.ntmps43
  go_wp2_with fail
  go_ret2
  exact ⟨Below.refl _ _, Or.inr ⟨_, _, rfl, rfl, HV.out⟩⟩
 ·rcases hv with ⟨rfl, rfl⟩ | ⟨i, Ti, xi, rfl, rfl, hsi⟩
  ·have HS : Hid (St av w n j (.iface T x)) := hst
   clear hst okv oku hT hM
   go_enter Tryz.func43, Tryz.ntmps43
   go_wp2_with fail
   go_ret2
   exact ⟨Below.refl _ _, Or.inr ⟨_, _, rfl, rfl, Or.inr ⟨_, _, _, rfl, rfl, HS.out⟩⟩⟩
  ·have HC : Hid (Calls Tryz.prog 22 #[.iface Ti xi, .iface T x] w (MadeV av n (composedP n i j) w)) := hM av w i j Ti xi T x hav hsi hst (okv i rfl) (oku j rfl) hT
   have HO : Hid (ofC (composedP n) (some i) (some j) = match composedP n i j with
    | .error e => .error e
    | .ok c => .ok (some c)) := rfl
   clear hM hsi hst okv oku hT hav
   generalize ofC (composedP n) (some i) (some j) = res at *
   go_enter Tryz.func43, Tryz.ntmps43
   go_wp2_with fail
   refine Calls.mono HC.out ?_
   rintro e w2 ⟨b2, h2⟩
   have HB : Hid (Below w.heap.size w w2) := b2
   clear b2
   rcases h2 with ⟨er, h3, h4, h5, rfl⟩ | ⟨k, T', x', h3, rfl, h4⟩
   ·have HR : Hid (res = .error er) := by show res = _; rw [HO.out, h3]
    clear h3
    go_wp2_with fail
    go_ret2
    exact ⟨HB.out, Or.inl ⟨er, HR.out, h4, h5, rfl⟩⟩
   ·have HR : Hid (res = .ok (some k)) := by show res = _; rw [HO.out, h3]
    have HS : Hid (St av w2 n k (.iface T' x')) := h4
    clear h3 h4
    go_wp2_with fail
    go_ret2
    exact ⟨HB.out, Or.inr ⟨_, _, HR.out, rfl, Or.inr ⟨_, _, _, rfl, rfl, HS.out⟩⟩⟩
set_option maxRecDepth 100000 in
set_option maxHeartbeats 1000000 in
theorem composed_mix (n : Nat) (av : Nat -> Prop) (w : World) (p : J (n + 1)) (fs : List (Bs × J n)) (Tp : TypeId) (xp : Value) (T : TypeId) (x : Value) (hp : St av w (n + 1) p (.iface Tp xp)) (hj : isObjJ (n + 1) p = false) (hst : St av w (n + 1) (Sum.inr (Sum.inr fs)) (.iface T x)) :
  Calls Tryz.prog 22 #[.iface Tp xp, .iface T x] w (MadeV av (n + 1) (composedP (n + 1) p (Sum.inr (Sum.inr fs))) w) := by
 obtain ⟨q, cap, e, hf⟩ := flds_of_st hst
 cases e
 obtain ⟨a1, a2, a3, a4, a5, a6⟩ := tas_Object
 have ht := ta_flat (flat_type hp hj)
 rw [composed_mixP fs hj]
 clear hst hf hp hj
 go_enter Tryz.func22, Tryz.ntmps22
 go_wp2_with fail
 go_ret2
 exact ⟨Below.refl _ _, Or.inl ⟨9, rfl, by decide, by decide, rfl⟩⟩
set_option maxRecDepth 100000 in
set_option maxHeartbeats 1000000 in
theorem composed_object (n : Nat) (hM : ComposedOK n) (av : Nat -> Prop) (w : World) (fp fq : List (Bs × J n)) (Tp : TypeId) (xp : Value) (T : TypeId) (x : Value) (hav : ∀ c, av c -> c < w.heap.size) (hp : St av w (n + 1) (Sum.inr (Sum.inr fp)) (.iface Tp xp)) (hst : St av w (n + 1) (Sum.inr (Sum.inr fq)) (.iface T x)) (okp : Okv (n + 1) (Sum.inr (Sum.inr fp))) (okq : Okv (n + 1) (Sum.inr (Sum.inr fq))) (hT : Tab w.heap.size w) :
  Calls Tryz.prog 22 #[.iface Tp xp, .iface T x] w (MadeV av (n + 1) (composedP (n + 1) (Sum.inr (Sum.inr fp)) (Sum.inr (Sum.inr fq))) w) := by
 obtain ⟨p, cap, e, hf⟩ := flds_of_st hst
 cases e
 obtain ⟨p', cap', e, hf'⟩ := flds_of_st hp
 cases e
 obtain ⟨a1, a2, a3, a4, a5, a6⟩ := tas_Object
 have okf := okv_field okp
 have okg := okv_field okq
 have HMt : Hid (Calls Tryz.prog 28 #[.slice p' fp.length cap', .slice p fq.length cap, .func (.func 43) #[] #[]] w (MadeV av (n + 1) (composedP (n + 1) (Sum.inr (Sum.inr fp)) (Sum.inr (Sum.inr fq))) w)) :=
  meet_any 43 n enterC (ofC (composedP n)) (closureC n hM) av fp fq _ _ w hav hf' hf okf.1 okg.1 okf.2 okg.2 hT
 clear hst hf hp hf' okp okq hT hM okf okg hav
 generalize composedP (n + 1) (Sum.inr (Sum.inr fp)) (Sum.inr (Sum.inr fq)) = res at *
 go_enter Tryz.func22, Tryz.ntmps22
 go_wp2_with fail
 refine Calls.mono HMt.out ?_
 rintro e w2 ⟨b2, h2⟩
 have HB : Hid (Below w.heap.size w w2) := b2
 clear b2
 rcases h2 with ⟨er, h3, h4, h5, rfl⟩ | ⟨k, T', x', h3, rfl, h4⟩
 ·have HR : Hid (res = .error er) := h3
  clear h3
  go_wp2_with fail
  go_ret2
  exact ⟨HB.out, Or.inl ⟨er, HR.out, h4, h5, rfl⟩⟩
 ·have HR : Hid (res = .ok k) := h3
  have HS : Hid (St av w2 (n + 1) k (.iface T' x')) := h4
  clear h3 h4
  go_wp2_with fail
  go_ret2
  exact ⟨HB.out, Or.inr ⟨_, _, _, HR.out, rfl, HS.out⟩⟩
theorem composed_ok : ∀ n, ComposedOK n
 | 0 => fun av w p q Tp xp T x hav hp hst okp okq hT => composed_flat av 0 w p q _ T x hst rfl
 | n + 1 => fun av w p q Tp xp T x hav hp hst okp okq hT => by
  match p, q, hp, hst, okp, okq with
  | p, Sum.inl l, _, hst, _, _ => exact composed_flat av _ w p _ _ T x hst rfl
  | p, Sum.inr (Sum.inl xs), _, hst, _, _ => exact composed_flat av _ w p _ _ T x hst rfl
  | Sum.inl l, Sum.inr (Sum.inr fs), hp, hst, _, _ => exact composed_mix n av w _ fs Tp xp T x hp rfl hst
  | Sum.inr (Sum.inl xs), Sum.inr (Sum.inr fs), hp, hst, _, _ => exact composed_mix n av w _ fs Tp xp T x hp rfl hst
  | Sum.inr (Sum.inr fp), Sum.inr (Sum.inr fs), hp, hst, okp, okq => exact composed_object n (composed_ok n) av w fp fs Tp xp T x hav hp hst okp okq hT
set_option maxRecDepth 100000 in
set_option maxHeartbeats 1000000 in
theorem equal_any (av : Nat -> Prop) (n : Nat) (i j : J n) (Ti : TypeId) (xi : Value) (T : TypeId) (x : Value) (w : World) (hi : St av w n i (.iface Ti xi)) (hj : St av w n j (.iface T x)) (oki : Okv n i) (okj : Okv n j) (hT : Tab w.heap.size w) :
  Calls Tryz.prog 38 #[.iface Ti xi, .iface T x] w fun e w' => e = .returned (.bool (decide (tell n i = tell n j))) /\ Below w.heap.size w w' := by
 have H1 : Hid (Calls Tryz.prog 44 #[.iface Ti xi] w fun e w' => e = .returned (.string ⟨(tell n i).toArray⟩) /\ Below w.heap.size w w') := text_any n av i _ w hi oki.fit hT (by have := oki.len; omega)
 have H2 : Hid (∀ w1, Below w.heap.size w w1 -> Calls Tryz.prog 44 #[.iface T x] w1 fun e w' => e = .returned (.string ⟨(tell n j).toArray⟩) /\ Below w1.heap.size w1 w') := fun w1 hb => text_any n av j _ w1 (hj.ona hb) okj.fit (hT.on hb) (by have := okj.len; omega)
 have hbe : ((⟨(tell n i).toArray⟩ : ByteArray).toList == (⟨(tell n j).toArray⟩ : ByteArray).toList) = decide (tell n i = tell n j) := bytes_eq _ _
 clear hi hj oki okj hT
 generalize decide (tell n i = tell n j) = r at *
 generalize (⟨(tell n i).toArray⟩ : ByteArray) = ti at *
 generalize (⟨(tell n j).toArray⟩ : ByteArray) = tj at *
 go_enter Tryz.func38, Tryz.ntmps38
 go_wp2_with fail
 refine Calls.mono H1.out ?_
 rintro e w1 ⟨rfl, b1⟩
 have HB1 : Hid (Below w.heap.size w w1) := b1
 clear b1
 go_wp2_with fail
 refine Calls.mono (H2.out w1 HB1.out) ?_
 rintro e w2 ⟨rfl, b2⟩
 have HB2 : Hid (Below w.heap.size w w2) := HB1.out.trans (b2.mono HB1.out.size)
 clear b2
 go_wp2_with fail
 go_ret
 exact ⟨by rw [<- hbe]; rfl, HB2.out⟩
def BetweenOK (n : Nat) : Prop := ∀ (av : Nat -> Prop) (w : World) (a : Option (J n)) (b : J n) (va : Value) (T : TypeId) (x : Value), (∀ c, av c -> c < w.heap.size) -> OptV av w n a va -> St av w n b (.iface T x) -> OkO n a -> Okv n b -> Tab w.heap.size w ->
 Calls Tryz.prog 19 #[va, .iface T x] w (MadeV av n (betweenP n a b) w)
set_option maxRecDepth 100000 in
set_option maxHeartbeats 1000000 in
theorem between_flat (av : Nat -> Prop) (n : Nat) (w : World) (a : Option (J n)) (b : J n) (va : Value) (T : TypeId) (x : Value) (hst : St av w n b (.iface T x)) (hj : isObjJ n b = false) :
  Calls Tryz.prog 19 #[va, .iface T x] w (MadeV av n (betweenP n a b) w) := by
 have ht := ta_flat (flat_type hst hj)
 rw [between_flatP a hj]
 have HS : Hid (St av w n b (.iface T x)) := hst
 clear hst hj
 go_enter Tryz.func19, Tryz.ntmps19
 go_wp2_with fail
 go_ret2
 exact ⟨Below.refl _ _, Or.inr ⟨_, _, _, rfl, rfl, HS.out⟩⟩
theorem enterD (args : Array Value) (w : World) : (callFunc 37 args).run Tryz.prog w = .ok (.enter 37 args) w := by
 have h1 : (Tryz.f37.name == "runtime.NumGoroutine") = false := by kernel_rfl
 obtain ⟨c, hb⟩ : ∃ c, Tryz.f37.body = some c := ⟨_, rfl⟩
 simp only [beq_eq_false_iff_ne, ne_eq] at h1
 simp [callFunc, Tryz.func37, h1, hb]
set_option maxRecDepth 100000 in
set_option maxHeartbeats 1000000 in
theorem closureD_nil (n : Nat) (av : Nat -> Prop) (w : World) (v : Option (J n)) (vv : Value) (hv : OptV av w n v vv) (g : Option (J n) -> J n -> Except Nat (J n)) :
  Calls Tryz.prog 37 #[vv, .nilIface] w (MakePost av n (ofDz (some (leaf n none)) g v none) w) := by
 have HR : Hid (ofDz (some (leaf n none)) g v none = .ok (some (leaf n none))) := by
  show ofDz (some (leaf n none)) g v none = _
  cases v <;> rfl
 rw [HR.out]
 have HS : Hid (St av w n (leaf n none) (.iface 66 (.agg #[]))) := st_leaf av w n none
 clear hv
 go_enter Tryz.func37, Tryz.ntmps37
 go_wp2_with fail
 go_ret2
 exact ⟨Below.refl _ _, Or.inr ⟨_, _, rfl, rfl, Or.inr ⟨_, _, _, rfl, rfl, HS.out⟩⟩⟩
set_option maxRecDepth 100000 in
set_option maxHeartbeats 1000000 in
theorem closureD_new (n : Nat) (hM : BetweenOK n) (av : Nat -> Prop) (w : World) (j : J n) (T : TypeId) (x : Value) (hav : ∀ c, av c -> c < w.heap.size) (hst : St av w n j (.iface T x)) (okj : Okv n j) (hT : Tab w.heap.size w) (z : Option (J n)) :
  Calls Tryz.prog 37 #[.nilIface, .iface T x] w (MakePost av n (ofDz z (betweenP n) none (some j)) w) := by
 have HN : Hid (Calls Tryz.prog 31 #[.iface T x] w fun e w' => e = .returned (.bool (isNullJ n j)) /\ w' = w) := isNull_any av n j T x w hst
 have HC : Hid (Calls Tryz.prog 19 #[.nilIface, .iface T x] w (MadeV av n (betweenP n none j) w)) := hM av w none j .nilIface T x hav (Or.inl ⟨rfl, rfl⟩) hst (fun x hx => by cases hx) okj hT
 have HO : Hid (ofDz z (betweenP n) none (some j) = if isNullJ n j then .error 9 else match betweenP n none j with
  | .error e => .error e
  | .ok c => .ok (some c)) := rfl
 clear hM hst okj hT hav
 generalize ofDz z (betweenP n) none (some j) = res at *
 cases hb : isNullJ n j with
 | true =>
  rw [hb] at HN HO
  have HR : Hid (res = .error 9) := by show res = _; rw [HO.out]; rfl
  go_enter Tryz.func37, Tryz.ntmps37
  go_wp2_with fail
  refine Calls.mono HN.out ?_
  rintro e w1 ⟨rfl, rfl⟩
  go_wp2_with fail
  go_ret2
  exact ⟨Below.refl _ _, Or.inl ⟨9, HR.out, by decide, by decide, rfl⟩⟩
 | false =>
  rw [hb] at HN HO
  go_enter Tryz.func37, Tryz.ntmps37
  go_wp2_with fail
  refine Calls.mono HN.out ?_
  rintro e w1 ⟨rfl, rfl⟩
  go_wp2_with fail
  refine Calls.mono HC.out ?_
  rintro e w2 ⟨b2, h2⟩
  have HB : Hid (Below w1.heap.size w1 w2) := b2
  clear b2
  rcases h2 with ⟨er, h3, h4, h5, rfl⟩ | ⟨k, T', x', h3, rfl, h4⟩
  ·have HR : Hid (res = .error er) := by show res = _; rw [HO.out, h3]; rfl
   clear h3
   go_wp2_with fail
   go_ret2
   exact ⟨HB.out, Or.inl ⟨er, HR.out, h4, h5, rfl⟩⟩
  ·have HR : Hid (res = .ok (some k)) := by show res = _; rw [HO.out, h3]; rfl
   have HS : Hid (St av w2 n k (.iface T' x')) := h4
   clear h3 h4
   go_wp2_with fail
   go_ret2
   exact ⟨HB.out, Or.inr ⟨_, _, HR.out, rfl, Or.inr ⟨_, _, _, rfl, rfl, HS.out⟩⟩⟩
set_option maxRecDepth 100000 in
set_option maxHeartbeats 1000000 in
theorem closureD_two (n : Nat) (hM : BetweenOK n) (av : Nat -> Prop) (w : World) (i j : J n) (Ti : TypeId) (xi : Value) (T : TypeId) (x : Value) (hav : ∀ c, av c -> c < w.heap.size) (hsi : St av w n i (.iface Ti xi)) (hst : St av w n j (.iface T x)) (oki : Okv n i) (okj : Okv n j) (hT : Tab w.heap.size w) (z : Option (J n)) :
  Calls Tryz.prog 37 #[.iface Ti xi, .iface T x] w (MakePost av n (ofDz z (betweenP n) (some i) (some j)) w) := by
 have HQ : Hid (Calls Tryz.prog 38 #[.iface Ti xi, .iface T x] w fun e w' => e = .returned (.bool (decide (tell n i = tell n j))) /\ Below w.heap.size w w') := equal_any av n i j Ti xi T x w hsi hst oki okj hT
 have HN : Hid (∀ w1, Below w.heap.size w w1 -> Calls Tryz.prog 31 #[.iface T x] w1 fun e w' => e = .returned (.bool (isNullJ n j)) /\ w' = w1) := fun w1 hb => isNull_any av n j T x w1 (hst.ona hb)
 have HC : Hid (∀ w1, Below w.heap.size w w1 -> Calls Tryz.prog 19 #[.iface Ti xi, .iface T x] w1 (MadeV av n (betweenP n (some i) j) w1)) := fun w1 hb =>
  hM av w1 (some i) j _ T x (fun c hc => by have := hav c hc; have := hb.size; omega) (Or.inr ⟨i, Ti, xi, rfl, rfl, hsi.ona hb⟩) (hst.ona hb) (fun x hx => by cases hx; exact oki) okj (hT.on hb)
 have HO : Hid (ofDz z (betweenP n) (some i) (some j) = if decide (tell n i = tell n j) then .ok none else if isNullJ n j then .error 9 else match betweenP n (some i) j with
  | .error e => .error e
  | .ok c => .ok (some c)) := rfl
 clear hM hst hsi oki okj hT hav
 generalize ofDz z (betweenP n) (some i) (some j) = res at *
 generalize decide (tell n i = tell n j) = q at *
 cases q with
 | true =>
  have HR : Hid (res = .ok none) := by show res = _; rw [HO.out]; rfl
  go_enter Tryz.func37, Tryz.ntmps37
  go_wp2_with fail
  refine Calls.mono HQ.out ?_
  rintro e w1 ⟨rfl, b1⟩
  have HB : Hid (Below w.heap.size w w1) := b1
  clear b1
  go_wp2_with fail
  go_ret2
  exact ⟨HB.out, Or.inr ⟨_, _, HR.out, rfl, Or.inl ⟨rfl, rfl⟩⟩⟩
 | false =>
  have HO2 : Hid (res = if isNullJ n j then .error 9 else match betweenP n (some i) j with
   | .error e => .error e
   | .ok c => .ok (some c)) := by show res = _; rw [HO.out]; rfl
  clear HO
  go_enter Tryz.func37, Tryz.ntmps37
  go_wp2_with fail
  refine Calls.mono HQ.out ?_
  rintro e w1 ⟨rfl, b1⟩
  have HB1 : Hid (Below w.heap.size w w1) := b1
  clear b1
  go_wp2_with fail
  refine Calls.mono (HN.out w1 HB1.out) ?_
  rintro e w2 ⟨rfl, rfl⟩
  cases hb : isNullJ n j with
  | true =>
   have HR : Hid (res = .error 9) := by show res = _; rw [HO2.out, hb]; rfl
   go_wp2_with fail
   go_ret2
   exact ⟨HB1.out, Or.inl ⟨9, HR.out, by decide, by decide, rfl⟩⟩
  | false =>
   have HO3 : Hid (res = match betweenP n (some i) j with
    | .error e => .error e
    | .ok c => .ok (some c)) := by show res = _; rw [HO2.out, hb]; rfl
   go_wp2_with fail
   refine Calls.mono (HC.out w2 HB1.out) ?_
   rintro e w3 ⟨b3, h3⟩
   have HB3 : Hid (Below w.heap.size w w3) := HB1.out.trans (b3.mono HB1.out.size)
   clear b3
   rcases h3 with ⟨er, h3, h4, h5, rfl⟩ | ⟨k, T', x', h3, rfl, h4⟩
   ·have HR : Hid (res = .error er) := by show res = _; rw [HO3.out, h3]
    clear h3
    go_wp2_with fail
    go_ret2
    exact ⟨HB3.out, Or.inl ⟨er, HR.out, h4, h5, rfl⟩⟩
   ·have HR : Hid (res = .ok (some k)) := by show res = _; rw [HO3.out, h3]
    have HS : Hid (St av w3 n k (.iface T' x')) := h4
    clear h3 h4
    go_wp2_with fail
    go_ret2
    exact ⟨HB3.out, Or.inr ⟨_, _, HR.out, rfl, Or.inr ⟨_, _, _, rfl, rfl, HS.out⟩⟩⟩
theorem closureD (n : Nat) (hM : BetweenOK n) : OfOK 37 n (ofDz (some (leaf n none)) (betweenP n)) := by
 intro av w v u vv vu hav hv hu okv oku hT
 rcases hu with ⟨rfl, rfl⟩ | ⟨j, T, x, rfl, rfl, hst⟩
 ·exact closureD_nil n av w v vv hv _
 ·rcases hv with ⟨rfl, rfl⟩ | ⟨i, Ti, xi, rfl, rfl, hsi⟩
  ·exact closureD_new n hM av w j T x hav hst (oku j rfl) hT _
  ·exact closureD_two n hM av w i j Ti xi T x hav hsi hst (okv i rfl) (oku j rfl) hT _
set_option maxRecDepth 100000 in
set_option maxHeartbeats 1000000 in
theorem between_object (n : Nat) (hM : BetweenOK n) (av : Nat -> Prop) (w : World) (d : Option (J (n + 1))) (fs : List (Bs × J n)) (vd : Value) (T : TypeId) (x : Value) (hav : ∀ c, av c -> c < w.heap.size) (hd' : OptV av w (n + 1) d vd) (hst : St av w (n + 1) (Sum.inr (Sum.inr fs)) (.iface T x)) (okd : OkO (n + 1) d) (okv : Okv (n + 1) (Sum.inr (Sum.inr fs))) (hT : Tab w.heap.size w) :
  Calls Tryz.prog 19 #[vd, .iface T x] w (MadeV av (n + 1) (betweenP (n + 1) d (Sum.inr (Sum.inr fs))) w) := by
 obtain ⟨p, cap, e, hf⟩ := flds_of_st hst
 cases e
 obtain ⟨a1, a2, a3, a4, a5, a6⟩ := tas_Object
 have HFo' : Hid (Calls Tryz.prog 29 #[vd] w fun e w' => ∃ v', e = .returned v' /\ w' = w /\ Flds av w n (fieldsP d) v') := fieldsOf_any av n d vd w hd'
 have okf := okv_fields okd
 have okg := okv_field okv
 have HMt : Hid (∀ v', Flds av w n (fieldsP d) v' -> Calls Tryz.prog 28 #[v', .slice p fs.length cap, .func (.func 37) #[] #[]] w (MadeV av (n + 1) (betweenP (n + 1) d (Sum.inr (Sum.inr fs))) w)) := fun v' hv' => by
  have h := meet_any 37 n enterD (ofDz (some (leaf n none)) (betweenP n)) (closureD n hM) av (fieldsP d) fs v' (.slice p fs.length cap) w hav hv' hf okf.1 okg.1 okf.2 okg.2 hT
  rw [ofD_congr] at h
  exact h
 clear hst hf hd' okd okv hT hM okf okg hav
 generalize betweenP (n + 1) d (Sum.inr (Sum.inr fs)) = res at *
 go_enter Tryz.func19, Tryz.ntmps19
 go_wp2_with fail
 refine Calls.mono HFo'.out ?_
 rintro e w1 ⟨v', rfl, rfl, hv'⟩
 have HMv : Hid _ := HMt.out v' hv'
 clear hv'
 go_wp2_with fail
 refine Calls.mono HMv.out ?_
 rintro e w2 ⟨b2, h2⟩
 have HB : Hid (Below w1.heap.size w1 w2) := b2
 clear b2
 rcases h2 with ⟨er, h3, h4, h5, rfl⟩ | ⟨k, T', x', h3, rfl, h4⟩
 ·have HR : Hid (res = .error er) := h3
  clear h3
  go_wp2_with fail
  go_ret2
  exact ⟨HB.out, Or.inl ⟨er, HR.out, h4, h5, rfl⟩⟩
 ·have HR : Hid (res = .ok k) := h3
  have HS : Hid (St av w2 (n + 1) k (.iface T' x')) := h4
  clear h3 h4
  go_wp2_with fail
  go_ret2
  exact ⟨HB.out, Or.inr ⟨_, _, _, HR.out, rfl, HS.out⟩⟩
theorem between_ok : ∀ n, BetweenOK n
 | 0 => fun av w d v vd T x hav hd' hst okd okv hT => between_flat av 0 w d v vd T x hst rfl
 | n + 1 => fun av w d v vd T x hav hd' hst okd okv hT => by
  match v, hst, okv with
  | Sum.inl l, hst, _ => exact between_flat av _ w d _ vd T x hst rfl
  | Sum.inr (Sum.inl xs), hst, _ => exact between_flat av _ w d _ vd T x hst rfl
  | Sum.inr (Sum.inr fs), hst, okv => exact between_object n (between_ok n) av w d fs vd T x hav hd' hst okd okv hT
def SaysM (w : World) (f : Nat) (args : Array Value) (v : Value) : Prop := ∀ w1, Below w.heap.size w w1 -> Calls Tryz.prog f args w1 fun e w' => e = .returned v /\ Below w1.heap.size w1 w'
theorem enterMerged (args : Array Value) (w : World) : (callFunc 15 args).run Tryz.prog w = .ok (.enter 15 args) w := by
 have h1 : (Tryz.f15.name == "runtime.NumGoroutine") = false := by kernel_rfl
 obtain ⟨c, hb⟩ : ∃ c, Tryz.f15.body = some c := ⟨_, rfl⟩
 simp only [beq_eq_false_iff_ne, ne_eq] at h1
 simp [callFunc, Tryz.func15, h1, hb]
theorem enterComposed (args : Array Value) (w : World) : (callFunc 22 args).run Tryz.prog w = .ok (.enter 22 args) w := by
 have h1 : (Tryz.f22.name == "runtime.NumGoroutine") = false := by kernel_rfl
 obtain ⟨c, hb⟩ : ∃ c, Tryz.f22.body = some c := ⟨_, rfl⟩
 simp only [beq_eq_false_iff_ne, ne_eq] at h1
 simp [callFunc, Tryz.func22, h1, hb]
theorem apply_both {N : Nat} (hN : N <= 1000) : BothOK 15 N (applyR N) :=
 ⟨fun w A B Ta xa Tb xb hA hB tA tB hT => merged_ok N (fun _ => False) w (some A) B _ Tb xb (fun c h => h.elim) (Or.inr ⟨A, Ta, xa, rfl, rfl, hA⟩) hB (fun x hx => by cases hx; exact tA.okv) tB.okv hT, fun A B j tA tB h => (apply_makes N).fine hN tA tB h⟩
theorem compose_both {N : Nat} (hN : N <= 1000) : BothOK 22 N (composedP N) :=
 ⟨fun w A B Ta xa Tb xb hA hB tA tB hT => composed_ok N (fun _ => False) w A B Ta xa Tb xb (fun c h => h.elim) hA hB tA.okv tB.okv hT, fun A B j tA tB h => (compose_makes N).fine hN tA tB h⟩
set_option maxRecDepth 100000 in
set_option maxHeartbeats 2000000 in
theorem apply_says {N : Nat} (hN : 20 <= N) (hN2 : N <= 1000) {a b : ByteArray} {x y : Bs} {w : World} {r : Array Value} (hT : Tab w.heap.size w) (ha : a.size <= maxLen) (hb : b.size <= maxLen) (hx : a.data.toList = x) (hy : b.data.toList = y) (hr : bothA N (applyR N) x y = r) (hform : ∃ (s : ByteArray) (er : Nat), r = #[.string s, .int .i64 er]) :
  SaysM w 6 #[.string a, .string b] (.tuple r) := by
 intro w1 hb1
 obtain ⟨s, er, rfl⟩ := hform
 have HC : Hid (Calls Tryz.prog 14 #[.string a, .string b, .func (.func 15) #[] #[]] w1 fun e w' => e = .returned (.tuple #[.string s, .int .i64 er]) /\ Below w1.heap.size w1 w') := by
  have h := ofBoth_any 15 N hN enterMerged (applyR N) (apply_both hN2) a b w1 ha hb (hT.on hb1)
  rw [hx, hy, hr] at h
  exact h
 clear hr hT hb1
 go_enter Tryz.func6, Tryz.ntmps6
 go_wp2_with fail
 refine Calls.mono HC.out ?_
 rintro e w2 ⟨rfl, b2⟩
 have HB : Hid (Below w1.heap.size w1 w2) := b2
 clear b2
 go_wp2_with fail
 go_ret2
 exact ⟨rfl, HB.out⟩
set_option maxRecDepth 100000 in
set_option maxHeartbeats 2000000 in
theorem compose_says {N : Nat} (hN : 20 <= N) (hN2 : N <= 1000) {a b : ByteArray} {x y : Bs} {w : World} {r : Array Value} (hT : Tab w.heap.size w) (ha : a.size <= maxLen) (hb : b.size <= maxLen) (hx : a.data.toList = x) (hy : b.data.toList = y) (hr : bothA N (composedP N) x y = r) (hform : ∃ (s : ByteArray) (er : Nat), r = #[.string s, .int .i64 er]) :
  SaysM w 10 #[.string a, .string b] (.tuple r) := by
 intro w1 hb1
 obtain ⟨s, er, rfl⟩ := hform
 have HC : Hid (Calls Tryz.prog 14 #[.string a, .string b, .func (.func 22) #[] #[]] w1 fun e w' => e = .returned (.tuple #[.string s, .int .i64 er]) /\ Below w1.heap.size w1 w') := by
  have h := ofBoth_any 22 N hN enterComposed (composedP N) (compose_both hN2) a b w1 ha hb (hT.on hb1)
  rw [hx, hy, hr] at h
  exact h
 clear hr hT hb1
 go_enter Tryz.func10, Tryz.ntmps10
 go_wp2_with fail
 refine Calls.mono HC.out ?_
 rintro e w2 ⟨rfl, b2⟩
 have HB : Hid (Below w1.heap.size w1 w2) := b2
 clear b2
 go_wp2_with fail
 go_ret2
 exact ⟨rfl, HB.out⟩
theorem enterBetween (args : Array Value) (w : World) : (callFunc 19 args).run Tryz.prog w = .ok (.enter 19 args) w := by
 have h1 : (Tryz.f19.name == "runtime.NumGoroutine") = false := by kernel_rfl
 obtain ⟨c, hb⟩ : ∃ c, Tryz.f19.body = some c := ⟨_, rfl⟩
 simp only [beq_eq_false_iff_ne, ne_eq] at h1
 simp [callFunc, Tryz.func19, h1, hb]
def diffR (N : Nat) (A B : J N) : Except Nat (J N) := betweenP N (some A) B
theorem diff_makes (N : Nat) : Makes N (diffR N) :=
 ⟨fun A B j hA hB h => between_good N (some A) B j (fun x hx => by cases hx; exact hA) hB h, fun A B j h => by
  have h1 := between_wgt N (some A) B j h
  simp only [wO] at h1
  omega, fun A B e h => between_err N (some A) B e h⟩
theorem diff_both {N : Nat} (hN : N <= 1000) : BothOK 19 N (diffR N) :=
 ⟨fun w A B Ta xa Tb xb hA hB tA tB hT => between_ok N (fun _ => False) w (some A) B _ Tb xb (fun c h => h.elim) (Or.inr ⟨A, Ta, xa, rfl, rfl, hA⟩) hB (fun x hx => by cases hx; exact tA.okv) tB.okv hT, fun A B j tA tB h => (diff_makes N).fine hN tA tB h⟩
set_option maxRecDepth 100000 in
set_option maxHeartbeats 2000000 in
theorem diff_says {N : Nat} (hN : 20 <= N) (hN2 : N <= 1000) {a b : ByteArray} {x y : Bs} {w : World} {r : Array Value} (hT : Tab w.heap.size w) (ha : a.size <= maxLen) (hb : b.size <= maxLen) (hx : a.data.toList = x) (hy : b.data.toList = y) (hr : bothA N (diffR N) x y = r) (hform : ∃ (s : ByteArray) (er : Nat), r = #[.string s, .int .i64 er]) :
  SaysM w 8 #[.string a, .string b] (.tuple r) := by
 intro w1 hb1
 obtain ⟨s, er, rfl⟩ := hform
 have HC : Hid (Calls Tryz.prog 14 #[.string a, .string b, .func (.func 19) #[] #[]] w1 fun e w' => e = .returned (.tuple #[.string s, .int .i64 er]) /\ Below w1.heap.size w1 w') := by
  have h := ofBoth_any 19 N hN enterBetween (diffR N) (diff_both hN2) a b w1 ha hb (hT.on hb1)
  rw [hx, hy, hr] at h
  exact h
 clear hr hT hb1
 go_enter Tryz.func8, Tryz.ntmps8
 go_wp2_with fail
 refine Calls.mono HC.out ?_
 rintro e w2 ⟨rfl, b2⟩
 have HB : Hid (Below w1.heap.size w1 w2) := b2
 clear b2
 go_wp2_with fail
 go_ret2
 exact ⟨rfl, HB.out⟩
end Go.Proofs.YtjcdklbimaclkaaGreatDoor
