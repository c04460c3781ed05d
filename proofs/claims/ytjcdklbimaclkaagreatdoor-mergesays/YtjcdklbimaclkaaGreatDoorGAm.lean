import Derived.Test.YtjcdklbimaclkaaGreatDoorGAl
import Derived.Handy
import Derived.Test.YtjcdklbimaclkaaGreatDoorGAa
import Derived.Test.YtjcdklbimaclkaaGreatDoorGAc
namespace Go.Proofs.YtjcdklbimaclkaaGreatDoor
open Go.RowKit
set_option linter.unusedVariables false
set_option linter.unusedSimpArgs false
structure Okv (n : Nat) (j : J n) : Prop where
 fit : Fit n j
 nodes : nodes n j <= 2000
 len : (tell n j).length <= 100000
def OkO (n : Nat) (o : Option (J n)) : Prop := ∀ x, o = some x -> Okv n x
def MakePost (av : Nat -> Prop) (n : Nat) (r : Except Nat (Option (J n))) (w : World) (e : Ending) (w' : World) : Prop :=
 Below w.heap.size w w' /\ ((∃ er : Nat, r = .error er /\ er ≠ 0 /\ er < 100 /\ e = .returned (.tuple #[.nilIface, .int .i64 er])) ∨ ∃ m v, r = .ok m /\ e = .returned (.tuple #[v, .int .i64 0]) /\ OptV av w' n m v)
def MadeV (av : Nat -> Prop) (n : Nat) (r : Except Nat (J n)) (w : World) (e : Ending) (w' : World) : Prop :=
 Below w.heap.size w w' /\ ((∃ er : Nat, r = .error er /\ er ≠ 0 /\ er < 100 /\ e = .returned (.tuple #[.nilIface, .int .i64 er])) ∨ ∃ j T x, r = .ok j /\ e = .returned (.tuple #[.iface T x, .int .i64 0]) /\ St av w' n j (.iface T x))
def OfOK (f n : Nat) (of : Of (J n)) : Prop :=
 ∀ (av : Nat -> Prop) (w : World) (v u : Option (J n)) (vv vu : Value), (∀ c, av c -> c < w.heap.size) -> OptV av w n v vv -> OptV av w n u vu -> OkO n v -> OkO n u -> Tab w.heap.size w ->
  Calls Tryz.prog f #[vv, vu] w (MakePost av n (of v u) w)
def lenV : Value -> Nat
 | .slice _ n _ => n
 | _ => 0
theorem below_grown {w w' : World} (h : Below w.heap.size w w') : w.grownBy w' none := ⟨h.os, h.tape, h.output, h.size, fun k hk _ => h.block k hk⟩
theorem new_two (w : World) (x y : Value) (e : TypeId) : ∀ (j : Nat) (u : Value), [x, y][j]? = some u -> (w.alloc (.cells #[x, y] e)).cell? ((⟨w.heap.size, 0, none⟩ : Addr).add j) = some u := by
 intro j u hj
 match j, hj with
 | 0, hj => simp at hj; subst hj; simp [Addr.add]
 | 1, hj => simp at hj; subst hj; simp [Addr.add]
theorem two_of {x y : Value} (h : x.oneCell' = true) (k : y.oneCell' = true) : ∀ u ∈ [x, y], u.oneCell' = true := by
 intro u hu
 simp at hu
 rcases hu with rfl | rfl
 ·exact h
 ·exact k
def addM {n : Nat} (acc : List (Bs × J n)) (r : Except Nat (List (Bs × J n))) : Except Nat (J (n + 1)) :=
 match r with
 | .error e => .error e
 | .ok l => .ok (Sum.inr (Sum.inr (acc ++ l)))
theorem addM_nil {n : Nat} (r : Except Nat (List (Bs × J n))) : addM [] r = objE r := by cases r <;> rfl
theorem addM_end {n : Nat} (of : Of (J n)) (acc : List (Bs × J n)) (k : Nat) : addM acc (meetF of k [] []) = .ok (Sum.inr (Sum.inr acc)) := by
 cases k with
 | zero => simp [meetF, addM]
 | succ k => simp [meetF, addM]
theorem addM_err {n : Nat} {of : Of (J n)} {acc a b : List (Bs × J n)} {k e : Nat} (hne : a.length + b.length ≠ 0) (h : of (takeV a (lowName a b)) (takeV b (lowName a b)) = .error e) : addM acc (meetF of (k + 1) a b) = .error e := by
 simp only [meetF]
 rw [if_neg hne, h]
 rfl
theorem addM_ok {n : Nat} {of : Of (J n)} {acc a b : List (Bs × J n)} {k : Nat} {m : Option (J n)} (hne : a.length + b.length ≠ 0) (h : of (takeV a (lowName a b)) (takeV b (lowName a b)) = .ok m) :
  addM acc (meetF of (k + 1) a b) = addM (acc ++ withM (lowName a b) m []) (meetF of k (takeR a (lowName a b)) (takeR b (lowName a b))) := by
 simp only [meetF]
 rw [if_neg hne, h]
 cases hr : meetF of k (takeR a (lowName a b)) (takeR b (lowName a b)) with
 | error e => rfl
 | ok r => cases m <;> simp [addM, withM]
structure MInv (av : Nat -> Prop) (n : Nat) (of : Of (J n)) (res : Except Nat (J (n + 1))) (w0 wr : World) (x y o : Value) (a b acc : List (Bs × J n)) (k g cap : Nat) (us : List Value) : Prop where
 fa : Flds (fun c => av c ∨ c = g) wr n a x
 fb : Flds (fun c => av c ∨ c = g) wr n b y
 out : o = .slice (some ⟨g, 0, none⟩) acc.length cap
 row : Row wr 86 2 g acc.length cap (flat acc us)
 len : us.length = acc.length
 els : ∀ (i : Nat) (f : Bs × J n) (u : Value), acc[i]? = some f -> us[i]? = some u -> St (fun c => av c ∨ c = g) wr n f.2 u
 new : w0.heap.size <= g
 bel : Below w0.heap.size w0 wr
 oka : ∀ x ∈ a, Okv n x.2
 okb : ∀ x ∈ b, Okv n x.2
 many : acc.length + a.length + b.length <= 4000
 fuel : a.length + b.length <= k
 eq : res = addM acc (meetF of k a b)
theorem MInv.start {av : Nat -> Prop} {n : Nat} {of : Of (J n)} {w : World} {va vb : Value} {a b : List (Bs × J n)} (hav : ∀ c, av c -> c < w.heap.size) (ha : Flds av w n a va) (hb : Flds av w n b vb)
  (oka : ∀ x ∈ a, Okv n x.2) (okb : ∀ x ∈ b, Okv n x.2) (hla : a.length <= 2000) (hlb : b.length <= 2000) :
  MInv av n of (objE (meetP of a b)) w (w.alloc (.cells #[] 86)) va vb (.slice (some ⟨w.heap.size, 0, none⟩) 0 0) a b [] (a.length + b.length) w.heap.size 0 [] := by
 have hb1 : Below w.heap.size w (w.alloc (.cells #[] 86)) := (Below.refl _ _).alloc (Nat.le_refl _) _
 have hm : ∀ c, c < w.heap.size -> ¬ av c -> ¬ (av c ∨ c = w.heap.size) := fun c hc h => by
  rintro (h' | h')
  ·exact h h'
  ·omega
 refine ⟨ha.move hb1.size (fun c hc _ => hb1.block c hc) hm, hb.move hb1.size (fun c hc _ => hb1.block c hc) hm, rfl, ⟨rfl, #[], heap_alloc_new w _, Nat.le_refl _, by unfold maxLen; omega, rfl, rfl⟩, rfl, fun i f u hf => by simp at hf, Nat.le_refl _, hb1, oka, okb, by simp; omega, Nat.le_refl _, ?_⟩
 rw [addM_nil]
 rfl
theorem MInv.pass {av : Nat -> Prop} {n : Nat} {of : Of (J n)} {res : Except Nat (J (n + 1))} {w0 wr w1 : World} {x y o x' y' : Value} {a b acc : List (Bs × J n)} {k g cap : Nat} {us : List Value} (h : MInv av n of res w0 wr x y o a b acc (k + 1) g cap us) (hb : Below wr.heap.size wr w1)
  (hne : a.length + b.length ≠ 0) (ho : of (takeV a (lowName a b)) (takeV b (lowName a b)) = .ok none) (hx : Flds (fun c => av c ∨ c = g) w1 n (takeR a (lowName a b)) x') (hy : Flds (fun c => av c ∨ c = g) w1 n (takeR b (lowName a b)) y') :
  MInv av n of res w0 w1 x' y' o (takeR a (lowName a b)) (takeR b (lowName a b)) acc k g cap us := by
 have hl := low_less a b hne
 have h1 := h.many
 have h2 := h.fuel
 refine ⟨hx, hy, h.out, h.row.kept (below_grown hb) (fun e => by cases e), h.len, fun i f u hf hu => (h.els i f u hf hu).ona hb, h.new, h.bel.trans (hb.mono h.bel.size), fun z hz => h.oka z (takeR_mem hz), fun z hz => h.okb z (takeR_mem hz), by omega, by omega, ?_⟩
 rw [h.eq, addM_ok hne ho]
 simp [withM]
theorem MInv.push {av : Nat -> Prop} {n : Nat} {of : Of (J n)} {res : Except Nat (J (n + 1))} {w0 wr w1 w2 : World} {x y o x' y' : Value} {a b acc : List (Bs × J n)} {k g cap g' cap' : Nat} {us : List Value} {m : J n} {v : Value} {ob : Obj} {row : Option Nat}
  (h : MInv av n of res w0 wr x y o a b acc (k + 1) g cap us) (hb : Below wr.heap.size wr w1) (hav : ∀ c, av c -> c < w0.heap.size)
  (hne : a.length + b.length ≠ 0) (ho : of (takeV a (lowName a b)) (takeV b (lowName a b)) = .ok (some m)) (hx : Flds (fun c => av c ∨ c = g) w1 n (takeR a (lowName a b)) x') (hy : Flds (fun c => av c ∨ c = g) w1 n (takeR b (lowName a b)) y')
  (hm : St (fun c => av c ∨ c = g) w1 n m v) (hg : (w1.alloc ob).grownBy w2 row) (hrow : Row w2 86 2 g' (acc.length + 1) cap' (flat acc us ++ [.string ⟨(lowName a b).toArray⟩, v])) (hcase : (g' = g /\ row = some g) ∨ (row = none /\ w1.heap.size < g')) :
  MInv av n of res w0 w2 x' y' (.slice (some ⟨g', 0, none⟩) (acc.length + 1) cap') (takeR a (lowName a b)) (takeR b (lowName a b)) (acc ++ [(lowName a b, m)]) k g' cap' (us ++ [v]) := by
 have hl := low_less a b hne
 have h1 := h.many
 have h2 := h.fuel
 have hgl := h.row.lt
 have hbs := hb.size
 have hsz : w1.heap.size <= w2.heap.size := by have := hg.size; simp at this; omega
 have hblk : ∀ c, c < w1.heap.size -> ¬ (av c ∨ c = g) -> w2.heap[c]? = w1.heap[c]? := fun c hc hn => by
  rw [hg.block c (by simp; omega) (fun e => by
   rcases hcase with ⟨_, rfl⟩ | ⟨rfl, _⟩
   ·cases e
    exact hn (Or.inr rfl)
   ·cases e)]
  exact Below.heap_alloc w1 _ c hc
 have hmv : ∀ c, c < w1.heap.size -> ¬ (av c ∨ c = g) -> ¬ (av c ∨ c = g') := fun c hc hn => by
  rintro (h' | h')
  ·exact hn (Or.inl h')
  ·rcases hcase with ⟨rfl, _⟩ | ⟨_, hlt⟩
   ·exact hn (Or.inr h')
   ·omega
 have hnew : w0.heap.size <= g' := by
  have := h.new
  rcases hcase with ⟨rfl, _⟩ | ⟨_, hlt⟩
  ·exact this
  ·omega
 have hb0 := h.bel.trans (hb.mono h.bel.size)
 refine ⟨hx.move hsz hblk hmv, hy.move hsz hblk hmv, by simp, ?_, by simp [h.len], fun i f u hf hu => ?_, hnew, ⟨hg.os.trans hb0.os, hg.tape.trans hb0.tape, hg.output.trans hb0.output, Nat.le_trans hb0.size hsz, fun c hc => ?_⟩, fun z hz => h.oka z (takeR_mem hz), fun z hz => h.okb z (takeR_mem hz), by simp; omega, by omega, ?_⟩
 ·have e : flat (acc ++ [(lowName a b, m)]) (us ++ [v]) = flat acc us ++ [.string ⟨(lowName a b).toArray⟩, v] := by
   rw [flat_append _ _ _ _ h.len]
   rfl
  rw [e]
  simpa using hrow
 ·rcases snoc_get hf with ⟨hi, hf'⟩ | ⟨hi, rfl⟩
  ·rcases snoc_get hu with ⟨hi2, hu'⟩ | ⟨hi2, rfl⟩
   ·exact St.move hsz hblk hmv _ _ _ ((h.els i f u hf' hu').ona hb)
   ·have := h.len; omega
  ·rcases snoc_get hu with ⟨hi2, hu'⟩ | ⟨hi2, rfl⟩
   ·have := h.len; omega
   ·exact St.move hsz hblk hmv _ _ _ hm
 ·have hc1 : c < w1.heap.size := by have := hb0.size; omega
  rw [hg.block c (by simp; omega) (fun e => by
   have := h.new
   rcases hcase with ⟨_, rfl⟩ | ⟨rfl, _⟩
   ·cases e
    omega
   ·cases e), Below.heap_alloc w1 _ c hc1]
  exact hb0.block c hc
 ·rw [h.eq, addM_ok hne ho]
  rfl
theorem MInv.done {av : Nat -> Prop} {n : Nat} {of : Of (J n)} {res : Except Nat (J (n + 1))} {w0 wr : World} {x y o : Value} {acc : List (Bs × J n)} {k g cap : Nat} {us : List Value} (h : MInv av n of res w0 wr x y o [] [] acc k g cap us) (hav : ∀ c, av c -> c < w0.heap.size) :
  res = .ok (Sum.inr (Sum.inr acc)) /\ St av wr (n + 1) (Sum.inr (Sum.inr acc)) (.iface 53 (.slice (some ⟨g, 0, none⟩) acc.length cap)) := by
 refine ⟨by rw [h.eq, addM_end], ?_⟩
 have hn := h.new
 exact st_object (vs := us) h.len h.row.caps.1 h.row.caps.2 (fun e => by have := hav g e; omega) h.row.lt (row_fields h.row h.len).2 (fun i f u hf hu => (h.els i f u hf hu).mono (fun c _ hc => Or.inl hc))
theorem take_ok {n : Nat} {a : List (Bs × J n)} {s : Bs} (h : ∀ x ∈ a, Okv n x.2) : OkO n (takeV a s) := fun x hx => h _ (takeV_mem hx)
theorem Tab.on {w w' : World} (h : Tab w.heap.size w) (hb : Below w.heap.size w w') : Tab w'.heap.size w' := (h.below hb).mono hb.size
set_option maxRecDepth 100000 in
set_option maxHeartbeats 4000000 in
theorem meet_any (f n : Nat) (hcf : ∀ (args : Array Value) (w : World), (callFunc f args).run Tryz.prog w = .ok (.enter f args) w) (of : Of (J n)) (hof : OfOK f n of) (av : Nat -> Prop) (a b : List (Bs × J n)) (va vb : Value) (w : World) (hav : ∀ c, av c -> c < w.heap.size) (ha : Flds av w n a va) (hb : Flds av w n b vb)
  (oka : ∀ x ∈ a, Okv n x.2) (okb : ∀ x ∈ b, Okv n x.2) (hla : a.length <= 2000) (hlb : b.length <= 2000) (hT : Tab w.heap.size w) :
  Calls Tryz.prog 28 #[va, vb, .func (.func f) #[] #[]] w (MadeV av (n + 1) (objE (meetP of a b)) w) := by
 have HS : Hid (MInv av n of (objE (meetP of a b)) w (w.alloc (.cells #[] 86)) va vb (.slice (some ⟨w.heap.size, 0, none⟩) 0 0) a b [] (a.length + b.length) w.heap.size 0 []) := MInv.start hav ha hb oka okb hla hlb
 obtain ⟨pa, ca, rfl⟩ := ha.form
 obtain ⟨pb, cb, rfl⟩ := hb.form
 obtain ⟨i0, hi, hz0, hz1, hz2⟩ := info_parts info_field
 have HO : Hid (OfOK f n of) := hof
 have HT : Hid (Tab w.heap.size w) := hT
 have HA : Hid (∀ c, av c -> c < w.heap.size) := hav
 clear hof hT hav ha hb oka okb
 generalize objE (meetP of a b) = res at *
 go_enter Tryz.func28, Tryz.ntmps28
 go_wp2_with fail
 go_loopw [0, 1, 8] (fun x y o wr => ∃ a' b' acc k g cap us, MInv av n of res w wr x y o a' b' acc k g cap us) (fun x y _ _ => lenV x + lenV y)
 case atStart => exact ⟨a, b, [], _, _, _, _, HS.out⟩
 case round =>
  obtain ⟨a', b', acc, k, g, cap, us, hI⟩ := hrel
  obtain ⟨pa', ca', e1⟩ := hI.fa.form
  obtain ⟨pb', cb', e2⟩ := hI.fb.form
  have e3 := hI.out
  subst e1 e2 e3
  have HI : Hid (MInv av n of res w wr (.slice pa' a'.length ca') (.slice pb' b'.length cb') (.slice (some ⟨g, 0, none⟩) acc.length cap) a' b' acc k g cap us) := hI
  have hmany := hI.many
  have hfuel := hI.fuel
  clear hI HS
  by_cases hne : a'.length + b'.length = 0
  ·have ea : a' = [] := List.eq_nil_of_length_eq_zero (by omega)
   have eb : b' = [] := List.eq_nil_of_length_eq_zero (by omega)
   subst ea eb
   have HD : Hid _ := HI.out.done HA.out
   have HBl : Hid (Below w.heap.size w wr) := HI.out.bel
   go_wp2_with fail
   go_ret2
   exact ⟨HBl.out, Or.inr ⟨_, _, _, HD.out.1, rfl, HD.out.2⟩⟩
  ·obtain ⟨k, rfl⟩ : ∃ k', k = k' + 1 := ⟨k - 1, by omega⟩
   by_cases h0 : 0 < a'.length
   ·skip
    go_wp2_with fail
    refine (firstName_any _ a' b' _ _ wr HI.out.fa HI.out.fb (by omega)).mono ?_
    rintro e w1 ⟨rfl, b1⟩
    obtain ⟨nm, hnm⟩ : ∃ nm, nm = lowName a' b' := ⟨_, rfl⟩
    obtain ⟨nb, hnb⟩ : ∃ nb : ByteArray, nb = ⟨(lowName a' b').toArray⟩ := ⟨_, rfl⟩
    have hnl : nb.data.toList = lowName a' b' := by rw [hnb]
    have HNB : Hid (nb = ⟨(lowName a' b').toArray⟩) := hnb
    rw [<- hnb]
    have HB1 : Hid (Below wr.heap.size wr w1) := b1
    clear b1 hnb hnm
    go_wp2_with fail
    refine (take_any _ a' nb _ w1 (HI.out.fa.below HB1.out)).mono ?_
    rintro e w2 ⟨b2, v2, xa, rfl, ov, fx⟩
    rw [hnl] at ov fx
    have HB2 : Hid (Below wr.heap.size wr w2) := HB1.out.trans (b2.mono HB1.out.size)
    obtain ⟨p2, c2, rfl⟩ := fx.form
    have HV2 : Hid (OptV (fun c => av c ∨ c = g) w2 n (takeV a' (lowName a' b')) v2) := ov
    have HX2 : Hid (Flds (fun c => av c ∨ c = g) w2 n (takeR a' (lowName a' b')) (.slice p2 (takeR a' (lowName a' b')).length c2)) := fx
    clear b2 ov fx
    go_wp2_with fail
    refine (take_any _ b' nb _ w2 (HI.out.fb.below HB2.out)).mono ?_
    rintro e w3 ⟨b3, v3, xb, rfl, ou, fy⟩
    rw [hnl] at ou fy
    have HB3 : Hid (Below wr.heap.size wr w3) := HB2.out.trans (b3.mono HB2.out.size)
    obtain ⟨p3, c3, rfl⟩ := fy.form
    have HV3 : Hid (OptV (fun c => av c ∨ c = g) w3 n (takeV a' (lowName a' b')) v2) := HV2.out.below b3
    have HX3 : Hid (Flds (fun c => av c ∨ c = g) w3 n (takeR a' (lowName a' b')) (.slice p2 (takeR a' (lowName a' b')).length c2)) := HX2.out.below b3
    have HU3 : Hid (OptV (fun c => av c ∨ c = g) w3 n (takeV b' (lowName a' b')) v3) := ou
    have HY3 : Hid (Flds (fun c => av c ∨ c = g) w3 n (takeR b' (lowName a' b')) (.slice p3 (takeR b' (lowName a' b')).length c3)) := fy
    clear b3 ou fy
    go_wp2_with fail
    refine (HO.out _ w3 _ _ v2 v3 (by
     have h1 := HI.out.row.lt
     have h2 := HB3.out.size
     have h3 := HI.out.bel.size
     rintro c (hc | hc)
     ·have := HA.out c hc
      omega
     ·omega) HV3.out HU3.out (take_ok HI.out.oka) (take_ok HI.out.okb) ((HT.out.on HI.out.bel).on HB3.out)).mono ?_
    rintro e w4 ⟨b4, h4⟩
    have HB4 : Hid (Below wr.heap.size wr w4) := HB3.out.trans (b4.mono HB3.out.size)
    have HX4 : Hid (Flds (fun c => av c ∨ c = g) w4 n (takeR a' (lowName a' b')) (.slice p2 (takeR a' (lowName a' b')).length c2)) := HX3.out.below b4
    have HY4 : Hid (Flds (fun c => av c ∨ c = g) w4 n (takeR b' (lowName a' b')) (.slice p3 (takeR b' (lowName a' b')).length c3)) := HY3.out.below b4
    have hls := low_less a' b' (by omega)
    clear b4
    rcases h4 with ⟨er, ho, he1, he2, rfl⟩ | ⟨m, v4, ho, rfl, om⟩
    ·have HR : Hid (res = .error er) := by
      show res = _
      rw [HI.out.eq]
      exact addM_err (by omega) ho
     have HBw : Hid (Below w.heap.size w w4) := HI.out.bel.trans (HB4.out.mono HI.out.bel.size)
     have hbe : ((er : Int) != 0) = true := by rw [bne_iff_ne]; omega
     clear ho hls
     go_wp2_with fail
     go_ret2
     exact ⟨HBw.out, Or.inl ⟨er, HR.out, he1, he2, rfl⟩⟩
    ·rcases om with ⟨rfl, rfl⟩ | ⟨j, T, x, rfl, rfl, hst⟩
     ·have HP : Hid (MInv av n of res w w4 _ _ _ _ _ acc k g cap us) := HI.out.pass HB4.out (by omega) ho HX4.out HY4.out
      clear ho
      generalize takeR a' (lowName a' b') = ra at *
      generalize takeR b' (lowName a' b') = rb at *
      go_wp2_with fail
      go_roundw
      case rel => exact ⟨_, _, acc, k, g, cap, us, HP.out⟩
      case measure => simp only [lenV]; omega
     ·have HM : Hid (of (takeV a' (lowName a' b')) (takeV b' (lowName a' b')) = .ok (some j)) := ho
      have HSt : Hid (St (fun c => av c ∨ c = g) w4 n j (.iface T x)) := hst
      have HRw4 : Hid (Row w4 86 2 g acc.length cap (flat acc us)) := HI.out.row.kept (below_grown HB4.out) (fun e => by cases e)
      have hcm := HI.out.row.caps.2
      clear ho hst
      by_cases hroom : acc.length + 1 <= cap
      ·skip
       go_wp2_with (at_builtin; refine wpList_append_fits _ rfl _ _ 53 rfl g 86 i0 2 Tryz.underlying53 hi hz1 g acc.length cap (flat acc us) rfl (World.ownsRow.alloc HRw4.out.owns _) ⟨w4.heap.size, 0, none⟩ 1 1 [.string nb, .iface T x] rfl rfl (new_two _ _ _ _) (two_of rfl rfl) hroom ?_)
       intro w5 hown hgrow
       have hrow : Row w5 86 2 g (acc.length + 1) cap (flat acc us ++ [.string nb, .iface T x]) := Row.of_slice hown
       rw [HNB.out] at hrow
       have HP : Hid (MInv av n of res w w5 _ _ _ _ _ _ k g cap (us ++ [.iface T x])) := HI.out.push HB4.out HA.out (by omega) HM.out HX4.out HY4.out HSt.out hgrow hrow (Or.inl ⟨rfl, rfl⟩)
       clear hown hgrow hrow
       go_wp2_with fail
       go_roundw
       case rel => exact ⟨_, _, _, k, g, cap, _, HP.out⟩
       case measure => simp only [lenV]; omega
      ·skip
       go_wp2_with (at_builtin; refine wpList_append_grows _ rfl _ _ 53 rfl 86 i0 (Value.agg #[.string ⟨#[]⟩, .nilIface]) 2 32 Tryz.underlying53 hi hz0 hz1 hz2 rfl (by decide) (some ⟨g, 0, none⟩) acc.length cap (flat acc us) rfl (fun e => by cases e) HRw4.out.1 (row_cells HRw4.out _) ⟨w4.heap.size, 0, none⟩ 1 1 [.string nb, .iface T x] rfl rfl (new_two _ _ _ _) (two_of rfl rfl) (by omega) (by unfold maxLen; omega) (by omega) ?_)
       intro v' w5 hown hgrow
       obtain ⟨g', cap', rfl, hg', hrow⟩ := Row.of_owns hown (by omega)
       have hg'' : w4.heap.size < g' := by (try simp at hg'); omega
       rw [HNB.out] at hrow
       have HP : Hid (MInv av n of res w w5 _ _ _ _ _ _ k g' cap' (us ++ [.iface T x])) := HI.out.push HB4.out HA.out (by omega) HM.out HX4.out HY4.out HSt.out hgrow hrow (Or.inr ⟨rfl, hg''⟩)
       clear hown hgrow hrow
       go_wp2_with fail
       go_roundw
       case rel => exact ⟨_, _, _, k, g', cap', _, HP.out⟩
       case measure => simp only [lenV]; omega
   ·have ea : a' = [] := List.eq_nil_of_length_eq_zero (by omega)
    subst ea
    have h0b : 0 < b'.length := by simp only [List.length_nil] at hne; omega
    go_wp2_with fail
    refine (firstName_any _ [] b' _ _ wr HI.out.fa HI.out.fb (by omega)).mono ?_
    rintro e w1 ⟨rfl, b1⟩
    obtain ⟨nm, hnm⟩ : ∃ nm, nm = lowName [] b' := ⟨_, rfl⟩
    obtain ⟨nb, hnb⟩ : ∃ nb : ByteArray, nb = ⟨(lowName [] b').toArray⟩ := ⟨_, rfl⟩
    have hnl : nb.data.toList = lowName [] b' := by rw [hnb]
    have HNB : Hid (nb = ⟨(lowName [] b').toArray⟩) := hnb
    rw [<- hnb]
    have HB1 : Hid (Below wr.heap.size wr w1) := b1
    clear b1 hnb hnm
    go_wp2_with fail
    refine (take_any _ [] nb _ w1 (HI.out.fa.below HB1.out)).mono ?_
    rintro e w2 ⟨b2, v2, xa, rfl, ov, fx⟩
    rw [hnl] at ov fx
    have HB2 : Hid (Below wr.heap.size wr w2) := HB1.out.trans (b2.mono HB1.out.size)
    obtain ⟨p2, c2, rfl⟩ := fx.form
    have HV2 : Hid (OptV (fun c => av c ∨ c = g) w2 n (takeV [] (lowName [] b')) v2) := ov
    have HX2 : Hid (Flds (fun c => av c ∨ c = g) w2 n (takeR [] (lowName [] b')) (.slice p2 (takeR ([] : List (Bs × J n)) (lowName [] b')).length c2)) := fx
    clear b2 ov fx
    go_wp2_with fail
    refine (take_any _ b' nb _ w2 (HI.out.fb.below HB2.out)).mono ?_
    rintro e w3 ⟨b3, v3, xb, rfl, ou, fy⟩
    rw [hnl] at ou fy
    have HB3 : Hid (Below wr.heap.size wr w3) := HB2.out.trans (b3.mono HB2.out.size)
    obtain ⟨p3, c3, rfl⟩ := fy.form
    have HV3 : Hid (OptV (fun c => av c ∨ c = g) w3 n (takeV [] (lowName [] b')) v2) := HV2.out.below b3
    have HX3 : Hid (Flds (fun c => av c ∨ c = g) w3 n (takeR [] (lowName [] b')) (.slice p2 (takeR ([] : List (Bs × J n)) (lowName [] b')).length c2)) := HX2.out.below b3
    have HU3 : Hid (OptV (fun c => av c ∨ c = g) w3 n (takeV b' (lowName [] b')) v3) := ou
    have HY3 : Hid (Flds (fun c => av c ∨ c = g) w3 n (takeR b' (lowName [] b')) (.slice p3 (takeR b' (lowName [] b')).length c3)) := fy
    clear b3 ou fy
    go_wp2_with fail
    refine (HO.out _ w3 _ _ v2 v3 (by
     have h1 := HI.out.row.lt
     have h2 := HB3.out.size
     have h3 := HI.out.bel.size
     rintro c (hc | hc)
     ·have := HA.out c hc
      omega
     ·omega) HV3.out HU3.out (take_ok HI.out.oka) (take_ok HI.out.okb) ((HT.out.on HI.out.bel).on HB3.out)).mono ?_
    rintro e w4 ⟨b4, h4⟩
    have HB4 : Hid (Below wr.heap.size wr w4) := HB3.out.trans (b4.mono HB3.out.size)
    have HX4 : Hid (Flds (fun c => av c ∨ c = g) w4 n (takeR [] (lowName [] b')) (.slice p2 (takeR ([] : List (Bs × J n)) (lowName [] b')).length c2)) := HX3.out.below b4
    have HY4 : Hid (Flds (fun c => av c ∨ c = g) w4 n (takeR b' (lowName [] b')) (.slice p3 (takeR b' (lowName [] b')).length c3)) := HY3.out.below b4
    have hls := low_less [] b' (by omega)
    clear b4
    rcases h4 with ⟨er, ho, he1, he2, rfl⟩ | ⟨m, v4, ho, rfl, om⟩
    ·have HR : Hid (res = .error er) := by
      show res = _
      rw [HI.out.eq]
      exact addM_err (by omega) ho
     have HBw : Hid (Below w.heap.size w w4) := HI.out.bel.trans (HB4.out.mono HI.out.bel.size)
     have hbe : ((er : Int) != 0) = true := by rw [bne_iff_ne]; omega
     clear ho hls
     go_wp2_with fail
     go_ret2
     exact ⟨HBw.out, Or.inl ⟨er, HR.out, he1, he2, rfl⟩⟩
    ·rcases om with ⟨rfl, rfl⟩ | ⟨j, T, x, rfl, rfl, hst⟩
     ·have HP : Hid (MInv av n of res w w4 _ _ _ _ _ acc k g cap us) := HI.out.pass HB4.out (by omega) ho HX4.out HY4.out
      clear ho
      generalize takeR [] (lowName [] b') = ra at *
      generalize takeR b' (lowName [] b') = rb at *
      go_wp2_with fail
      go_roundw
      case rel => exact ⟨_, _, acc, k, g, cap, us, HP.out⟩
      case measure => simp only [lenV]; omega
     ·have HM : Hid (of (takeV [] (lowName [] b')) (takeV b' (lowName [] b')) = .ok (some j)) := ho
      have HSt : Hid (St (fun c => av c ∨ c = g) w4 n j (.iface T x)) := hst
      have HRw4 : Hid (Row w4 86 2 g acc.length cap (flat acc us)) := HI.out.row.kept (below_grown HB4.out) (fun e => by cases e)
      have hcm := HI.out.row.caps.2
      clear ho hst
      by_cases hroom : acc.length + 1 <= cap
      ·skip
       go_wp2_with (at_builtin; refine wpList_append_fits _ rfl _ _ 53 rfl g 86 i0 2 Tryz.underlying53 hi hz1 g acc.length cap (flat acc us) rfl (World.ownsRow.alloc HRw4.out.owns _) ⟨w4.heap.size, 0, none⟩ 1 1 [.string nb, .iface T x] rfl rfl (new_two _ _ _ _) (two_of rfl rfl) hroom ?_)
       intro w5 hown hgrow
       have hrow : Row w5 86 2 g (acc.length + 1) cap (flat acc us ++ [.string nb, .iface T x]) := Row.of_slice hown
       rw [HNB.out] at hrow
       have HP : Hid (MInv av n of res w w5 _ _ _ _ _ _ k g cap (us ++ [.iface T x])) := HI.out.push HB4.out HA.out (by omega) HM.out HX4.out HY4.out HSt.out hgrow hrow (Or.inl ⟨rfl, rfl⟩)
       clear hown hgrow hrow
       go_wp2_with fail
       go_roundw
       case rel => exact ⟨_, _, _, k, g, cap, _, HP.out⟩
       case measure => simp only [lenV]; omega
      ·skip
       go_wp2_with (at_builtin; refine wpList_append_grows _ rfl _ _ 53 rfl 86 i0 (Value.agg #[.string ⟨#[]⟩, .nilIface]) 2 32 Tryz.underlying53 hi hz0 hz1 hz2 rfl (by decide) (some ⟨g, 0, none⟩) acc.length cap (flat acc us) rfl (fun e => by cases e) HRw4.out.1 (row_cells HRw4.out _) ⟨w4.heap.size, 0, none⟩ 1 1 [.string nb, .iface T x] rfl rfl (new_two _ _ _ _) (two_of rfl rfl) (by omega) (by unfold maxLen; omega) (by omega) ?_)
       intro v' w5 hown hgrow
       obtain ⟨g', cap', rfl, hg', hrow⟩ := Row.of_owns hown (by omega)
       have hg'' : w4.heap.size < g' := by (try simp at hg'); omega
       rw [HNB.out] at hrow
       have HP : Hid (MInv av n of res w w5 _ _ _ _ _ _ k g' cap' (us ++ [.iface T x])) := HI.out.push HB4.out HA.out (by omega) HM.out HX4.out HY4.out HSt.out hgrow hrow (Or.inr ⟨rfl, hg''⟩)
       clear hown hgrow hrow
       go_wp2_with fail
       go_roundw
       case rel => exact ⟨_, _, _, k, g', cap', _, HP.out⟩
       case measure => simp only [lenV]; omega
set_option maxRecDepth 100000 in
set_option maxHeartbeats 2000000 in
theorem hold_any (zb a b l c d m : Nat) (w : World) (hz : w.heap[zb]? = some (.cells #[.int .i64 a, .int .i64 b, .int .i64 l] 80 (0, 0))) (ha : a <= 1000000) (hb : b <= 1000000) (hl : l <= 1000000000) (hc : c <= 1000000) (hd' : d <= 1000000) (hm : m <= 1000000000) :
  Calls Tryz.prog 64 #[.pointer (some ⟨zb, 0, none⟩), .agg #[.int .i64 c, .int .i64 d, .int .i64 m]] w fun e w' => e = .returned (.tuple #[]) /\ w.grownBy w' (some zb) /\ w'.heap[zb]? = some (.cells #[.int .i64 ((a + c : Nat) : Int), .int .i64 ((max b (d + 1) : Nat) : Int), .int .i64 ((l + m : Nat) : Int)] 80 (0, 0)) := by
 have hzw := lt_of_block hz
 have hza : (w.alloc (.cells #[.int .i64 c, .int .i64 d, .int .i64 m] 80)).heap[zb]? = some (.cells #[.int .i64 a, .int .i64 b, .int .i64 l] 80 (0, 0)) := (Below.heap_alloc w _ zb hzw).trans hz
 have hxa : (w.alloc (.cells #[.int .i64 c, .int .i64 d, .int .i64 m] 80)).heap[w.heap.size]? = some (.cells #[.int .i64 c, .int .i64 d, .int .i64 m] 80 (0, 0)) := heap_alloc_new w _
 have z0 : (w.alloc (.cells #[.int .i64 c, .int .i64 d, .int .i64 m] 80)).cell? ⟨zb, 0, none⟩ = some (.int .i64 a) := by rw [cell_of_row _ _ _ _ _ _ hza]; rfl
 have z1 : (w.alloc (.cells #[.int .i64 c, .int .i64 d, .int .i64 m] 80)).cell? ⟨zb, 1, none⟩ = some (.int .i64 b) := by rw [cell_of_row _ _ _ _ _ _ hza]; rfl
 have z2 : (w.alloc (.cells #[.int .i64 c, .int .i64 d, .int .i64 m] 80)).cell? ⟨zb, 2, none⟩ = some (.int .i64 l) := by rw [cell_of_row _ _ _ _ _ _ hza]; rfl
 have x0 : (w.alloc (.cells #[.int .i64 c, .int .i64 d, .int .i64 m] 80)).cell? ⟨w.heap.size, 0, none⟩ = some (.int .i64 c) := by rw [cell_of_row _ _ _ _ _ _ hxa]; rfl
 have x1 : (w.alloc (.cells #[.int .i64 c, .int .i64 d, .int .i64 m] 80)).cell? ⟨w.heap.size, 1, none⟩ = some (.int .i64 d) := by rw [cell_of_row _ _ _ _ _ _ hxa]; rfl
 have x2 : (w.alloc (.cells #[.int .i64 c, .int .i64 d, .int .i64 m] 80)).cell? ⟨w.heap.size, 2, none⟩ = some (.int .i64 m) := by rw [cell_of_row _ _ _ _ _ _ hxa]; rfl
 have f0 : ∀ j, (w.alloc (.cells #[.int .i64 c, .int .i64 d, .int .i64 m] 80)).frozen? ⟨zb, j, none⟩ = false := fun j => frozen_of_row _ _ _ _ _ hza
 have f00 := f0 0
 have f01 := f0 1
 have f02 := f0 2
 have hne : zb ≠ w.heap.size := by omega
 clear hz hxa f0
 have HZ : Hid ((w.alloc (.cells #[.int .i64 c, .int .i64 d, .int .i64 m] 80)).heap[zb]? = some (.cells #[.int .i64 a, .int .i64 b, .int .i64 l] 80 (0, 0))) := hza
 have HGr : Hid (w.grownBy (w.alloc (.cells #[.int .i64 c, .int .i64 d, .int .i64 m] 80)) (some zb)) := World.grownBy_alloc w _ _
 clear hza
 go_enter Tryz.func64, Tryz.ntmps64
 go_wp2
 generalize w.alloc (.cells #[.int .i64 c, .int .i64 d, .int .i64 m] 80) = wa at *
 go_region
 go_wp2
 go_region
 go_wp2
 go_region
 go_wp2
 go_end0
 refine ⟨rfl, ((((show G zb w wa from HGr.out).setCell 0 _).setCell 1 _).setCell 2 _).drew.drew.drew, ?_⟩
 have h1 := heap_setCell_same wa zb 0 _ _ (.int .i64 ((a : Int) + (c : Int))) HZ.out
 have h2 := heap_setCell_same _ zb 1 _ _ (.int .i64 (max (b : Int) ((d : Int) + 1))) h1
 have h3 := heap_setCell_same _ zb 2 _ _ (.int .i64 ((l : Int) + (m : Int))) h2
 have e1 : ((a + c : Nat) : Int) = (a : Int) + (c : Int) := by omega
 have e2 : ((max b (d + 1) : Nat) : Int) = max (b : Int) ((d : Int) + 1) := by omega
 have e3 : ((l + m : Nat) : Int) = (l : Int) + (m : Int) := by omega
 rw [e1, e2, e3]
 exact h3
def lensLeaf : Leaf -> Nat
 | some (Sum.inr (Sum.inr s)) => s.length
 | _ => 0
def lens : (n : Nat) -> J n -> Nat
 | 0, l => lensLeaf l
 | _ + 1, Sum.inl l => lensLeaf l
 | n + 1, Sum.inr (Sum.inl xs) => (xs.map (lens n)).sum
 | n + 1, Sum.inr (Sum.inr fs) => (fs.map fun f => f.1.length + lens n f.2).sum
theorem quote_geL (s : Bs) : s.length <= (quote s).length := by
 have h : ∀ l : Bs, l.length <= (l.flatMap quoteB).length := by
  intro l
  induction l with
  | nil => simp
  | cons c l ih =>
   have h1 : 1 <= (quoteB c).length := by
    unfold quoteB
    split
    ·simp
    ·split
     ·simp
     ·split <;> simp
   simp only [List.flatMap_cons, List.length_append, List.length_cons]
   omega
 have := h s
 simp only [quote, List.length_cons, List.length_append]
 omega
theorem lensLeaf_le (l : Leaf) : lensLeaf l <= (tellLeaf l).length := by
 match l with
 | none => exact Nat.zero_le _
 | some (Sum.inl b) => exact Nat.zero_le _
 | some (Sum.inr (Sum.inl i)) => exact Nat.zero_le _
 | some (Sum.inr (Sum.inr s)) => exact quote_geL s
theorem commas_sum : ∀ (l : List Bs), (l.map List.length).sum <= (commas l).length
 | [] => Nat.le_refl _
 | [x] => by simp [commas]
 | x :: y :: r => by
  have := commas_sum (y :: r)
  simp only [commas, List.map_cons, List.sum_cons, List.length_append, List.length_cons] at this ⊢
  omega
theorem sum_le_sum {α : Type} (f g : α -> Nat) : ∀ (l : List α), (∀ x ∈ l, f x <= g x) -> (l.map f).sum <= (l.map g).sum
 | [], _ => Nat.le_refl _
 | x :: l, h => by
  have h1 := sum_le_sum f g l (fun y hy => h y (by simp [hy]))
  have h2 := h x (by simp)
  simp only [List.map_cons, List.sum_cons]
  omega
theorem lens_le : ∀ (n : Nat) (j : J n), lens n j <= (tell n j).length
 | 0, l => lensLeaf_le l
 | _ + 1, Sum.inl l => lensLeaf_le l
 | n + 1, Sum.inr (Sum.inl xs) => by
  have h1 : (xs.map (lens n)).sum <= (xs.map (fun x => (tell n x).length)).sum := sum_le_sum _ _ xs (fun x _ => lens_le n x)
  have h2 := commas_sum (xs.map (tell n))
  have e : ((xs.map (tell n)).map List.length) = xs.map (fun x => (tell n x).length) := by rw [List.map_map]; rfl
  rw [e] at h2
  show (xs.map (lens n)).sum <= (91 :: (commas (xs.map (tell n)) ++ [93])).length
  simp only [List.length_cons, List.length_append]
  omega
 | n + 1, Sum.inr (Sum.inr fs) => by
  have h1 : (fs.map (fun f => f.1.length + lens n f.2)).sum <= (fs.map (fun f => (quote f.1 ++ 58 :: tell n f.2).length)).sum := sum_le_sum _ _ fs (fun f _ => by
   have a1 := quote_geL f.1
   have a2 := lens_le n f.2
   simp only [List.length_cons, List.length_append]
   omega)
  have h2 := commas_sum (fs.map fun f => quote f.1 ++ 58 :: tell n f.2)
  have e : ((fs.map fun f => quote f.1 ++ 58 :: tell n f.2).map List.length) = fs.map (fun f => (quote f.1 ++ 58 :: tell n f.2).length) := by rw [List.map_map]; rfl
  rw [e] at h2
  show (fs.map (fun f => f.1.length + lens n f.2)).sum <= (123 :: (commas (fs.map fun f => quote f.1 ++ 58 :: tell n f.2) ++ [125])).length
  simp only [List.length_cons, List.length_append]
  omega
def MeasureOK (n : Nat) : Prop := ∀ (av : Nat -> Prop) (j : J n) (x : Value) (w : World), St av w n j x -> nodes n j <= 100000 -> depth n j <= 100000 -> lens n j <= 100000000 ->
 Calls Tryz.prog 47 #[x] w fun e w' => e = .returned (.agg #[.int .i64 (nodes n j), .int .i64 (depth n j), .int .i64 (lens n j)]) /\ Below w.heap.size w w'
theorem nodes_pos : ∀ (n : Nat) (j : J n), 1 <= nodes n j
 | 0, _ => Nat.le_refl _
 | _ + 1, Sum.inl _ => Nat.le_refl _
 | _ + 1, Sum.inr (Sum.inl _) => Nat.le_add_right _ _
 | _ + 1, Sum.inr (Sum.inr _) => Nat.le_add_right _ _
theorem sum_ge : ∀ (l : List Nat), (∀ y ∈ l, 1 <= y) -> l.length <= l.sum
 | [], _ => Nat.le_refl _
 | y :: l, h => by
  have := sum_ge l (fun z hz => h z (by simp [hz]))
  have := h y (by simp)
  simp only [List.length_cons, List.sum_cons]
  omega
theorem maxOf_snoc : ∀ (l : List Nat) (y : Nat), maxOf (l ++ [y]) = max (maxOf l) y
 | [], y => by simp [maxOf]
 | x :: l, y => by
  have := maxOf_snoc l y
  simp only [List.cons_append, maxOf, this]
  omega
theorem take_sum_le : ∀ (l : List Nat) (k : Nat), (l.take k).sum <= l.sum
 | [], k => by simp
 | x :: l, 0 => by simp
 | x :: l, k + 1 => by
  have := take_sum_le l k
  simp only [List.take_succ_cons, List.sum_cons]
  omega
theorem take_max_le : ∀ (l : List Nat) (k : Nat), maxOf (l.take k) <= maxOf l
 | [], k => by simp
 | x :: l, 0 => by simp [maxOf]
 | x :: l, k + 1 => by
  have := take_max_le l k
  simp only [List.take_succ_cons, maxOf]
  omega
set_option maxRecDepth 100000 in
set_option maxHeartbeats 1000000 in
theorem measure_leaf (l : Leaf) (w : World) :
  Calls Tryz.prog 47 #[leafV l] w fun e w' => e = .returned (.agg #[.int .i64 1, .int .i64 0, .int .i64 (lensLeaf l)]) /\ Below w.heap.size w w' := by
 match l with
 | none =>
  obtain ⟨a1, a2, a3, a4, a5, a6⟩ := tas_Null
  unfold leafV
  go_enter Tryz.func47, Tryz.ntmps47
  go_wp2_with fail
  exact bodyPost_ret (v := .agg #[.int .i64 1, .int .i64 0, .int .i64 0]) (by simp [results, Tryz.results47, go_sem]) rfl ⟨rfl, (Below.refl _ _).alloc (Nat.le_refl _) _⟩
 | some (Sum.inl b) =>
  obtain ⟨a1, a2, a3, a4, a5, a6⟩ := tas_Bool
  unfold leafV
  go_enter Tryz.func47, Tryz.ntmps47
  go_wp2_with fail
  exact bodyPost_ret (v := .agg #[.int .i64 1, .int .i64 0, .int .i64 0]) (by simp [results, Tryz.results47, go_sem]) rfl ⟨rfl, (Below.refl _ _).alloc (Nat.le_refl _) _⟩
 | some (Sum.inr (Sum.inl i)) =>
  obtain ⟨a1, a2, a3, a4, a5, a6⟩ := tas_Number
  unfold leafV
  go_enter Tryz.func47, Tryz.ntmps47
  go_wp2_with fail
  exact bodyPost_ret (v := .agg #[.int .i64 1, .int .i64 0, .int .i64 0]) (by simp [results, Tryz.results47, go_sem]) rfl ⟨rfl, (Below.refl _ _).alloc (Nat.le_refl _) _⟩
 | some (Sum.inr (Sum.inr s)) =>
  obtain ⟨a1, a2, a3, a4, a5, a6⟩ := tas_Text
  unfold leafV
  go_enter Tryz.func47, Tryz.ntmps47
  go_wp2_with fail
  exact bodyPost_ret (v := .agg #[.int .i64 1, .int .i64 0, .int .i64 (lensLeaf (some (Sum.inr (Sum.inr s))))]) (by simp [results, Tryz.results47, go_sem, lensLeaf]) rfl ⟨rfl, (Below.refl _ _).alloc (Nat.le_refl _) _⟩
set_option maxRecDepth 100000 in
set_option maxHeartbeats 4000000 in
theorem measure_list (n : Nat) (hM : MeasureOK n) (av : Nat -> Prop) (xs : List (J n)) (x : Value) (w : World) (hSt : St av w (n + 1) (Sum.inr (Sum.inl xs)) x) (hN : nodes (n + 1) (Sum.inr (Sum.inl xs)) <= 100000) (hD : depth (n + 1) (Sum.inr (Sum.inl xs)) <= 100000) (hL : lens (n + 1) (Sum.inr (Sum.inl xs)) <= 100000000) :
  Calls Tryz.prog 47 #[x] w fun e w' => e = .returned (.agg #[.int .i64 (nodes (n + 1) (Sum.inr (Sum.inl xs))), .int .i64 (depth (n + 1) (Sum.inr (Sum.inl xs))), .int .i64 (lens (n + 1) (Sum.inr (Sum.inl xs)))]) /\ Below w.heap.size w w' := by
 have en : nodes (n + 1) (Sum.inr (Sum.inl xs)) = 1 + (xs.map (nodes n)).sum := rfl
 have ed : depth (n + 1) (Sum.inr (Sum.inl xs)) = 1 + maxOf (xs.map (depth n)) := rfl
 have eb : lens (n + 1) (Sum.inr (Sum.inl xs)) = (xs.map (lens n)).sum := rfl
 rw [en] at hN ⊢
 rw [ed] at hD ⊢
 rw [eb] at hL ⊢
 obtain ⟨p, g, cap, vs, rfl, hpp, hvl, hlc, hcm, hcell, hel⟩ := hSt.list
 unfold maxLen at hcm
 have hlen : xs.length <= 100000 := by
  have h := sum_ge (xs.map (nodes n)) (fun y hy => by
   obtain ⟨z, _, rfl⟩ := List.mem_map.1 hy
   exact nodes_pos _ _)
  rw [List.length_map] at h
  omega
 have HEl : Hid (∀ w1, Below w.heap.size w w1 -> ∀ k (hk : k < xs.length), ∃ u, w1.cell? ⟨g, k, none⟩ = some u /\ St (fun c => w.heap.size <= c) w1 n xs[k] u) := by
  intro w1 hb k hk
  have hu : vs[k]? = some (vs[k]'(by omega)) := List.getElem?_eq_getElem (by omega)
  refine ⟨_, by rw [hb.cell (p := ⟨g, k, none⟩) (hpp k hk).2.2]; exact hcell k _ hu, ?_⟩
  exact (((hel k xs[k] _ (List.getElem?_eq_getElem hk) hu).wide (fun c hc => Or.inr hc) : St (fun c => w.heap.size <= c) w n xs[k] _)).step hb.size (fun c hc _ => hb.block c hc)
 have HTk : Hid (∀ k (hk : k < xs.length), ((xs.map (nodes n)).take (k + 1)).sum = ((xs.map (nodes n)).take k).sum + nodes n xs[k] /\ maxOf ((xs.map (depth n)).take (k + 1)) = max (maxOf ((xs.map (depth n)).take k)) (depth n xs[k]) /\ ((xs.map (lens n)).take (k + 1)).sum = ((xs.map (lens n)).take k).sum + lens n xs[k]) := fun k hk => by
  refine ⟨?_, ?_, ?_⟩
  ·rw [List.take_succ_eq_append_getElem (by simpa using hk), List.sum_append]
   simp
  ·rw [List.take_succ_eq_append_getElem (by simpa using hk), maxOf_snoc]
   simp
  ·rw [List.take_succ_eq_append_getElem (by simpa using hk), List.sum_append]
   simp
 have HLe : Hid (∀ k, ((xs.map (nodes n)).take k).sum <= (xs.map (nodes n)).sum /\ maxOf ((xs.map (depth n)).take k) <= maxOf (xs.map (depth n)) /\ ((xs.map (lens n)).take k).sum <= (xs.map (lens n)).sum) := fun k => ⟨take_sum_le _ k, take_max_le _ k, take_sum_le _ k⟩
 have HAll : Hid (∀ k, xs.length <= k -> ((xs.map (nodes n)).take k).sum = (xs.map (nodes n)).sum /\ maxOf ((xs.map (depth n)).take k) = maxOf (xs.map (depth n)) /\ ((xs.map (lens n)).take k).sum = (xs.map (lens n)).sum) := fun k hk => by
  rw [List.take_of_length_le (by simpa using hk), List.take_of_length_le (by simpa using hk), List.take_of_length_le (by simpa using hk)]
  exact ⟨rfl, rfl, rfl⟩
 generalize xs.map (nodes n) = ns at *
 generalize xs.map (depth n) = ds at *
 generalize xs.map (lens n) = bs at *
 have HM : Hid (MeasureOK n) := hM
 obtain ⟨a1, a2, a3, a4, a5, a6⟩ := tas_List
 have HPp : Hid (∀ k, k < xs.length -> p = some ⟨g, 0, none⟩) := fun k hk => (hpp k hk).1
 clear hcell hel hM en ed eb hpp
 have HZ0 : Hid (((w.alloc (.cells #[.int .i64 0, .int .i64 0, .int .i64 0] 80)).alloc (.cells #[.int .i64 1, .int .i64 1, .int .i64 0] 80)).heap[w.heap.size + 1]? = some (.cells #[.int .i64 1, .int .i64 1, .int .i64 0] 80 (0, 0))) := by
  have h0 := heap_alloc_new (w.alloc (.cells #[.int .i64 0, .int .i64 0, .int .i64 0] 80)) (.cells #[.int .i64 1, .int .i64 1, .int .i64 0] 80)
  have e0 : (w.alloc (.cells #[.int .i64 0, .int .i64 0, .int .i64 0] 80)).heap.size = w.heap.size + 1 := by simp
  rw [e0] at h0
  exact h0
 have HZr : Hid (((w.alloc (.cells #[.int .i64 0, .int .i64 0, .int .i64 0] 80)).alloc (.cells #[.int .i64 1, .int .i64 1, .int .i64 0] 80)).heap[w.heap.size]? = some (.cells #[.int .i64 0, .int .i64 0, .int .i64 0] 80 (0, 0))) := by
  show ((w.alloc (.cells #[.int .i64 0, .int .i64 0, .int .i64 0] 80)).alloc (.cells #[.int .i64 1, .int .i64 1, .int .i64 0] 80)).heap[w.heap.size]? = _
  rw [Below.heap_alloc _ _ _ (by simp)]
  exact heap_alloc_new w _
 have HB0 : Hid (Below w.heap.size w ((w.alloc (.cells #[.int .i64 0, .int .i64 0, .int .i64 0] 80)).alloc (.cells #[.int .i64 1, .int .i64 1, .int .i64 0] 80))) := ((Below.refl _ w).alloc (Nat.le_refl _) _).alloc (by simp) _
 go_enter Tryz.func47, Tryz.ntmps47
 go_wp2_with fail
 go_loopw [25] (fun i wr => ∃ k : Nat, k <= xs.length /\ i = .int .i64 k /\ wr.heap[w.heap.size + 1]? = some (.cells #[.int .i64 ((1 + (ns.take k).sum : Nat) : Int), .int .i64 ((1 + maxOf (ds.take k) : Nat) : Int), .int .i64 (((bs.take k).sum : Nat) : Int)] 80 (0, 0)) /\ wr.heap[w.heap.size]? = some (.cells #[.int .i64 0, .int .i64 0, .int .i64 0] 80 (0, 0)) /\ Below w.heap.size w wr) (fun i _ => xs.length - (intOf i).toNat)
 case atStart => exact ⟨0, Nat.zero_le _, rfl, HZ0.out, HZr.out, HB0.out⟩
 case round =>
  obtain ⟨k, hk, rfl, hz, hrb, hbel⟩ := hrel
  have HZ : Hid (wr.heap[w.heap.size + 1]? = some (.cells #[.int .i64 ((1 + (ns.take k).sum : Nat) : Int), .int .i64 ((1 + maxOf (ds.take k) : Nat) : Int), .int .i64 (((bs.take k).sum : Nat) : Int)] 80 (0, 0))) := hz
  have HRb : Hid (wr.heap[w.heap.size]? = some (.cells #[.int .i64 0, .int .i64 0, .int .i64 0] 80 (0, 0))) := hrb
  have HB : Hid (Below w.heap.size w wr) := hbel
  have hle := HLe.out k
  have hzw := lt_of_block hz
  clear hz hrb hbel
  by_cases hlt : k < xs.length
  ·have hpe := HPp.out k hlt
   subst hpe
   obtain ⟨u, hcu, hst⟩ := HEl.out wr HB.out k hlt
   have HSt : Hid (St (fun c => w.heap.size <= c) wr n xs[k] u) := hst
   have hle2 := HLe.out (k + 1)
   have htk := HTk.out k hlt
   have hnk : nodes n xs[k] <= 100000 := by omega
   have hdk : depth n xs[k] <= 100000 := by omega
   have hbk : lens n xs[k] <= 100000000 := by omega
   have HTK : Hid ((ns.take (k + 1)).sum = (ns.take k).sum + nodes n xs[k] /\ maxOf (ds.take (k + 1)) = max (maxOf (ds.take k)) (depth n xs[k]) /\ (bs.take (k + 1)).sum = (bs.take k).sum + lens n xs[k]) := htk
   clear hst htk
   go_wp2_with fail
   refine (HM.out _ xs[k] u wr HSt.out hnk hdk hbk).mono ?_
   rintro e w1 ⟨rfl, b1⟩
   have hz1 : w1.heap[w.heap.size + 1]? = some (.cells #[.int .i64 ((1 + (ns.take k).sum : Nat) : Int), .int .i64 ((1 + maxOf (ds.take k) : Nat) : Int), .int .i64 (((bs.take k).sum : Nat) : Int)] 80 (0, 0)) := (b1.block _ (lt_of_block HZ.out)).trans HZ.out
   have HZ1 : Hid (w1.heap[w.heap.size + 1]? = some (.cells #[.int .i64 ((1 + (ns.take k).sum : Nat) : Int), .int .i64 ((1 + maxOf (ds.take k) : Nat) : Int), .int .i64 (((bs.take k).sum : Nat) : Int)] 80 (0, 0))) := hz1
   have HR1 : Hid (w1.heap[w.heap.size]? = some (.cells #[.int .i64 0, .int .i64 0, .int .i64 0] 80 (0, 0))) := (b1.block _ (lt_of_block HRb.out)).trans HRb.out
   have HB1 : Hid (Below w.heap.size w w1) := HB.out.trans (b1.mono HB.out.size)
   clear b1 hz1
   go_wp2_with fail
   refine (hold_any (w.heap.size + 1) (1 + (ns.take k).sum) (1 + maxOf (ds.take k)) (bs.take k).sum (nodes n xs[k]) (depth n xs[k]) (lens n xs[k]) w1 HZ1.out (by omega) (by omega) (by omega) (by omega) (by omega) (by omega)).mono ?_
   rintro e w2 ⟨rfl, g2, z2⟩
   have HZ2 : Hid (w2.heap[w.heap.size + 1]? = some (.cells #[.int .i64 ((1 + (ns.take (k + 1)).sum : Nat) : Int), .int .i64 ((1 + maxOf (ds.take (k + 1)) : Nat) : Int), .int .i64 (((bs.take (k + 1)).sum : Nat) : Int)] 80 (0, 0))) := by
    show w2.heap[w.heap.size + 1]? = _
    have e1 : 1 + (ns.take (k + 1)).sum = 1 + (ns.take k).sum + nodes n xs[k] := by rw [HTK.out.1]; omega
    have e2 : 1 + maxOf (ds.take (k + 1)) = max (1 + maxOf (ds.take k)) (depth n xs[k] + 1) := by rw [HTK.out.2.1]; omega
    rw [e1, e2, HTK.out.2.2]
    exact z2
   have HR2 : Hid (w2.heap[w.heap.size]? = some (.cells #[.int .i64 0, .int .i64 0, .int .i64 0] 80 (0, 0))) := (g2.block _ (lt_of_block HR1.out) (fun e => by simp at e)).trans HR1.out
   have HB2 : Hid (Below w.heap.size w w2) := HB1.out.grown g2 HB1.out.size (fun k e => by cases e; omega)
   clear g2 z2
   go_wp2_with fail
   go_roundw
   case rel => exact ⟨k + 1, by omega, by go_num, HZ2.out, HR2.out, HB2.out⟩
   case measure => simp [intOf]; omega
  ·have hall := HAll.out k (by omega)
   have HA : Hid ((ns.take k).sum = ns.sum /\ maxOf (ds.take k) = maxOf ds /\ (bs.take k).sum = bs.sum) := hall
   have hz : wr.heap[w.heap.size + 1]? = some (.cells #[.int .i64 ((1 + ns.sum : Nat) : Int), .int .i64 ((1 + maxOf ds : Nat) : Int), .int .i64 ((bs.sum : Nat) : Int)] 80 (0, 0)) := by
    have := HZ.out
    rw [hall.1, hall.2.1, hall.2.2] at this
    exact this
   have z0 : wr.cell? ⟨w.heap.size + 1, 0, none⟩ = some (.int .i64 ((1 + ns.sum : Nat) : Int)) := by rw [cell_of_row _ _ _ _ _ _ hz]; rfl
   have z1 : wr.cell? ⟨w.heap.size + 1, 1, none⟩ = some (.int .i64 ((1 + maxOf ds : Nat) : Int)) := by rw [cell_of_row _ _ _ _ _ _ hz]; rfl
   have z2 : wr.cell? ⟨w.heap.size + 1, 2, none⟩ = some (.int .i64 ((bs.sum : Nat) : Int)) := by rw [cell_of_row _ _ _ _ _ _ hz]; rfl
   have r0 : wr.cell? ⟨w.heap.size, 0, none⟩ = some (.int .i64 0) := by rw [cell_of_row _ _ _ _ _ _ HRb.out]; rfl
   have r1 : wr.cell? ⟨w.heap.size, 1, none⟩ = some (.int .i64 0) := by rw [cell_of_row _ _ _ _ _ _ HRb.out]; rfl
   have r2 : wr.cell? ⟨w.heap.size, 2, none⟩ = some (.int .i64 0) := by rw [cell_of_row _ _ _ _ _ _ HRb.out]; rfl
   have f0 : wr.frozen? ⟨w.heap.size, 0, none⟩ = false := frozen_of_row _ _ _ _ _ HRb.out
   have f1 : wr.frozen? ⟨w.heap.size, 1, none⟩ = false := frozen_of_row _ _ _ _ _ HRb.out
   have f2 : wr.frozen? ⟨w.heap.size, 2, none⟩ = false := frozen_of_row _ _ _ _ _ HRb.out
   clear hall hz
   obtain ⟨A, hA⟩ : ∃ A : Int, A = ((1 + ns.sum : Nat) : Int) := ⟨_, rfl⟩
   obtain ⟨B, hB⟩ : ∃ B : Int, B = ((1 + maxOf ds : Nat) : Int) := ⟨_, rfl⟩
   obtain ⟨C, hC⟩ : ∃ C : Int, C = ((bs.sum : Nat) : Int) := ⟨_, rfl⟩
   rw [<- hA] at z0
   rw [<- hB] at z1
   rw [<- hC] at z2
   have HAB : Hid (A = ((1 + ns.sum : Nat) : Int) /\ B = ((1 + maxOf ds : Nat) : Int) /\ C = ((bs.sum : Nat) : Int)) := ⟨hA, hB, hC⟩
   clear hA hB hC
   go_wp2_with fail
   exact bodyPost_ret (v := .agg #[.int .i64 A, .int .i64 B, .int .i64 C]) (by simp [results, Tryz.results47, go_sem, r0, r1, r2]) rfl ⟨by rw [HAB.out.1, HAB.out.2.1, HAB.out.2.2], ((HB.out.setCell (Nat.le_refl _) _).setCell (Nat.le_refl _) _).setCell (Nat.le_refl _) _⟩
set_option maxRecDepth 100000 in
set_option maxHeartbeats 4000000 in
theorem measure_object (n : Nat) (hM : MeasureOK n) (av : Nat -> Prop) (fs : List (Bs × J n)) (x : Value) (w : World) (hSt : St av w (n + 1) (Sum.inr (Sum.inr fs)) x) (hN : nodes (n + 1) (Sum.inr (Sum.inr fs)) <= 100000) (hD : depth (n + 1) (Sum.inr (Sum.inr fs)) <= 100000) (hL : lens (n + 1) (Sum.inr (Sum.inr fs)) <= 100000000) :
  Calls Tryz.prog 47 #[x] w fun e w' => e = .returned (.agg #[.int .i64 (nodes (n + 1) (Sum.inr (Sum.inr fs))), .int .i64 (depth (n + 1) (Sum.inr (Sum.inr fs))), .int .i64 (lens (n + 1) (Sum.inr (Sum.inr fs)))]) /\ Below w.heap.size w w' := by
 have en : nodes (n + 1) (Sum.inr (Sum.inr fs)) = 1 + (fs.map (fun f => nodes n f.2)).sum := rfl
 have ed : depth (n + 1) (Sum.inr (Sum.inr fs)) = 1 + maxOf (fs.map (fun f => depth n f.2)) := rfl
 have eb : lens (n + 1) (Sum.inr (Sum.inr fs)) = (fs.map (fun f => f.1.length + lens n f.2)).sum := rfl
 rw [en] at hN ⊢
 rw [ed] at hD ⊢
 rw [eb] at hL ⊢
 obtain ⟨p, g, cap, vs, rfl, hpp, hvl, hlc, hcm, hcell, hel⟩ := hSt.obj
 unfold maxLen at hcm
 have hlen : fs.length <= 100000 := by
  have h := sum_ge (fs.map (fun f => nodes n f.2)) (fun y hy => by
   obtain ⟨z, _, rfl⟩ := List.mem_map.1 hy
   exact nodes_pos _ _)
  rw [List.length_map] at h
  omega
 have HEl : Hid (∀ w1, Below w.heap.size w w1 -> ∀ k (hk : k < fs.length), ∃ u, w1.cell? ⟨g, k * 2, none⟩ = some (.string ⟨fs[k].1.toArray⟩) /\ w1.cell? ⟨g, k * 2 + 1, none⟩ = some u /\ St (fun c => w.heap.size <= c) w1 n fs[k].2 u) := by
  intro w1 hb k hk
  have hu : vs[k]? = some (vs[k]'(by omega)) := List.getElem?_eq_getElem (by omega)
  have hf : fs[k]? = some fs[k] := List.getElem?_eq_getElem hk
  have hc := hcell k _ _ hf hu
  refine ⟨_, by rw [hb.cell (p := ⟨g, k * 2, none⟩) (hpp k hk).2.2]; exact hc.1, by rw [hb.cell (p := ⟨g, k * 2 + 1, none⟩) (hpp k hk).2.2]; exact hc.2, ?_⟩
  exact (((hel k fs[k] _ hf hu).wide (fun c hc => Or.inr hc) : St (fun c => w.heap.size <= c) w n fs[k].2 _)).step hb.size (fun c hc _ => hb.block c hc)
 have HTk : Hid (∀ k (hk : k < fs.length), ((fs.map (fun f => nodes n f.2)).take (k + 1)).sum = ((fs.map (fun f => nodes n f.2)).take k).sum + nodes n fs[k].2 /\ maxOf ((fs.map (fun f => depth n f.2)).take (k + 1)) = max (maxOf ((fs.map (fun f => depth n f.2)).take k)) (depth n fs[k].2) /\ ((fs.map (fun f => f.1.length + lens n f.2)).take (k + 1)).sum = ((fs.map (fun f => f.1.length + lens n f.2)).take k).sum + (fs[k].1.length + lens n fs[k].2)) := fun k hk => by
  refine ⟨?_, ?_, ?_⟩
  ·rw [List.take_succ_eq_append_getElem (by simpa using hk), List.sum_append]
   simp
  ·rw [List.take_succ_eq_append_getElem (by simpa using hk), maxOf_snoc]
   simp
  ·rw [List.take_succ_eq_append_getElem (by simpa using hk), List.sum_append]
   simp
 have HLe : Hid (∀ k, ((fs.map (fun f => nodes n f.2)).take k).sum <= (fs.map (fun f => nodes n f.2)).sum /\ maxOf ((fs.map (fun f => depth n f.2)).take k) <= maxOf (fs.map (fun f => depth n f.2)) /\ ((fs.map (fun f => f.1.length + lens n f.2)).take k).sum <= (fs.map (fun f => f.1.length + lens n f.2)).sum) := fun k => ⟨take_sum_le _ k, take_max_le _ k, take_sum_le _ k⟩
 have HAll : Hid (∀ k, fs.length <= k -> ((fs.map (fun f => nodes n f.2)).take k).sum = (fs.map (fun f => nodes n f.2)).sum /\ maxOf ((fs.map (fun f => depth n f.2)).take k) = maxOf (fs.map (fun f => depth n f.2)) /\ ((fs.map (fun f => f.1.length + lens n f.2)).take k).sum = (fs.map (fun f => f.1.length + lens n f.2)).sum) := fun k hk => by
  rw [List.take_of_length_le (by simpa using hk), List.take_of_length_le (by simpa using hk), List.take_of_length_le (by simpa using hk)]
  exact ⟨rfl, rfl, rfl⟩
 generalize fs.map (fun f => nodes n f.2) = ns at *
 generalize fs.map (fun f => depth n f.2) = ds at *
 generalize fs.map (fun f => f.1.length + lens n f.2) = bs at *
 have HM : Hid (MeasureOK n) := hM
 obtain ⟨a1, a2, a3, a4, a5, a6⟩ := tas_Object
 have HPp : Hid (∀ k, k < fs.length -> p = some ⟨g, 0, none⟩) := fun k hk => (hpp k hk).1
 clear hcell hel hM en ed eb hpp
 have HZ0 : Hid (((w.alloc (.cells #[.int .i64 0, .int .i64 0, .int .i64 0] 80)).alloc (.cells #[.int .i64 1, .int .i64 1, .int .i64 0] 80)).heap[w.heap.size + 1]? = some (.cells #[.int .i64 1, .int .i64 1, .int .i64 0] 80 (0, 0))) := by
  have h0 := heap_alloc_new (w.alloc (.cells #[.int .i64 0, .int .i64 0, .int .i64 0] 80)) (.cells #[.int .i64 1, .int .i64 1, .int .i64 0] 80)
  have e0 : (w.alloc (.cells #[.int .i64 0, .int .i64 0, .int .i64 0] 80)).heap.size = w.heap.size + 1 := by simp
  rw [e0] at h0
  exact h0
 have HZr : Hid (((w.alloc (.cells #[.int .i64 0, .int .i64 0, .int .i64 0] 80)).alloc (.cells #[.int .i64 1, .int .i64 1, .int .i64 0] 80)).heap[w.heap.size]? = some (.cells #[.int .i64 0, .int .i64 0, .int .i64 0] 80 (0, 0))) := by
  show ((w.alloc (.cells #[.int .i64 0, .int .i64 0, .int .i64 0] 80)).alloc (.cells #[.int .i64 1, .int .i64 1, .int .i64 0] 80)).heap[w.heap.size]? = _
  rw [Below.heap_alloc _ _ _ (by simp)]
  exact heap_alloc_new w _
 have HB0 : Hid (Below w.heap.size w ((w.alloc (.cells #[.int .i64 0, .int .i64 0, .int .i64 0] 80)).alloc (.cells #[.int .i64 1, .int .i64 1, .int .i64 0] 80))) := ((Below.refl _ w).alloc (Nat.le_refl _) _).alloc (by simp) _
 go_enter Tryz.func47, Tryz.ntmps47
 go_wp2_with fail
 go_loopw [40] (fun i wr => ∃ k : Nat, k <= fs.length /\ i = .int .i64 k /\ wr.heap[w.heap.size + 1]? = some (.cells #[.int .i64 ((1 + (ns.take k).sum : Nat) : Int), .int .i64 ((1 + maxOf (ds.take k) : Nat) : Int), .int .i64 (((bs.take k).sum : Nat) : Int)] 80 (0, 0)) /\ wr.heap[w.heap.size]? = some (.cells #[.int .i64 0, .int .i64 0, .int .i64 0] 80 (0, 0)) /\ Below w.heap.size w wr) (fun i _ => fs.length - (intOf i).toNat)
 case atStart => exact ⟨0, Nat.zero_le _, rfl, HZ0.out, HZr.out, HB0.out⟩
 case round =>
  obtain ⟨k, hk, rfl, hz, hrb, hbel⟩ := hrel
  have HZ : Hid (wr.heap[w.heap.size + 1]? = some (.cells #[.int .i64 ((1 + (ns.take k).sum : Nat) : Int), .int .i64 ((1 + maxOf (ds.take k) : Nat) : Int), .int .i64 (((bs.take k).sum : Nat) : Int)] 80 (0, 0))) := hz
  have HRb : Hid (wr.heap[w.heap.size]? = some (.cells #[.int .i64 0, .int .i64 0, .int .i64 0] 80 (0, 0))) := hrb
  have HB : Hid (Below w.heap.size w wr) := hbel
  have hle := HLe.out k
  have hzw := lt_of_block hz
  clear hz hrb hbel
  by_cases hlt : k < fs.length
  ·have hpe := HPp.out k hlt
   subst hpe
   obtain ⟨u, hcn, hcu, hst⟩ := HEl.out wr HB.out k hlt
   obtain ⟨T, y, rfl⟩ := st_iface hst
   have hle2 := HLe.out (k + 1)
   have htk := HTk.out k hlt
   have hnk : nodes n fs[k].2 <= 100000 := by omega
   have hdk : depth n fs[k].2 <= 100000 := by omega
   have hbk : lens n fs[k].2 <= 100000000 := by omega
   have hnl2 : fs[k].1.length <= 100000000 := by omega
   have HTK : Hid ((ns.take (k + 1)).sum = (ns.take k).sum + nodes n fs[k].2 /\ maxOf (ds.take (k + 1)) = max (maxOf (ds.take k)) (depth n fs[k].2) /\ (bs.take (k + 1)).sum = (bs.take k).sum + (fs[k].1.length + lens n fs[k].2)) := htk
   have HSt : Hid (St (fun c => w.heap.size <= c) wr n fs[k].2 (.iface T y)) := hst
   clear hst htk
   have hnm : (⟨fs[k].1.toArray⟩ : ByteArray).size = fs[k].1.length := by simp [ByteArray.size]
   generalize (⟨fs[k].1.toArray⟩ : ByteArray) = nm at *
   generalize fs[k].1.length = nl at *
   generalize fs[k].2 = el at *
   have hsw := HB.out.size
   have z2A : wr.cell? ⟨w.heap.size + 1, 2, none⟩ = some (.int .i64 (((bs.take k).sum : Nat) : Int)) := by rw [cell_of_row _ _ _ _ _ _ HZ.out]; rfl
   have f2A : wr.frozen? ⟨w.heap.size + 1, 2, none⟩ = false := frozen_of_row _ _ _ _ _ HZ.out
   have hbk2 : (bs.take k).sum <= 100000000 := by omega
   go_wp2_with fail
   have HZb := heap_setCell_same wr (w.heap.size + 1) 2 _ _ (.int .i64 (((bs.take k).sum : Int) + (nl : Int))) HZ.out
   have gS := grownBy_setCell wr (w.heap.size + 1) 2 (.int .i64 (((bs.take k).sum : Int) + (nl : Int)))
   have HZb := (Below.heap_alloc (wr.setCell ⟨w.heap.size + 1, 2, none⟩ (.int .i64 (((bs.take k).sum : Int) + (nl : Int)))) (.cells #[.string nm, .iface T y] 86) _ (by rw [heap_setCell_size]; exact hzw)).trans HZb
   have HStB := (HSt.out.grown gS (fun k e => by cases e; omega)).grown (World.grownBy_alloc _ (.cells #[.string nm, .iface T y] 86) none) (fun k e => by cases e)
   have HRB := (Below.heap_alloc (wr.setCell ⟨w.heap.size + 1, 2, none⟩ (.int .i64 (((bs.take k).sum : Int) + (nl : Int)))) (.cells #[.string nm, .iface T y] 86) w.heap.size (by rw [heap_setCell_size]; omega)).trans ((gS.block _ (lt_of_block HRb.out) (fun e => by have := Option.some.inj e; omega)).trans HRb.out)
   have HBB := (HB.out.grown gS HB.out.size (fun k e => by cases e; omega)).alloc (by rw [heap_setCell_size]; exact hsw) (.cells #[.string nm, .iface T y] 86)
   generalize (wr.setCell ⟨w.heap.size + 1, 2, none⟩ (.int .i64 (((bs.take k).sum : Int) + (nl : Int)))).alloc (.cells #[.string nm, .iface T y] 86) = wa at *
   have HZA : Hid (wa.heap[w.heap.size + 1]? = some (.cells #[.int .i64 ((1 + (ns.take k).sum : Nat) : Int), .int .i64 ((1 + maxOf (ds.take k) : Nat) : Int), .int .i64 (((bs.take k).sum + nl : Nat) : Int)] 80 (0, 0))) := by
    show wa.heap[w.heap.size + 1]? = _
    have e9 : (((bs.take k).sum + nl : Nat) : Int) = ((bs.take k).sum : Int) + (nl : Int) := by omega
    rw [e9]
    exact HZb
   have HRA : Hid (wa.heap[w.heap.size]? = some (.cells #[.int .i64 0, .int .i64 0, .int .i64 0] 80 (0, 0))) := HRB
   have HBA : Hid (Below w.heap.size w wa) := HBB
   have HStA : Hid (St (fun c => w.heap.size <= c) wa n el (.iface T y)) := HStB
   clear HZb HRB HBB HStB gS z2A f2A
   refine (HM.out _ el (.iface T y) wa HStA.out hnk hdk hbk).mono ?_
   rintro e w1 ⟨rfl, b1⟩
   have hz1 : w1.heap[w.heap.size + 1]? = some (.cells #[.int .i64 ((1 + (ns.take k).sum : Nat) : Int), .int .i64 ((1 + maxOf (ds.take k) : Nat) : Int), .int .i64 (((bs.take k).sum + nl : Nat) : Int)] 80 (0, 0)) := (b1.block _ (lt_of_block HZA.out)).trans HZA.out
   have HZ1 : Hid (w1.heap[w.heap.size + 1]? = some (.cells #[.int .i64 ((1 + (ns.take k).sum : Nat) : Int), .int .i64 ((1 + maxOf (ds.take k) : Nat) : Int), .int .i64 (((bs.take k).sum + nl : Nat) : Int)] 80 (0, 0))) := hz1
   have HR1 : Hid (w1.heap[w.heap.size]? = some (.cells #[.int .i64 0, .int .i64 0, .int .i64 0] 80 (0, 0))) := (b1.block _ (lt_of_block HRA.out)).trans HRA.out
   have HB1 : Hid (Below w.heap.size w w1) := HBA.out.trans (b1.mono HBA.out.size)
   clear b1 hz1
   go_wp2_with fail
   refine (hold_any (w.heap.size + 1) (1 + (ns.take k).sum) (1 + maxOf (ds.take k)) ((bs.take k).sum + nl) (nodes n el) (depth n el) (lens n el) w1 HZ1.out (by omega) (by omega) (by omega) (by omega) (by omega) (by omega)).mono ?_
   rintro e w2 ⟨rfl, g2, z2⟩
   have HZ2 : Hid (w2.heap[w.heap.size + 1]? = some (.cells #[.int .i64 ((1 + (ns.take (k + 1)).sum : Nat) : Int), .int .i64 ((1 + maxOf (ds.take (k + 1)) : Nat) : Int), .int .i64 (((bs.take (k + 1)).sum : Nat) : Int)] 80 (0, 0))) := by
    show w2.heap[w.heap.size + 1]? = _
    have e1 : 1 + (ns.take (k + 1)).sum = 1 + (ns.take k).sum + nodes n el := by rw [HTK.out.1]; omega
    have e2 : 1 + maxOf (ds.take (k + 1)) = max (1 + maxOf (ds.take k)) (depth n el + 1) := by rw [HTK.out.2.1]; omega
    have e3 : (bs.take (k + 1)).sum = (bs.take k).sum + nl + lens n el := by rw [HTK.out.2.2]; omega
    rw [e1, e2, e3]
    exact z2
   have HR2 : Hid (w2.heap[w.heap.size]? = some (.cells #[.int .i64 0, .int .i64 0, .int .i64 0] 80 (0, 0))) := (g2.block _ (lt_of_block HR1.out) (fun e => by simp at e)).trans HR1.out
   have HB2 : Hid (Below w.heap.size w w2) := HB1.out.grown g2 HB1.out.size (fun k e => by cases e; omega)
   clear g2 z2
   go_wp2_with fail
   go_roundw
   case rel => exact ⟨k + 1, by omega, by go_num, HZ2.out, HR2.out, HB2.out⟩
   case measure => simp [intOf]; omega
  ·have hall := HAll.out k (by omega)
   have HA : Hid ((ns.take k).sum = ns.sum /\ maxOf (ds.take k) = maxOf ds /\ (bs.take k).sum = bs.sum) := hall
   have hz : wr.heap[w.heap.size + 1]? = some (.cells #[.int .i64 ((1 + ns.sum : Nat) : Int), .int .i64 ((1 + maxOf ds : Nat) : Int), .int .i64 ((bs.sum : Nat) : Int)] 80 (0, 0)) := by
    have := HZ.out
    rw [hall.1, hall.2.1, hall.2.2] at this
    exact this
   have z0 : wr.cell? ⟨w.heap.size + 1, 0, none⟩ = some (.int .i64 ((1 + ns.sum : Nat) : Int)) := by rw [cell_of_row _ _ _ _ _ _ hz]; rfl
   have z1 : wr.cell? ⟨w.heap.size + 1, 1, none⟩ = some (.int .i64 ((1 + maxOf ds : Nat) : Int)) := by rw [cell_of_row _ _ _ _ _ _ hz]; rfl
   have z2 : wr.cell? ⟨w.heap.size + 1, 2, none⟩ = some (.int .i64 ((bs.sum : Nat) : Int)) := by rw [cell_of_row _ _ _ _ _ _ hz]; rfl
   have r0 : wr.cell? ⟨w.heap.size, 0, none⟩ = some (.int .i64 0) := by rw [cell_of_row _ _ _ _ _ _ HRb.out]; rfl
   have r1 : wr.cell? ⟨w.heap.size, 1, none⟩ = some (.int .i64 0) := by rw [cell_of_row _ _ _ _ _ _ HRb.out]; rfl
   have r2 : wr.cell? ⟨w.heap.size, 2, none⟩ = some (.int .i64 0) := by rw [cell_of_row _ _ _ _ _ _ HRb.out]; rfl
   have f0 : wr.frozen? ⟨w.heap.size, 0, none⟩ = false := frozen_of_row _ _ _ _ _ HRb.out
   have f1 : wr.frozen? ⟨w.heap.size, 1, none⟩ = false := frozen_of_row _ _ _ _ _ HRb.out
   have f2 : wr.frozen? ⟨w.heap.size, 2, none⟩ = false := frozen_of_row _ _ _ _ _ HRb.out
   clear hall hz
   obtain ⟨A, hA⟩ : ∃ A : Int, A = ((1 + ns.sum : Nat) : Int) := ⟨_, rfl⟩
   obtain ⟨B, hB⟩ : ∃ B : Int, B = ((1 + maxOf ds : Nat) : Int) := ⟨_, rfl⟩
   obtain ⟨C, hC⟩ : ∃ C : Int, C = ((bs.sum : Nat) : Int) := ⟨_, rfl⟩
   rw [<- hA] at z0
   rw [<- hB] at z1
   rw [<- hC] at z2
   have HAB : Hid (A = ((1 + ns.sum : Nat) : Int) /\ B = ((1 + maxOf ds : Nat) : Int) /\ C = ((bs.sum : Nat) : Int)) := ⟨hA, hB, hC⟩
   clear hA hB hC
   go_wp2_with fail
   exact bodyPost_ret (v := .agg #[.int .i64 A, .int .i64 B, .int .i64 C]) (by simp [results, Tryz.results47, go_sem, r0, r1, r2]) rfl ⟨by rw [HAB.out.1, HAB.out.2.1, HAB.out.2.2], ((HB.out.setCell (Nat.le_refl _) _).setCell (Nat.le_refl _) _).setCell (Nat.le_refl _) _⟩
theorem measure_ok : ∀ n, MeasureOK n
 | 0 => fun av j x w hSt hN hD hL => by
  have e : x = leafV j := hSt
  subst e
  exact measure_leaf j w
 | n + 1 => fun av j x w hSt hN hD hL => by
  have hM := measure_ok n
  match j, hSt, hN, hD, hL with
  | Sum.inl l, hSt, hN, hD, hL =>
   have e : x = leafV l := hSt
   subst e
   exact measure_leaf l w
  | Sum.inr (Sum.inl xs), hSt, hN, hD, hL => exact measure_list n hM av xs x w hSt hN hD hL
  | Sum.inr (Sum.inr fs), hSt, hN, hD, hL => exact measure_object n hM av fs x w hSt hN hD hL
def isObjJ : (n : Nat) -> J n -> Bool
 | 0, _ => false
 | _ + 1, Sum.inl _ => false
 | _ + 1, Sum.inr (Sum.inl _) => false
 | _ + 1, Sum.inr (Sum.inr _) => true
theorem leaf_type {l : Leaf} {T : TypeId} {x : Value} (h : Value.iface T x = leafV l) : T ≠ 53 := by
 rcases l with _ | b | i | s
 ·cases h; decide
 ·cases h; decide
 ·cases h; decide
 ·cases h; decide
theorem flat_type {av : Nat -> Prop} {w : World} : ∀ {n : Nat} {j : J n} {T : TypeId} {x : Value}, St av w n j (.iface T x) -> isObjJ n j = false -> T ≠ 53
 | 0, _, _, _, h, _ => leaf_type h
 | _ + 1, Sum.inl _, _, _, h, _ => leaf_type h
 | _ + 1, Sum.inr (Sum.inl xs), _, _, h, _ => by
  obtain ⟨p, g, cap, vs, hv, _⟩ := h.list
  cases hv
  decide
 | _ + 1, Sum.inr (Sum.inr _), _, _, _, h => by cases h
theorem ta_flat {T : TypeId} (h : T ≠ 53) : ∀ (x : Value) (w : World), (Instr.typeAssert (.iface T x) 46 53 true).run Tryz.prog w = .ok (.tuple #[.slice none 0 0, .bool false]) w :=
 fun x w => ta_miss w Tryz.underlying53 rfl Tryz.zeroValue53 h x
theorem ta_nil (w : World) : (Instr.typeAssert .nilIface 46 53 true).run Tryz.prog w = .ok (.tuple #[.slice none 0 0, .bool false]) w := by
 unfold Instr.typeAssert
 simp [Sem.run_bind, run_underlying Tryz.underlying53, Result.andThen, Sem.run_pure, Tryz.zeroValue53]
theorem fields_flat {n : Nat} {j : J (n + 1)} (h : isObjJ (n + 1) j = false) : fieldsP (some j) = [] := by
 match j, h with
 | Sum.inl _, _ => rfl
 | Sum.inr (Sum.inl _), _ => rfl
theorem merged_flatP : ∀ {n : Nat} (d : Option (J n)) {j : J n}, isObjJ n j = false -> mergedP n d j = j
 | 0, _, _, _ => rfl
 | _ + 1, _, Sum.inl _, _ => rfl
 | _ + 1, _, Sum.inr (Sum.inl _), _ => rfl
 | _ + 1, _, Sum.inr (Sum.inr _), h => by cases h
theorem composed_flatP : ∀ {n : Nat} (p : J n) {j : J n}, isObjJ n j = false -> composedP n p j = .ok j
 | 0, _, _, _ => rfl
 | _ + 1, _, Sum.inl _, _ => rfl
 | _ + 1, _, Sum.inr (Sum.inl _), _ => rfl
 | _ + 1, _, Sum.inr (Sum.inr _), h => by cases h
theorem composed_mixP {n : Nat} {p : J (n + 1)} (fs : List (Bs × J n)) (h : isObjJ (n + 1) p = false) : composedP (n + 1) p (Sum.inr (Sum.inr fs)) = .error 9 := by
 match p, h with
 | Sum.inl _, _ => rfl
 | Sum.inr (Sum.inl _), _ => rfl
theorem null_kind : ∀ (n : Nat) (j : J n), isNullJ n j = decide (kindJ n j = 1)
 | 0, l => by rcases l with _ | b | i | s <;> rfl
 | _ + 1, Sum.inl l => by rcases l with _ | b | i | s <;> rfl
 | _ + 1, Sum.inr (Sum.inl xs) => rfl
 | _ + 1, Sum.inr (Sum.inr fs) => rfl
theorem mem_le_sum : ∀ (l : List Nat) (x : Nat), x ∈ l -> x <= l.sum
 | [], x, h => by cases h
 | y :: l, x, h => by
  rcases List.mem_cons.1 h with rfl | h
  ·simp
  ·have := mem_le_sum l x h
   simp
   omega
theorem okv_field {n : Nat} {fs : List (Bs × J n)} (h : Okv (n + 1) (Sum.inr (Sum.inr fs))) : (∀ f ∈ fs, Okv n f.2) /\ fs.length <= 2000 := by
 have hn : 1 + (fs.map fun f => nodes n f.2).sum <= 2000 := h.nodes
 have hs := sum_ge (fs.map fun f => nodes n f.2) (by
  intro y hy
  obtain ⟨f, _, rfl⟩ := List.mem_map.1 hy
  exact nodes_pos _ _)
 rw [List.length_map] at hs
 refine ⟨fun f hf => ⟨h.fit f hf, ?_, ?_⟩, by omega⟩
 ·have : nodes n f.2 <= (fs.map fun f => nodes n f.2).sum := by
   exact mem_le_sum _ _ (List.mem_map.2 ⟨f, hf, rfl⟩)
  omega
 ·have hl : (123 :: (commas (fs.map fun f => quote f.1 ++ 58 :: tell n f.2) ++ [125])).length <= 100000 := h.len
  have hc : ∀ (ts : List Bs) (t : Bs), t ∈ ts -> t.length <= (commas ts).length := by
   intro ts
   induction ts with
   | nil => intro t ht; cases ht
   | cons x r ih =>
    intro t ht
    cases r with
    | nil =>
     simp at ht
     subst ht
     exact Nat.le_refl _
    | cons y r =>
     rcases List.mem_cons.1 ht with rfl | ht
     ·simp [commas]
     ·have := ih t ht
      simp only [commas, List.length_append, List.length_cons] at this ⊢
      omega
  have := hc _ _ (List.mem_map.2 ⟨f, hf, rfl⟩ : quote f.1 ++ 58 :: tell n f.2 ∈ fs.map fun f => quote f.1 ++ 58 :: tell n f.2)
  simp only [List.length_cons, List.length_append] at hl this
  omega
theorem okv_fields {n : Nat} {d : Option (J (n + 1))} (h : OkO (n + 1) d) : (∀ f ∈ fieldsP d, Okv n f.2) /\ (fieldsP d).length <= 2000 := by
 match d, h with
 | none, _ => exact ⟨fun f hf => (by cases hf), Nat.zero_le _⟩
 | some (Sum.inl _), _ => exact ⟨fun f hf => (by cases hf), Nat.zero_le _⟩
 | some (Sum.inr (Sum.inl _)), _ => exact ⟨fun f hf => (by cases hf), Nat.zero_le _⟩
 | some (Sum.inr (Sum.inr fs)), h => exact okv_field (h _ rfl)
set_option maxRecDepth 100000 in
set_option maxHeartbeats 1000000 in
theorem isNull_any (av : Nat -> Prop) (n : Nat) (j : J n) (T : TypeId) (x : Value) (w : World) (h : St av w n j (.iface T x)) :
  Calls Tryz.prog 31 #[.iface T x] w fun e w' => e = .returned (.bool (isNullJ n j)) /\ w' = w := by
 have HK : Hid (Calls Tryz.prog 26 #[.iface T x] w fun e w' => e = .returned (.int .i64 (kindJ n j)) /\ w' = w) := kindOf_any n av j _ w h
 have HN : Hid (isNullJ n j = decide (kindJ n j = 1)) := null_kind n j
 clear h
 generalize kindJ n j = k at *
 generalize isNullJ n j = r at *
 go_enter Tryz.func31, Tryz.ntmps31
 go_wp2_with fail
 refine Calls.mono HK.out ?_
 rintro e w1 ⟨rfl, rfl⟩
 go_wp2_with fail
 go_ret
 refine ⟨?_, rfl⟩
 rw [HN.out]
 have hb : ((k : Int) == 1) = decide (k = 1) := by
  rw [Bool.eq_iff_iff, beq_iff_eq, decide_eq_true_iff]
  omega
 rw [<- hb]
 rfl
set_option maxRecDepth 100000 in
set_option maxHeartbeats 1000000 in
theorem fieldsOf_any (av : Nat -> Prop) (n : Nat) (d : Option (J (n + 1))) (v : Value) (w : World) (h : OptV av w (n + 1) d v) :
  Calls Tryz.prog 29 #[v] w fun e w' => ∃ v', e = .returned v' /\ w' = w /\ Flds av w n (fieldsP d) v' := by
 rcases h with ⟨rfl, rfl⟩ | ⟨j, T, x, rfl, rfl, hst⟩
 ·have ht := ta_nil
  go_enter Tryz.func29, Tryz.ntmps29
  go_wp2_with fail
  go_ret
  exact ⟨_, rfl, rfl, Or.inl ⟨rfl, _, _, rfl⟩⟩
 ·cases hj : isObjJ (n + 1) j with
  | false =>
   have ht := ta_flat (flat_type hst hj)
   have HF : Hid (fieldsP (some j) = []) := fields_flat hj
   clear hst hj
   go_enter Tryz.func29, Tryz.ntmps29
   go_wp2_with fail
   go_ret
   exact ⟨_, rfl, rfl, by rw [HF.out]; exact Or.inl ⟨rfl, _, _, rfl⟩⟩
  | true =>
   match j, hj, hst with
   | Sum.inr (Sum.inr fs), _, hst =>
    obtain ⟨p, cap, e, hf⟩ := flds_of_st hst
    cases e
    obtain ⟨a1, a2, a3, a4, a5, a6⟩ := tas_Object
    have HF : Hid (Flds av w n fs (.slice p fs.length cap)) := hf
    clear hst hf
    go_enter Tryz.func29, Tryz.ntmps29
    go_wp2_with fail
    go_ret
    exact ⟨_, rfl, rfl, HF.out⟩
def MergedOK (n : Nat) : Prop := ∀ (av : Nat -> Prop) (w : World) (d : Option (J n)) (v : J n) (vd : Value) (T : TypeId) (x : Value), (∀ c, av c -> c < w.heap.size) -> OptV av w n d vd -> St av w n v (.iface T x) -> OkO n d -> Okv n v -> Tab w.heap.size w ->
 Calls Tryz.prog 15 #[vd, .iface T x] w (MadeV av n (.ok (mergedP n d v)) w)
set_option maxRecDepth 100000 in
set_option maxHeartbeats 1000000 in
theorem merged_flat (av : Nat -> Prop) (n : Nat) (w : World) (d : Option (J n)) (v : J n) (vd : Value) (T : TypeId) (x : Value) (hst : St av w n v (.iface T x)) (hj : isObjJ n v = false) :
  Calls Tryz.prog 15 #[vd, .iface T x] w (MadeV av n (.ok (mergedP n d v)) w) := by
 have ht := ta_flat (flat_type hst hj)
 rw [merged_flatP d hj]
 have HS : Hid (St av w n v (.iface T x)) := hst
 clear hst hj
 go_enter Tryz.func15, Tryz.ntmps15
 go_wp2_with fail
 go_ret2
 exact ⟨Below.refl _ _, Or.inr ⟨_, _, _, rfl, rfl, HS.out⟩⟩
theorem enterM (args : Array Value) (w : World) : (callFunc 30 args).run Tryz.prog w = .ok (.enter 30 args) w := by
 have h1 : (Tryz.f30.name == "runtime.NumGoroutine") = false := by kernel_rfl
 obtain ⟨c, hb⟩ : ∃ c, Tryz.f30.body = some c := ⟨_, rfl⟩
 simp only [beq_eq_false_iff_ne, ne_eq] at h1
 simp [callFunc, Tryz.func30, h1, hb]
set_option maxRecDepth 100000 in
set_option maxHeartbeats 1000000 in
theorem closureM (n : Nat) (hM : MergedOK n) : OfOK 30 n (ofM (mergedP n)) := by
 intro av w v u vv vu hav hv hu okv oku hT
 rcases hu with ⟨rfl, rfl⟩ | ⟨j, T, x, rfl, rfl, hst⟩
 ·have HV : Hid (OptV av w n v vv) := hv
  clear hv okv oku hT hM
  go_enter Tryz.func30, Tryz.ntmps30
  go_wp2_with fail
  go_ret2
  exact ⟨Below.refl _ _, Or.inr ⟨_, _, rfl, rfl, HV.out⟩⟩
 ·have HN : Hid (Calls Tryz.prog 31 #[.iface T x] w fun e w' => e = .returned (.bool (isNullJ n j)) /\ w' = w) := isNull_any av n j T x w hst
  have HC : Hid (Calls Tryz.prog 15 #[vv, .iface T x] w (MadeV av n (.ok (mergedP n v j)) w)) := hM av w v j vv T x hav hv hst okv (oku j rfl) hT
  have HO : Hid (ofM (mergedP n) v (some j) = if isNullJ n j then .ok none else .ok (some (mergedP n v j))) := rfl
  clear hM hv hst okv oku hT hav
  generalize ofM (mergedP n) v (some j) = res at *
  cases hb : isNullJ n j with
  | true =>
   rw [hb] at HN HO
   have HR : Hid (res = .ok none) := by show res = _; rw [HO.out]; rfl
   go_enter Tryz.func30, Tryz.ntmps30
   go_wp2_with fail
   refine Calls.mono HN.out ?_
   rintro e w1 ⟨rfl, rfl⟩
   go_wp2_with fail
   go_ret2
   exact ⟨Below.refl _ _, Or.inr ⟨_, _, HR.out, rfl, Or.inl ⟨rfl, rfl⟩⟩⟩
  | false =>
   rw [hb] at HN HO
   have HR : Hid (res = .ok (some (mergedP n v j))) := by show res = _; rw [HO.out]; rfl
   go_enter Tryz.func30, Tryz.ntmps30
   go_wp2_with fail
   refine Calls.mono HN.out ?_
   rintro e w1 ⟨rfl, rfl⟩
   go_wp2_with fail
   refine Calls.mono HC.out ?_
   rintro e w2 ⟨b2, h2⟩
   rcases h2 with ⟨er, h3, _⟩ | ⟨k, T', x', h3, rfl, h4⟩
   ·cases h3
   ·have e3 := Except.ok.inj h3
    subst e3
    have HB : Hid (Below w1.heap.size w1 w2) := b2
    have HS : Hid (St av w2 n (mergedP n v j) (.iface T' x')) := h4
    clear b2 h3 h4
    go_wp2_with fail
    go_ret2
    exact ⟨HB.out, Or.inr ⟨_, _, HR.out, rfl, Or.inr ⟨_, _, _, rfl, rfl, HS.out⟩⟩⟩
set_option maxRecDepth 100000 in
set_option maxHeartbeats 1000000 in
theorem merged_object (n : Nat) (hM : MergedOK n) (av : Nat -> Prop) (w : World) (d : Option (J (n + 1))) (fs : List (Bs × J n)) (vd : Value) (T : TypeId) (x : Value) (hav : ∀ c, av c -> c < w.heap.size) (hd' : OptV av w (n + 1) d vd) (hst : St av w (n + 1) (Sum.inr (Sum.inr fs)) (.iface T x)) (okd : OkO (n + 1) d) (okv : Okv (n + 1) (Sum.inr (Sum.inr fs))) (hT : Tab w.heap.size w) :
  Calls Tryz.prog 15 #[vd, .iface T x] w (MadeV av (n + 1) (.ok (mergedP (n + 1) d (Sum.inr (Sum.inr fs)))) w) := by
 obtain ⟨p, cap, e, hf⟩ := flds_of_st hst
 cases e
 obtain ⟨a1, a2, a3, a4, a5, a6⟩ := tas_Object
 obtain ⟨R, hR, hm⟩ := merged_obj d fs
 have HFo := fieldsOf_any av n d vd w hd'
 have HFo' : Hid (Calls Tryz.prog 29 #[vd] w fun e w' => ∃ v', e = .returned v' /\ w' = w /\ Flds av w n (fieldsP d) v') := HFo
 have okf := okv_fields okd
 have okg := okv_field okv
 have HMt : Hid (∀ v', Flds av w n (fieldsP d) v' -> Calls Tryz.prog 28 #[v', .slice p fs.length cap, .func (.func 30) #[] #[]] w (MadeV av (n + 1) (.ok (mergedP (n + 1) d (Sum.inr (Sum.inr fs)))) w)) := fun v' hv' => by
  have h := meet_any 30 n enterM (ofM (mergedP n)) (closureM n hM) av (fieldsP d) fs v' (.slice p fs.length cap) w hav hv' hf okf.1 okg.1 okf.2 okg.2 hT
  rw [hR] at h
  rw [hm]
  exact h
 clear HFo hst hf hd' okd okv hT hM okf okg hav hR hm
 generalize mergedP (n + 1) d (Sum.inr (Sum.inr fs)) = res at *
 go_enter Tryz.func15, Tryz.ntmps15
 go_wp2_with fail
 refine Calls.mono HFo'.out ?_
 rintro e w1 ⟨v', rfl, rfl, hv'⟩
 have HMv : Hid _ := HMt.out v' hv'
 clear hv'
 go_wp2_with fail
 refine Calls.mono HMv.out ?_
 rintro e w2 ⟨b2, h2⟩
 rcases h2 with ⟨er, h3, _⟩ | ⟨k, T', x', h3, rfl, h4⟩
 ·cases h3
 ·have e3 := Except.ok.inj h3
  subst e3
  have HB : Hid (Below w1.heap.size w1 w2) := b2
  have HS : Hid (St av w2 (n + 1) res (.iface T' x')) := h4
  clear b2 h3 h4
  go_wp2_with fail
  go_ret2
  exact ⟨HB.out, Or.inr ⟨_, _, _, rfl, rfl, HS.out⟩⟩
theorem merged_ok : ∀ n, MergedOK n
 | 0 => fun av w d v vd T x hav hd' hst okd okv hT => merged_flat av 0 w d v vd T x hst rfl
 | n + 1 => fun av w d v vd T x hav hd' hst okd okv hT => by
  match v, hst, okv with
  | Sum.inl l, hst, _ => exact merged_flat av _ w d _ vd T x hst rfl
  | Sum.inr (Sum.inl xs), hst, _ => exact merged_flat av _ w d _ vd T x hst rfl
  | Sum.inr (Sum.inr fs), hst, okv => exact merged_object n (merged_ok n) av w d fs vd T x hav hd' hst okd okv hT
end Go.Proofs.YtjcdklbimaclkaaGreatDoor
namespace Go.Proofs.YtjcdklbimaclkaaGreatDoor
set_option linter.unusedVariables false
set_option linter.unusedSimpArgs false
theorem dec_ne (u : Nat) : Lib.decDigits u ≠ [] := by
 rw [Lib.decDigits]
 split <;> simp
end Go.Proofs.YtjcdklbimaclkaaGreatDoor
