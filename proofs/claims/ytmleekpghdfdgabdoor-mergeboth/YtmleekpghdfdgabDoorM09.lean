/- Several texts in one: MrgMeet, Measure, MrgAll, DocErr, DocTell. -/
import Derived.Test.YtmleekpghdfdgabDoorM08
import Derived.Handy
import Derived.Test.YtmleekpghdfdgabDoorM02
import Derived.Test.YtmleekpghdfdgabDoorM00
/- Contract over this translation of what meets two objects field by field. -/
namespace Go.Proofs.YtmleekpghdfdgabDoor
open Go.RowKit
set_option linter.unusedVariables false
set_option linter.unusedSimpArgs false
/-- a value that is not too great to be looked at -/
structure Okv (n : Nat) (j : J n) : Prop where
  fit : Fit n j
  nodes : nodes n j ≤ 2000
  len : (tell n j).length ≤ 100000
def OkO (n : Nat) (o : Option (J n)) : Prop := ∀ x, o = some x → Okv n x
/-- what is made of two that may lack -/
def MakePost (av : Nat → Prop) (n : Nat) (r : Except Nat (Option (J n))) (w : World) (e : Ending) (w' : World) : Prop :=
  Below w.heap.size w w' ∧ ((∃ er : Nat, r = .error er ∧ er ≠ 0 ∧ er < 100 ∧ e = .returned (.tuple #[.nilIface, .int .i64 er])) ∨ ∃ m v, r = .ok m ∧ e = .returned (.tuple #[v, .int .i64 0]) ∧ OptV av w' n m v)
/-- what a value is that is made -/
def MadeV (av : Nat → Prop) (n : Nat) (r : Except Nat (J n)) (w : World) (e : Ending) (w' : World) : Prop :=
  Below w.heap.size w w' ∧ ((∃ er : Nat, r = .error er ∧ er ≠ 0 ∧ er < 100 ∧ e = .returned (.tuple #[.nilIface, .int .i64 er])) ∨ ∃ j T x, r = .ok j ∧ e = .returned (.tuple #[.iface T x, .int .i64 0]) ∧ St av w' n j (.iface T x))
/-- what the function that is handed over does -/
def OfOK (f n : Nat) (of : Of (J n)) : Prop :=
  ∀ (av : Nat → Prop) (w : World) (v u : Option (J n)) (vv vu : Value), (∀ c, av c → c < w.heap.size) → OptV av w n v vv → OptV av w n u vu → OkO n v → OkO n u → Tab w.heap.size w →
    Calls Tryd.prog f #[vv, vu] w (MakePost av n (of v u) w)
def lenV : Value → Nat
  | .slice _ n _ => n
  | _ => 0
theorem below_grown {w w' : World} (h : Below w.heap.size w w') : w.grownBy w' none := ⟨h.os, h.tape, h.output, h.size, fun k hk _ => h.block k hk⟩
theorem new_two (w : World) (x y : Value) (e : TypeId) : ∀ (j : Nat) (u : Value), [x, y][j]? = some u → (w.alloc (.cells #[x, y] e)).cell? ((⟨w.heap.size, 0, none⟩ : Addr).add j) = some u := by
  intro j u hj
  match j, hj with
  | 0, hj => simp at hj; subst hj; simp [Addr.add]
  | 1, hj => simp at hj; subst hj; simp [Addr.add]
theorem two_of {x y : Value} (h : x.oneCell' = true) (k : y.oneCell' = true) : ∀ u ∈ [x, y], u.oneCell' = true := by
  intro u hu
  simp at hu
  rcases hu with rfl | rfl
  · exact h
  · exact k
/-- what has been gathered, with what comes behind it -/
def addM {n : Nat} (acc : List (Bs × J n)) (r : Except Nat (List (Bs × J n))) : Except Nat (J (n + 1)) :=
  match r with
  | .error e => .error e
  | .ok l => .ok (Sum.inr (Sum.inr (acc ++ l)))
theorem addM_nil {n : Nat} (r : Except Nat (List (Bs × J n))) : addM [] r = objE r := by cases r <;> rfl
theorem addM_end {n : Nat} (of : Of (J n)) (acc : List (Bs × J n)) (k : Nat) : addM acc (meetF of k [] []) = .ok (Sum.inr (Sum.inr acc)) := by
  cases k with
  | zero => simp [meetF, addM]
  | succ k => simp [meetF, addM]
theorem addM_err {n : Nat} {of : Of (J n)} {acc a b : List (Bs × J n)} {k e : Nat} (hne : a.length + b.length ≠ 0) (h : of (takeV a (lowName a b)) (takeV b (lowName a b)) = .error e) : addM acc (meetF of (k + 1) a b) = .error e := by
  simp only [meetF]
  rw [if_neg hne, h]
  rfl
theorem addM_ok {n : Nat} {of : Of (J n)} {acc a b : List (Bs × J n)} {k : Nat} {m : Option (J n)} (hne : a.length + b.length ≠ 0) (h : of (takeV a (lowName a b)) (takeV b (lowName a b)) = .ok m) :
    addM acc (meetF of (k + 1) a b) = addM (acc ++ withM (lowName a b) m []) (meetF of k (takeR a (lowName a b)) (takeR b (lowName a b))) := by
  simp only [meetF]
  rw [if_neg hne, h]
  cases hr : meetF of k (takeR a (lowName a b)) (takeR b (lowName a b)) with
  | error e => rfl
  | ok r => cases m <;> simp [addM, withM]
/-- what is known ahead of each round -/
structure MInv (av : Nat → Prop) (n : Nat) (of : Of (J n)) (res : Except Nat (J (n + 1))) (w0 wr : World) (x y o : Value) (a b acc : List (Bs × J n)) (k g cap : Nat) (us : List Value) : Prop where
  fa : Flds (fun c => av c ∨ c = g) wr n a x
  fb : Flds (fun c => av c ∨ c = g) wr n b y
  out : o = .slice (some ⟨g, 0, none⟩) acc.length cap
  row : Row wr 52 2 g acc.length cap (flat acc us)
  len : us.length = acc.length
  els : ∀ (i : Nat) (f : Bs × J n) (u : Value), acc[i]? = some f → us[i]? = some u → St (fun c => av c ∨ c = g) wr n f.2 u
  new : w0.heap.size ≤ g
  bel : Below w0.heap.size w0 wr
  oka : ∀ x ∈ a, Okv n x.2
  okb : ∀ x ∈ b, Okv n x.2
  many : acc.length + a.length + b.length ≤ 4000
  fuel : a.length + b.length ≤ k
  eq : res = addM acc (meetF of k a b)
theorem MInv.start {av : Nat → Prop} {n : Nat} {of : Of (J n)} {w : World} {va vb : Value} {a b : List (Bs × J n)} (hav : ∀ c, av c → c < w.heap.size) (ha : Flds av w n a va) (hb : Flds av w n b vb)
    (oka : ∀ x ∈ a, Okv n x.2) (okb : ∀ x ∈ b, Okv n x.2) (hla : a.length ≤ 2000) (hlb : b.length ≤ 2000) :
    MInv av n of (objE (meetP of a b)) w (w.alloc (.cells #[] 52)) va vb (.slice (some ⟨w.heap.size, 0, none⟩) 0 0) a b [] (a.length + b.length) w.heap.size 0 [] := by
  have hb1 : Below w.heap.size w (w.alloc (.cells #[] 52)) := (Below.refl _ _).alloc (Nat.le_refl _) _
  have hm : ∀ c, c < w.heap.size → ¬ av c → ¬ (av c ∨ c = w.heap.size) := fun c hc h => by
    rintro (h' | h')
    · exact h h'
    · omega
  refine ⟨ha.move hb1.size (fun c hc _ => hb1.block c hc) hm, hb.move hb1.size (fun c hc _ => hb1.block c hc) hm, rfl, ⟨rfl, #[], heap_alloc_new w _, Nat.le_refl _, by unfold maxLen; omega, rfl, rfl⟩, rfl, fun i f u hf => by simp at hf, Nat.le_refl _, hb1, oka, okb, by simp; omega, Nat.le_refl _, ?_⟩
  rw [addM_nil]
  rfl
/-- a round in which nothing is put behind what was gathered -/
theorem MInv.pass {av : Nat → Prop} {n : Nat} {of : Of (J n)} {res : Except Nat (J (n + 1))} {w0 wr w1 : World} {x y o x' y' : Value} {a b acc : List (Bs × J n)} {k g cap : Nat} {us : List Value} (h : MInv av n of res w0 wr x y o a b acc (k + 1) g cap us) (hb : Below wr.heap.size wr w1)
    (hne : a.length + b.length ≠ 0) (ho : of (takeV a (lowName a b)) (takeV b (lowName a b)) = .ok none) (hx : Flds (fun c => av c ∨ c = g) w1 n (takeR a (lowName a b)) x') (hy : Flds (fun c => av c ∨ c = g) w1 n (takeR b (lowName a b)) y') :
    MInv av n of res w0 w1 x' y' o (takeR a (lowName a b)) (takeR b (lowName a b)) acc k g cap us := by
  have hl := low_less a b hne
  have h1 := h.many
  have h2 := h.fuel
  refine ⟨hx, hy, h.out, h.row.kept (below_grown hb) (fun e => by cases e), h.len, fun i f u hf hu => (h.els i f u hf hu).ona hb, h.new, h.bel.trans (hb.mono h.bel.size), fun z hz => h.oka z (takeR_mem hz), fun z hz => h.okb z (takeR_mem hz), by omega, by omega, ?_⟩
  rw [h.eq, addM_ok hne ho]
  simp [withM]
/-- a round in which a field is put behind what was gathered -/
theorem MInv.push {av : Nat → Prop} {n : Nat} {of : Of (J n)} {res : Except Nat (J (n + 1))} {w0 wr w1 w2 : World} {x y o x' y' : Value} {a b acc : List (Bs × J n)} {k g cap g' cap' : Nat} {us : List Value} {m : J n} {v : Value} {ob : Obj} {row : Option Nat}
    (h : MInv av n of res w0 wr x y o a b acc (k + 1) g cap us) (hb : Below wr.heap.size wr w1) (hav : ∀ c, av c → c < w0.heap.size)
    (hne : a.length + b.length ≠ 0) (ho : of (takeV a (lowName a b)) (takeV b (lowName a b)) = .ok (some m)) (hx : Flds (fun c => av c ∨ c = g) w1 n (takeR a (lowName a b)) x') (hy : Flds (fun c => av c ∨ c = g) w1 n (takeR b (lowName a b)) y')
    (hm : St (fun c => av c ∨ c = g) w1 n m v) (hg : (w1.alloc ob).grownBy w2 row) (hrow : Row w2 52 2 g' (acc.length + 1) cap' (flat acc us ++ [.string ⟨(lowName a b).toArray⟩, v])) (hcase : (g' = g ∧ row = some g) ∨ (row = none ∧ w1.heap.size < g')) :
    MInv av n of res w0 w2 x' y' (.slice (some ⟨g', 0, none⟩) (acc.length + 1) cap') (takeR a (lowName a b)) (takeR b (lowName a b)) (acc ++ [(lowName a b, m)]) k g' cap' (us ++ [v]) := by
  have hl := low_less a b hne
  have h1 := h.many
  have h2 := h.fuel
  have hgl := h.row.lt
  have hbs := hb.size
  have hsz : w1.heap.size ≤ w2.heap.size := by have := hg.size; simp at this; omega
  have hblk : ∀ c, c < w1.heap.size → ¬ (av c ∨ c = g) → w2.heap[c]? = w1.heap[c]? := fun c hc hn => by
    rw [hg.block c (by simp; omega) (fun e => by
      rcases hcase with ⟨_, rfl⟩ | ⟨rfl, _⟩
      · cases e
        exact hn (Or.inr rfl)
      · cases e)]
    exact Below.heap_alloc w1 _ c hc
  have hmv : ∀ c, c < w1.heap.size → ¬ (av c ∨ c = g) → ¬ (av c ∨ c = g') := fun c hc hn => by
    rintro (h' | h')
    · exact hn (Or.inl h')
    · rcases hcase with ⟨rfl, _⟩ | ⟨_, hlt⟩
      · exact hn (Or.inr h')
      · omega
  have hnew : w0.heap.size ≤ g' := by
    have := h.new
    rcases hcase with ⟨rfl, _⟩ | ⟨_, hlt⟩
    · exact this
    · omega
  have hb0 := h.bel.trans (hb.mono h.bel.size)
  refine ⟨hx.move hsz hblk hmv, hy.move hsz hblk hmv, by simp, ?_, by simp [h.len], fun i f u hf hu => ?_, hnew, ⟨hg.os.trans hb0.os, hg.tape.trans hb0.tape, hg.output.trans hb0.output, Nat.le_trans hb0.size hsz, fun c hc => ?_⟩, fun z hz => h.oka z (takeR_mem hz), fun z hz => h.okb z (takeR_mem hz), by simp; omega, by omega, ?_⟩
  · have e : flat (acc ++ [(lowName a b, m)]) (us ++ [v]) = flat acc us ++ [.string ⟨(lowName a b).toArray⟩, v] := by
      rw [flat_append _ _ _ _ h.len]
      rfl
    rw [e]
    simpa using hrow
  · rcases snoc_get hf with ⟨hi, hf'⟩ | ⟨hi, rfl⟩
    · rcases snoc_get hu with ⟨hi2, hu'⟩ | ⟨hi2, rfl⟩
      · exact St.move hsz hblk hmv _ _ _ ((h.els i f u hf' hu').ona hb)
      · have := h.len; omega
    · rcases snoc_get hu with ⟨hi2, hu'⟩ | ⟨hi2, rfl⟩
      · have := h.len; omega
      · exact St.move hsz hblk hmv _ _ _ hm
  · have hc1 : c < w1.heap.size := by have := hb0.size; omega
    rw [hg.block c (by simp; omega) (fun e => by
      have := h.new
      rcases hcase with ⟨_, rfl⟩ | ⟨rfl, _⟩
      · cases e
        omega
      · cases e), Below.heap_alloc w1 _ c hc1]
    exact hb0.block c hc
  · rw [h.eq, addM_ok hne ho]
    rfl
theorem MInv.done {av : Nat → Prop} {n : Nat} {of : Of (J n)} {res : Except Nat (J (n + 1))} {w0 wr : World} {x y o : Value} {acc : List (Bs × J n)} {k g cap : Nat} {us : List Value} (h : MInv av n of res w0 wr x y o [] [] acc k g cap us) (hav : ∀ c, av c → c < w0.heap.size) :
    res = .ok (Sum.inr (Sum.inr acc)) ∧ St av wr (n + 1) (Sum.inr (Sum.inr acc)) (.iface 36 (.slice (some ⟨g, 0, none⟩) acc.length cap)) := by
  refine ⟨by rw [h.eq, addM_end], ?_⟩
  have hn := h.new
  exact st_object (vs := us) h.len h.row.caps.1 h.row.caps.2 (fun e => by have := hav g e; omega) h.row.lt (row_fields h.row h.len).2 (fun i f u hf hu => (h.els i f u hf hu).mono (fun c _ hc => Or.inl hc))
theorem take_ok {n : Nat} {a : List (Bs × J n)} {s : Bs} (h : ∀ x ∈ a, Okv n x.2) : OkO n (takeV a s) := fun x hx => h _ (takeV_mem hx)
theorem Tab.on {w w' : World} (h : Tab w.heap.size w) (hb : Below w.heap.size w w') : Tab w'.heap.size w' := (h.below hb).mono hb.size
set_option maxRecDepth 100000 in
set_option maxHeartbeats 4000000 in
theorem meet_any (f n : Nat) (hcf : ∀ (args : Array Value) (w : World), (callFunc f args).run Tryd.prog w = .ok (.enter f args) w) (of : Of (J n)) (hof : OfOK f n of) (av : Nat → Prop) (a b : List (Bs × J n)) (va vb : Value) (w : World) (hav : ∀ c, av c → c < w.heap.size) (ha : Flds av w n a va) (hb : Flds av w n b vb)
    (oka : ∀ x ∈ a, Okv n x.2) (okb : ∀ x ∈ b, Okv n x.2) (hla : a.length ≤ 2000) (hlb : b.length ≤ 2000) (hT : Tab w.heap.size w) :
    Calls Tryd.prog 13 #[va, vb, .func (.func f) #[] #[]] w (MadeV av (n + 1) (objE (meetP of a b)) w) := by
  have HS : Hid (MInv av n of (objE (meetP of a b)) w (w.alloc (.cells #[] 52)) va vb (.slice (some ⟨w.heap.size, 0, none⟩) 0 0) a b [] (a.length + b.length) w.heap.size 0 []) := MInv.start hav ha hb oka okb hla hlb
  obtain ⟨pa, ca, rfl⟩ := ha.form
  obtain ⟨pb, cb, rfl⟩ := hb.form
  obtain ⟨i0, hi, hz0, hz1, hz2⟩ := info_parts info_field
  have HO : Hid (OfOK f n of) := hof
  have HT : Hid (Tab w.heap.size w) := hT
  have HA : Hid (∀ c, av c → c < w.heap.size) := hav
  clear hof hT hav ha hb oka okb
  generalize objE (meetP of a b) = res at *
  go_enter Tryd.func13, Tryd.ntmps13
  go_wp2_with fail
  go_loopw [0, 1, 8] (fun x y o wr => ∃ a' b' acc k g cap us, MInv av n of res w wr x y o a' b' acc k g cap us) (fun x y _ _ => lenV x + lenV y)
  case atStart => exact ⟨a, b, [], _, _, _, _, HS.out⟩
  case round =>
    obtain ⟨a', b', acc, k, g, cap, us, hI⟩ := hrel
    obtain ⟨pa', ca', e1⟩ := hI.fa.form
    obtain ⟨pb', cb', e2⟩ := hI.fb.form
    have e3 := hI.out
    subst e1 e2 e3
    have HI : Hid (MInv av n of res w wr (.slice pa' a'.length ca') (.slice pb' b'.length cb') (.slice (some ⟨g, 0, none⟩) acc.length cap) a' b' acc k g cap us) := hI
    have hmany := hI.many
    have hfuel := hI.fuel
    clear hI HS
    by_cases hne : a'.length + b'.length = 0
    · have ea : a' = [] := List.eq_nil_of_length_eq_zero (by omega)
      have eb : b' = [] := List.eq_nil_of_length_eq_zero (by omega)
      subst ea eb
      have HD : Hid _ := HI.out.done HA.out
      have HBl : Hid (Below w.heap.size w wr) := HI.out.bel
      go_wp2_with fail
      go_ret2
      exact ⟨HBl.out, Or.inr ⟨_, _, _, HD.out.1, rfl, HD.out.2⟩⟩
    · obtain ⟨k, rfl⟩ : ∃ k', k = k' + 1 := ⟨k - 1, by omega⟩
      by_cases h0 : 0 < a'.length
      · skip
        go_wp2_with fail
        refine (firstName_any _ a' b' _ _ wr HI.out.fa HI.out.fb (by omega)).mono ?_
        rintro e w1 ⟨rfl, b1⟩
        obtain ⟨nm, hnm⟩ : ∃ nm, nm = lowName a' b' := ⟨_, rfl⟩
        obtain ⟨nb, hnb⟩ : ∃ nb : ByteArray, nb = ⟨(lowName a' b').toArray⟩ := ⟨_, rfl⟩
        have hnl : nb.data.toList = lowName a' b' := by rw [hnb]
        have HNB : Hid (nb = ⟨(lowName a' b').toArray⟩) := hnb
        rw [← hnb]
        have HB1 : Hid (Below wr.heap.size wr w1) := b1
        clear b1 hnb hnm
        go_wp2_with fail
        refine (take_any _ a' nb _ w1 (HI.out.fa.below HB1.out)).mono ?_
        rintro e w2 ⟨b2, v2, xa, rfl, ov, fx⟩
        rw [hnl] at ov fx
        have HB2 : Hid (Below wr.heap.size wr w2) := HB1.out.trans (b2.mono HB1.out.size)
        obtain ⟨p2, c2, rfl⟩ := fx.form
        have HV2 : Hid (OptV (fun c => av c ∨ c = g) w2 n (takeV a' (lowName a' b')) v2) := ov
        have HX2 : Hid (Flds (fun c => av c ∨ c = g) w2 n (takeR a' (lowName a' b')) (.slice p2 (takeR a' (lowName a' b')).length c2)) := fx
        clear b2 ov fx
        go_wp2_with fail
        refine (take_any _ b' nb _ w2 (HI.out.fb.below HB2.out)).mono ?_
        rintro e w3 ⟨b3, v3, xb, rfl, ou, fy⟩
        rw [hnl] at ou fy
        have HB3 : Hid (Below wr.heap.size wr w3) := HB2.out.trans (b3.mono HB2.out.size)
        obtain ⟨p3, c3, rfl⟩ := fy.form
        have HV3 : Hid (OptV (fun c => av c ∨ c = g) w3 n (takeV a' (lowName a' b')) v2) := HV2.out.below b3
        have HX3 : Hid (Flds (fun c => av c ∨ c = g) w3 n (takeR a' (lowName a' b')) (.slice p2 (takeR a' (lowName a' b')).length c2)) := HX2.out.below b3
        have HU3 : Hid (OptV (fun c => av c ∨ c = g) w3 n (takeV b' (lowName a' b')) v3) := ou
        have HY3 : Hid (Flds (fun c => av c ∨ c = g) w3 n (takeR b' (lowName a' b')) (.slice p3 (takeR b' (lowName a' b')).length c3)) := fy
        clear b3 ou fy
        go_wp2_with fail
        refine (HO.out _ w3 _ _ v2 v3 (by
          have h1 := HI.out.row.lt
          have h2 := HB3.out.size
          have h3 := HI.out.bel.size
          rintro c (hc | hc)
          · have := HA.out c hc
            omega
          · omega) HV3.out HU3.out (take_ok HI.out.oka) (take_ok HI.out.okb) ((HT.out.on HI.out.bel).on HB3.out)).mono ?_
        rintro e w4 ⟨b4, h4⟩
        have HB4 : Hid (Below wr.heap.size wr w4) := HB3.out.trans (b4.mono HB3.out.size)
        have HX4 : Hid (Flds (fun c => av c ∨ c = g) w4 n (takeR a' (lowName a' b')) (.slice p2 (takeR a' (lowName a' b')).length c2)) := HX3.out.below b4
        have HY4 : Hid (Flds (fun c => av c ∨ c = g) w4 n (takeR b' (lowName a' b')) (.slice p3 (takeR b' (lowName a' b')).length c3)) := HY3.out.below b4
        have hls := low_less a' b' (by omega)
        clear b4
        rcases h4 with ⟨er, ho, he1, he2, rfl⟩ | ⟨m, v4, ho, rfl, om⟩
        · have HR : Hid (res = .error er) := by
            show res = _
            rw [HI.out.eq]
            exact addM_err (by omega) ho
          have HBw : Hid (Below w.heap.size w w4) := HI.out.bel.trans (HB4.out.mono HI.out.bel.size)
          have hbe : ((er : Int) != 0) = true := by rw [bne_iff_ne]; omega
          clear ho hls
          go_wp2_with fail
          go_ret2
          exact ⟨HBw.out, Or.inl ⟨er, HR.out, he1, he2, rfl⟩⟩
        · rcases om with ⟨rfl, rfl⟩ | ⟨j, T, x, rfl, rfl, hst⟩
          · have HP : Hid (MInv av n of res w w4 _ _ _ _ _ acc k g cap us) := HI.out.pass HB4.out (by omega) ho HX4.out HY4.out
            clear ho
            generalize takeR a' (lowName a' b') = ra at *
            generalize takeR b' (lowName a' b') = rb at *
            go_wp2_with fail
            go_roundw
            case rel => exact ⟨_, _, acc, k, g, cap, us, HP.out⟩
            case measure => simp only [lenV]; omega
          · have HM : Hid (of (takeV a' (lowName a' b')) (takeV b' (lowName a' b')) = .ok (some j)) := ho
            have HSt : Hid (St (fun c => av c ∨ c = g) w4 n j (.iface T x)) := hst
            have HRw4 : Hid (Row w4 52 2 g acc.length cap (flat acc us)) := HI.out.row.kept (below_grown HB4.out) (fun e => by cases e)
            have hcm := HI.out.row.caps.2
            clear ho hst
            by_cases hroom : acc.length + 1 ≤ cap
            · skip
              go_wp2_with (at_builtin; refine wpList_append_fits _ rfl _ _ 36 rfl g 52 i0 2 Tryd.underlying36 hi hz1 g acc.length cap (flat acc us) rfl (World.ownsRow.alloc HRw4.out.owns _) ⟨w4.heap.size, 0, none⟩ 1 1 [.string nb, .iface T x] rfl rfl (new_two _ _ _ _) (two_of rfl rfl) hroom ?_)
              intro w5 hown hgrow
              have hrow : Row w5 52 2 g (acc.length + 1) cap (flat acc us ++ [.string nb, .iface T x]) := Row.of_slice hown
              rw [HNB.out] at hrow
              have HP : Hid (MInv av n of res w w5 _ _ _ _ _ _ k g cap (us ++ [.iface T x])) := HI.out.push HB4.out HA.out (by omega) HM.out HX4.out HY4.out HSt.out hgrow hrow (Or.inl ⟨rfl, rfl⟩)
              clear hown hgrow hrow
              go_wp2_with fail
              go_roundw
              case rel => exact ⟨_, _, _, k, g, cap, _, HP.out⟩
              case measure => simp only [lenV]; omega
            · skip
              go_wp2_with (at_builtin; refine wpList_append_grows _ rfl _ _ 36 rfl 52 i0 (Value.agg #[.string ⟨#[]⟩, .nilIface]) 2 32 Tryd.underlying36 hi hz0 hz1 hz2 rfl (by decide) (some ⟨g, 0, none⟩) acc.length cap (flat acc us) rfl (fun e => by cases e) HRw4.out.1 (row_cells HRw4.out _) ⟨w4.heap.size, 0, none⟩ 1 1 [.string nb, .iface T x] rfl rfl (new_two _ _ _ _) (two_of rfl rfl) (by omega) (by unfold maxLen; omega) (by omega) ?_)
              intro v' w5 hown hgrow
              obtain ⟨g', cap', rfl, hg', hrow⟩ := Row.of_owns hown (by omega)
              have hg'' : w4.heap.size < g' := by (try simp at hg'); omega
              rw [HNB.out] at hrow
              have HP : Hid (MInv av n of res w w5 _ _ _ _ _ _ k g' cap' (us ++ [.iface T x])) := HI.out.push HB4.out HA.out (by omega) HM.out HX4.out HY4.out HSt.out hgrow hrow (Or.inr ⟨rfl, hg''⟩)
              clear hown hgrow hrow
              go_wp2_with fail
              go_roundw
              case rel => exact ⟨_, _, _, k, g', cap', _, HP.out⟩
              case measure => simp only [lenV]; omega
      · have ea : a' = [] := List.eq_nil_of_length_eq_zero (by omega)
        subst ea
        have h0b : 0 < b'.length := by simp only [List.length_nil] at hne; omega
        go_wp2_with fail
        refine (firstName_any _ [] b' _ _ wr HI.out.fa HI.out.fb (by omega)).mono ?_
        rintro e w1 ⟨rfl, b1⟩
        obtain ⟨nm, hnm⟩ : ∃ nm, nm = lowName [] b' := ⟨_, rfl⟩
        obtain ⟨nb, hnb⟩ : ∃ nb : ByteArray, nb = ⟨(lowName [] b').toArray⟩ := ⟨_, rfl⟩
        have hnl : nb.data.toList = lowName [] b' := by rw [hnb]
        have HNB : Hid (nb = ⟨(lowName [] b').toArray⟩) := hnb
        rw [← hnb]
        have HB1 : Hid (Below wr.heap.size wr w1) := b1
        clear b1 hnb hnm
        go_wp2_with fail
        refine (take_any _ [] nb _ w1 (HI.out.fa.below HB1.out)).mono ?_
        rintro e w2 ⟨b2, v2, xa, rfl, ov, fx⟩
        rw [hnl] at ov fx
        have HB2 : Hid (Below wr.heap.size wr w2) := HB1.out.trans (b2.mono HB1.out.size)
        obtain ⟨p2, c2, rfl⟩ := fx.form
        have HV2 : Hid (OptV (fun c => av c ∨ c = g) w2 n (takeV [] (lowName [] b')) v2) := ov
        have HX2 : Hid (Flds (fun c => av c ∨ c = g) w2 n (takeR [] (lowName [] b')) (.slice p2 (takeR ([] : List (Bs × J n)) (lowName [] b')).length c2)) := fx
        clear b2 ov fx
        go_wp2_with fail
        refine (take_any _ b' nb _ w2 (HI.out.fb.below HB2.out)).mono ?_
        rintro e w3 ⟨b3, v3, xb, rfl, ou, fy⟩
        rw [hnl] at ou fy
        have HB3 : Hid (Below wr.heap.size wr w3) := HB2.out.trans (b3.mono HB2.out.size)
        obtain ⟨p3, c3, rfl⟩ := fy.form
        have HV3 : Hid (OptV (fun c => av c ∨ c = g) w3 n (takeV [] (lowName [] b')) v2) := HV2.out.below b3
        have HX3 : Hid (Flds (fun c => av c ∨ c = g) w3 n (takeR [] (lowName [] b')) (.slice p2 (takeR ([] : List (Bs × J n)) (lowName [] b')).length c2)) := HX2.out.below b3
        have HU3 : Hid (OptV (fun c => av c ∨ c = g) w3 n (takeV b' (lowName [] b')) v3) := ou
        have HY3 : Hid (Flds (fun c => av c ∨ c = g) w3 n (takeR b' (lowName [] b')) (.slice p3 (takeR b' (lowName [] b')).length c3)) := fy
        clear b3 ou fy
        go_wp2_with fail
        refine (HO.out _ w3 _ _ v2 v3 (by
          have h1 := HI.out.row.lt
          have h2 := HB3.out.size
          have h3 := HI.out.bel.size
          rintro c (hc | hc)
          · have := HA.out c hc
            omega
          · omega) HV3.out HU3.out (take_ok HI.out.oka) (take_ok HI.out.okb) ((HT.out.on HI.out.bel).on HB3.out)).mono ?_
        rintro e w4 ⟨b4, h4⟩
        have HB4 : Hid (Below wr.heap.size wr w4) := HB3.out.trans (b4.mono HB3.out.size)
        have HX4 : Hid (Flds (fun c => av c ∨ c = g) w4 n (takeR [] (lowName [] b')) (.slice p2 (takeR ([] : List (Bs × J n)) (lowName [] b')).length c2)) := HX3.out.below b4
        have HY4 : Hid (Flds (fun c => av c ∨ c = g) w4 n (takeR b' (lowName [] b')) (.slice p3 (takeR b' (lowName [] b')).length c3)) := HY3.out.below b4
        have hls := low_less [] b' (by omega)
        clear b4
        rcases h4 with ⟨er, ho, he1, he2, rfl⟩ | ⟨m, v4, ho, rfl, om⟩
        · have HR : Hid (res = .error er) := by
            show res = _
            rw [HI.out.eq]
            exact addM_err (by omega) ho
          have HBw : Hid (Below w.heap.size w w4) := HI.out.bel.trans (HB4.out.mono HI.out.bel.size)
          have hbe : ((er : Int) != 0) = true := by rw [bne_iff_ne]; omega
          clear ho hls
          go_wp2_with fail
          go_ret2
          exact ⟨HBw.out, Or.inl ⟨er, HR.out, he1, he2, rfl⟩⟩
        · rcases om with ⟨rfl, rfl⟩ | ⟨j, T, x, rfl, rfl, hst⟩
          · have HP : Hid (MInv av n of res w w4 _ _ _ _ _ acc k g cap us) := HI.out.pass HB4.out (by omega) ho HX4.out HY4.out
            clear ho
            generalize takeR [] (lowName [] b') = ra at *
            generalize takeR b' (lowName [] b') = rb at *
            go_wp2_with fail
            go_roundw
            case rel => exact ⟨_, _, acc, k, g, cap, us, HP.out⟩
            case measure => simp only [lenV]; omega
          · have HM : Hid (of (takeV [] (lowName [] b')) (takeV b' (lowName [] b')) = .ok (some j)) := ho
            have HSt : Hid (St (fun c => av c ∨ c = g) w4 n j (.iface T x)) := hst
            have HRw4 : Hid (Row w4 52 2 g acc.length cap (flat acc us)) := HI.out.row.kept (below_grown HB4.out) (fun e => by cases e)
            have hcm := HI.out.row.caps.2
            clear ho hst
            by_cases hroom : acc.length + 1 ≤ cap
            · skip
              go_wp2_with (at_builtin; refine wpList_append_fits _ rfl _ _ 36 rfl g 52 i0 2 Tryd.underlying36 hi hz1 g acc.length cap (flat acc us) rfl (World.ownsRow.alloc HRw4.out.owns _) ⟨w4.heap.size, 0, none⟩ 1 1 [.string nb, .iface T x] rfl rfl (new_two _ _ _ _) (two_of rfl rfl) hroom ?_)
              intro w5 hown hgrow
              have hrow : Row w5 52 2 g (acc.length + 1) cap (flat acc us ++ [.string nb, .iface T x]) := Row.of_slice hown
              rw [HNB.out] at hrow
              have HP : Hid (MInv av n of res w w5 _ _ _ _ _ _ k g cap (us ++ [.iface T x])) := HI.out.push HB4.out HA.out (by omega) HM.out HX4.out HY4.out HSt.out hgrow hrow (Or.inl ⟨rfl, rfl⟩)
              clear hown hgrow hrow
              go_wp2_with fail
              go_roundw
              case rel => exact ⟨_, _, _, k, g, cap, _, HP.out⟩
              case measure => simp only [lenV]; omega
            · skip
              go_wp2_with (at_builtin; refine wpList_append_grows _ rfl _ _ 36 rfl 52 i0 (Value.agg #[.string ⟨#[]⟩, .nilIface]) 2 32 Tryd.underlying36 hi hz0 hz1 hz2 rfl (by decide) (some ⟨g, 0, none⟩) acc.length cap (flat acc us) rfl (fun e => by cases e) HRw4.out.1 (row_cells HRw4.out _) ⟨w4.heap.size, 0, none⟩ 1 1 [.string nb, .iface T x] rfl rfl (new_two _ _ _ _) (two_of rfl rfl) (by omega) (by unfold maxLen; omega) (by omega) ?_)
              intro v' w5 hown hgrow
              obtain ⟨g', cap', rfl, hg', hrow⟩ := Row.of_owns hown (by omega)
              have hg'' : w4.heap.size < g' := by (try simp at hg'); omega
              rw [HNB.out] at hrow
              have HP : Hid (MInv av n of res w w5 _ _ _ _ _ _ k g' cap' (us ++ [.iface T x])) := HI.out.push HB4.out HA.out (by omega) HM.out HX4.out HY4.out HSt.out hgrow hrow (Or.inr ⟨rfl, hg''⟩)
              clear hown hgrow hrow
              go_wp2_with fail
              go_roundw
              case rel => exact ⟨_, _, _, k, g', cap', _, HP.out⟩
              case measure => simp only [lenV]; omega
end Go.Proofs.YtmleekpghdfdgabDoor
/- Contracts over this translation: how many values there are, and how deep they lie. -/
namespace Go.Proofs.YtmleekpghdfdgabDoor
open Go.RowKit
set_option linter.unusedVariables false
set_option linter.unusedSimpArgs false
def sizeC (a b : Nat) : Array Value := #[.int .i64 (a : Int), .int .i64 (b : Int)]
set_option maxRecDepth 100000 in
set_option maxHeartbeats 2000000 in
theorem hold_any (zb a b c d : Nat) (w : World) (hz : w.heap[zb]? = some (.cells #[.int .i64 a, .int .i64 b] 45 (0, 0))) (ha : a ≤ 1000000) (hb : b ≤ 1000000) (hc : c ≤ 1000000) (hd' : d ≤ 1000000) :
    Calls Tryd.prog 33 #[.pointer (some ⟨zb, 0, none⟩), .agg #[.int .i64 c, .int .i64 d]] w fun e w' => e = .returned (.tuple #[]) ∧ w.grownBy w' (some zb) ∧ w'.heap[zb]? = some (.cells #[.int .i64 ((a + c : Nat) : Int), .int .i64 ((max b (d + 1) : Nat) : Int)] 45 (0, 0)) := by
  have hzw := lt_of_block hz
  have hza : (w.alloc (.cells #[.int .i64 c, .int .i64 d] 45)).heap[zb]? = some (.cells #[.int .i64 a, .int .i64 b] 45 (0, 0)) := (Below.heap_alloc w _ zb hzw).trans hz
  have hxa : (w.alloc (.cells #[.int .i64 c, .int .i64 d] 45)).heap[w.heap.size]? = some (.cells #[.int .i64 c, .int .i64 d] 45 (0, 0)) := heap_alloc_new w _
  have z0 : (w.alloc (.cells #[.int .i64 c, .int .i64 d] 45)).cell? ⟨zb, 0, none⟩ = some (.int .i64 a) := by rw [cell_of_row _ _ _ _ _ _ hza]; rfl
  have z1 : (w.alloc (.cells #[.int .i64 c, .int .i64 d] 45)).cell? ⟨zb, 1, none⟩ = some (.int .i64 b) := by rw [cell_of_row _ _ _ _ _ _ hza]; rfl
  have x0 : (w.alloc (.cells #[.int .i64 c, .int .i64 d] 45)).cell? ⟨w.heap.size, 0, none⟩ = some (.int .i64 c) := by rw [cell_of_row _ _ _ _ _ _ hxa]; rfl
  have x1 : (w.alloc (.cells #[.int .i64 c, .int .i64 d] 45)).cell? ⟨w.heap.size, 1, none⟩ = some (.int .i64 d) := by rw [cell_of_row _ _ _ _ _ _ hxa]; rfl
  have f0 : ∀ j, (w.alloc (.cells #[.int .i64 c, .int .i64 d] 45)).frozen? ⟨zb, j, none⟩ = false := fun j => frozen_of_row _ _ _ _ _ hza
  have f00 := f0 0
  have f01 := f0 1
  have hne : zb ≠ w.heap.size := by omega
  clear hz hxa f0
  have HZ : Hid ((w.alloc (.cells #[.int .i64 c, .int .i64 d] 45)).heap[zb]? = some (.cells #[.int .i64 a, .int .i64 b] 45 (0, 0))) := hza
  have HGr : Hid (w.grownBy (w.alloc (.cells #[.int .i64 c, .int .i64 d] 45)) (some zb)) := World.grownBy_alloc w _ _
  clear hza
  go_enter Tryd.func33, Tryd.ntmps33
  go_wp2
  generalize w.alloc (.cells #[.int .i64 c, .int .i64 d] 45) = wa at *
  go_region
  go_wp2
  go_region
  go_wp2
  go_end0
  refine ⟨rfl, (((show G zb w wa from HGr.out).setCell 0 _).setCell 1 _).drew.drew, ?_⟩
  have h1 := heap_setCell_same wa zb 0 _ _ (.int .i64 ((a : Int) + (c : Int))) HZ.out
  have h2 := heap_setCell_same _ zb 1 _ _ (.int .i64 (max (b : Int) ((d : Int) + 1))) h1
  have e1 : ((a + c : Nat) : Int) = (a : Int) + (c : Int) := by omega
  have e2 : ((max b (d + 1) : Nat) : Int) = max (b : Int) ((d : Int) + 1) := by omega
  rw [e1, e2]
  exact h2
/-- how many values, and how deep: at every value of depth n -/
def MeasureOK (n : Nat) : Prop := ∀ (av : Nat → Prop) (j : J n) (x : Value) (w : World), St av w n j x → nodes n j ≤ 100000 → depth n j ≤ 100000 →
  Calls Tryd.prog 20 #[x] w fun e w' => e = .returned (.agg #[.int .i64 (nodes n j), .int .i64 (depth n j)]) ∧ Below w.heap.size w w'
theorem nodes_pos : ∀ (n : Nat) (j : J n), 1 ≤ nodes n j
  | 0, _ => Nat.le_refl _
  | _ + 1, Sum.inl _ => Nat.le_refl _
  | _ + 1, Sum.inr (Sum.inl _) => Nat.le_add_right _ _
  | _ + 1, Sum.inr (Sum.inr _) => Nat.le_add_right _ _
theorem sum_ge : ∀ (l : List Nat), (∀ y ∈ l, 1 ≤ y) → l.length ≤ l.sum
  | [], _ => Nat.le_refl _
  | y :: l, h => by
    have := sum_ge l (fun z hz => h z (by simp [hz]))
    have := h y (by simp)
    simp only [List.length_cons, List.sum_cons]
    omega
theorem maxOf_snoc : ∀ (l : List Nat) (y : Nat), maxOf (l ++ [y]) = max (maxOf l) y
  | [], y => by simp [maxOf]
  | x :: l, y => by
    have := maxOf_snoc l y
    simp only [List.cons_append, maxOf, this]
    omega
theorem take_sum_le : ∀ (l : List Nat) (k : Nat), (l.take k).sum ≤ l.sum
  | [], k => by simp
  | x :: l, 0 => by simp
  | x :: l, k + 1 => by
    have := take_sum_le l k
    simp only [List.take_succ_cons, List.sum_cons]
    omega
theorem take_max_le : ∀ (l : List Nat) (k : Nat), maxOf (l.take k) ≤ maxOf l
  | [], k => by simp
  | x :: l, 0 => by simp [maxOf]
  | x :: l, k + 1 => by
    have := take_max_le l k
    simp only [List.take_succ_cons, maxOf]
    omega
set_option maxRecDepth 100000 in
set_option maxHeartbeats 1000000 in
theorem measure_leaf (l : Leaf) (w : World) :
    Calls Tryd.prog 20 #[leafV l] w fun e w' => e = .returned (.agg #[.int .i64 1, .int .i64 0]) ∧ Below w.heap.size w w' := by
  match l with
  | none =>
    obtain ⟨a1, a2, a3, a4, a5, a6⟩ := tas_Null
    unfold leafV
    go_enter Tryd.func20, Tryd.ntmps20
    go_wp2_with fail
    exact bodyPost_ret (v := .agg #[.int .i64 1, .int .i64 0]) (by simp [results, Tryd.results20, go_sem]) rfl ⟨rfl, (Below.refl _ _).alloc (Nat.le_refl _) _⟩
  | some (Sum.inl b) =>
    obtain ⟨a1, a2, a3, a4, a5, a6⟩ := tas_Bool
    unfold leafV
    go_enter Tryd.func20, Tryd.ntmps20
    go_wp2_with fail
    exact bodyPost_ret (v := .agg #[.int .i64 1, .int .i64 0]) (by simp [results, Tryd.results20, go_sem]) rfl ⟨rfl, (Below.refl _ _).alloc (Nat.le_refl _) _⟩
  | some (Sum.inr (Sum.inl i)) =>
    obtain ⟨a1, a2, a3, a4, a5, a6⟩ := tas_Number
    unfold leafV
    go_enter Tryd.func20, Tryd.ntmps20
    go_wp2_with fail
    exact bodyPost_ret (v := .agg #[.int .i64 1, .int .i64 0]) (by simp [results, Tryd.results20, go_sem]) rfl ⟨rfl, (Below.refl _ _).alloc (Nat.le_refl _) _⟩
  | some (Sum.inr (Sum.inr s)) =>
    obtain ⟨a1, a2, a3, a4, a5, a6⟩ := tas_Text
    unfold leafV
    go_enter Tryd.func20, Tryd.ntmps20
    go_wp2_with fail
    exact bodyPost_ret (v := .agg #[.int .i64 1, .int .i64 0]) (by simp [results, Tryd.results20, go_sem]) rfl ⟨rfl, (Below.refl _ _).alloc (Nat.le_refl _) _⟩
set_option maxRecDepth 100000 in
set_option maxHeartbeats 4000000 in
theorem measure_list (n : Nat) (hM : MeasureOK n) (av : Nat → Prop) (xs : List (J n)) (x : Value) (w : World) (hSt : St av w (n + 1) (Sum.inr (Sum.inl xs)) x) (hN : nodes (n + 1) (Sum.inr (Sum.inl xs)) ≤ 100000) (hD : depth (n + 1) (Sum.inr (Sum.inl xs)) ≤ 100000) :
    Calls Tryd.prog 20 #[x] w fun e w' => e = .returned (.agg #[.int .i64 (nodes (n + 1) (Sum.inr (Sum.inl xs))), .int .i64 (depth (n + 1) (Sum.inr (Sum.inl xs)))]) ∧ Below w.heap.size w w' := by
  have en : nodes (n + 1) (Sum.inr (Sum.inl xs)) = 1 + (xs.map (nodes n)).sum := rfl
  have ed : depth (n + 1) (Sum.inr (Sum.inl xs)) = 1 + maxOf (xs.map (depth n)) := rfl
  rw [en] at hN ⊢
  rw [ed] at hD ⊢
  obtain ⟨p, g, cap, vs, rfl, hpp, hvl, hlc, hcm, hcell, hel⟩ := hSt.list
  unfold maxLen at hcm
  have hlen : xs.length ≤ 100000 := by
    have h := sum_ge (xs.map (nodes n)) (fun y hy => by
      obtain ⟨z, _, rfl⟩ := List.mem_map.1 hy
      exact nodes_pos _ _)
    rw [List.length_map] at h
    omega
  have HEl : Hid (∀ w1, Below w.heap.size w w1 → ∀ k (hk : k < xs.length), ∃ u, w1.cell? ⟨g, k, none⟩ = some u ∧ St (fun c => w.heap.size ≤ c) w1 n xs[k] u) := by
    intro w1 hb k hk
    have hu : vs[k]? = some (vs[k]'(by omega)) := List.getElem?_eq_getElem (by omega)
    refine ⟨_, by rw [hb.cell (p := ⟨g, k, none⟩) (hpp k hk).2.2]; exact hcell k _ hu, ?_⟩
    exact (((hel k xs[k] _ (List.getElem?_eq_getElem hk) hu).wide (fun c hc => Or.inr hc) : St (fun c => w.heap.size ≤ c) w n xs[k] _)).step hb.size (fun c hc _ => hb.block c hc)
  have HTk : Hid (∀ k (hk : k < xs.length), ((xs.map (nodes n)).take (k + 1)).sum = ((xs.map (nodes n)).take k).sum + nodes n xs[k] ∧ maxOf ((xs.map (depth n)).take (k + 1)) = max (maxOf ((xs.map (depth n)).take k)) (depth n xs[k])) := fun k hk => by
    constructor
    · rw [List.take_succ_eq_append_getElem (by simpa using hk), List.sum_append]
      simp
    · rw [List.take_succ_eq_append_getElem (by simpa using hk), maxOf_snoc]
      simp
  have HLe : Hid (∀ k, ((xs.map (nodes n)).take k).sum ≤ (xs.map (nodes n)).sum ∧ maxOf ((xs.map (depth n)).take k) ≤ maxOf (xs.map (depth n))) := fun k => ⟨take_sum_le _ k, take_max_le _ k⟩
  have HAll : Hid (∀ k, xs.length ≤ k → ((xs.map (nodes n)).take k).sum = (xs.map (nodes n)).sum ∧ maxOf ((xs.map (depth n)).take k) = maxOf (xs.map (depth n))) := fun k hk => by
    rw [List.take_of_length_le (by simpa using hk), List.take_of_length_le (by simpa using hk)]
    exact ⟨rfl, rfl⟩
  generalize xs.map (nodes n) = ns at *
  generalize xs.map (depth n) = ds at *
  have HM : Hid (MeasureOK n) := hM
  obtain ⟨a1, a2, a3, a4, a5, a6⟩ := tas_List
  have HPp : Hid (∀ k, k < xs.length → p = some ⟨g, 0, none⟩) := fun k hk => (hpp k hk).1
  clear hcell hel hM en ed hpp
  have HZ0 : Hid (((w.alloc (.cells #[.int .i64 0, .int .i64 0] 45)).alloc (.cells #[.int .i64 1, .int .i64 1] 45)).heap[w.heap.size + 1]? = some (.cells #[.int .i64 1, .int .i64 1] 45 (0, 0))) := by
    have h0 := heap_alloc_new (w.alloc (.cells #[.int .i64 0, .int .i64 0] 45)) (.cells #[.int .i64 1, .int .i64 1] 45)
    have e0 : (w.alloc (.cells #[.int .i64 0, .int .i64 0] 45)).heap.size = w.heap.size + 1 := by simp
    rw [e0] at h0
    exact h0
  have HZr : Hid (((w.alloc (.cells #[.int .i64 0, .int .i64 0] 45)).alloc (.cells #[.int .i64 1, .int .i64 1] 45)).heap[w.heap.size]? = some (.cells #[.int .i64 0, .int .i64 0] 45 (0, 0))) := by
    show ((w.alloc (.cells #[.int .i64 0, .int .i64 0] 45)).alloc (.cells #[.int .i64 1, .int .i64 1] 45)).heap[w.heap.size]? = _
    rw [Below.heap_alloc _ _ _ (by simp)]
    exact heap_alloc_new w _
  have HB0 : Hid (Below w.heap.size w ((w.alloc (.cells #[.int .i64 0, .int .i64 0] 45)).alloc (.cells #[.int .i64 1, .int .i64 1] 45))) := ((Below.refl _ w).alloc (Nat.le_refl _) _).alloc (by simp) _
  go_enter Tryd.func20, Tryd.ntmps20
  go_wp2_with fail
  go_loopw [18] (fun i wr => ∃ k : Nat, k ≤ xs.length ∧ i = .int .i64 k ∧ wr.heap[w.heap.size + 1]? = some (.cells #[.int .i64 ((1 + (ns.take k).sum : Nat) : Int), .int .i64 ((1 + maxOf (ds.take k) : Nat) : Int)] 45 (0, 0)) ∧ wr.heap[w.heap.size]? = some (.cells #[.int .i64 0, .int .i64 0] 45 (0, 0)) ∧ Below w.heap.size w wr) (fun i _ => xs.length - (intOf i).toNat)
  case atStart => exact ⟨0, Nat.zero_le _, rfl, HZ0.out, HZr.out, HB0.out⟩
  case round =>
    obtain ⟨k, hk, rfl, hz, hrb, hbel⟩ := hrel
    have HZ : Hid (wr.heap[w.heap.size + 1]? = some (.cells #[.int .i64 ((1 + (ns.take k).sum : Nat) : Int), .int .i64 ((1 + maxOf (ds.take k) : Nat) : Int)] 45 (0, 0))) := hz
    have HRb : Hid (wr.heap[w.heap.size]? = some (.cells #[.int .i64 0, .int .i64 0] 45 (0, 0))) := hrb
    have HB : Hid (Below w.heap.size w wr) := hbel
    have hle := HLe.out k
    have hzw := lt_of_block hz
    clear hz hrb hbel
    by_cases hlt : k < xs.length
    · have hpe := HPp.out k hlt
      subst hpe
      obtain ⟨u, hcu, hst⟩ := HEl.out wr HB.out k hlt
      have HSt : Hid (St (fun c => w.heap.size ≤ c) wr n xs[k] u) := hst
      have hle2 := HLe.out (k + 1)
      have htk := HTk.out k hlt
      have hnk : nodes n xs[k] ≤ 100000 := by omega
      have hdk : depth n xs[k] ≤ 100000 := by omega
      have HTK : Hid ((ns.take (k + 1)).sum = (ns.take k).sum + nodes n xs[k] ∧ maxOf (ds.take (k + 1)) = max (maxOf (ds.take k)) (depth n xs[k])) := htk
      clear hst htk
      go_wp2_with fail
      refine (HM.out _ xs[k] u wr HSt.out hnk hdk).mono ?_
      rintro e w1 ⟨rfl, b1⟩
      have hz1 : w1.heap[w.heap.size + 1]? = some (.cells #[.int .i64 ((1 + (ns.take k).sum : Nat) : Int), .int .i64 ((1 + maxOf (ds.take k) : Nat) : Int)] 45 (0, 0)) := (b1.block _ (lt_of_block HZ.out)).trans HZ.out
      have HZ1 : Hid (w1.heap[w.heap.size + 1]? = some (.cells #[.int .i64 ((1 + (ns.take k).sum : Nat) : Int), .int .i64 ((1 + maxOf (ds.take k) : Nat) : Int)] 45 (0, 0))) := hz1
      have HR1 : Hid (w1.heap[w.heap.size]? = some (.cells #[.int .i64 0, .int .i64 0] 45 (0, 0))) := (b1.block _ (lt_of_block HRb.out)).trans HRb.out
      have HB1 : Hid (Below w.heap.size w w1) := HB.out.trans (b1.mono HB.out.size)
      clear b1 hz1
      go_wp2_with fail
      refine (hold_any (w.heap.size + 1) (1 + (ns.take k).sum) (1 + maxOf (ds.take k)) (nodes n xs[k]) (depth n xs[k]) w1 HZ1.out (by omega) (by omega) (by omega) (by omega)).mono ?_
      rintro e w2 ⟨rfl, g2, z2⟩
      have HZ2 : Hid (w2.heap[w.heap.size + 1]? = some (.cells #[.int .i64 ((1 + (ns.take (k + 1)).sum : Nat) : Int), .int .i64 ((1 + maxOf (ds.take (k + 1)) : Nat) : Int)] 45 (0, 0))) := by
        show w2.heap[w.heap.size + 1]? = _
        have e1 : 1 + (ns.take (k + 1)).sum = 1 + (ns.take k).sum + nodes n xs[k] := by rw [HTK.out.1]; omega
        have e2 : 1 + maxOf (ds.take (k + 1)) = max (1 + maxOf (ds.take k)) (depth n xs[k] + 1) := by rw [HTK.out.2]; omega
        rw [e1, e2]
        exact z2
      have HR2 : Hid (w2.heap[w.heap.size]? = some (.cells #[.int .i64 0, .int .i64 0] 45 (0, 0))) := (g2.block _ (lt_of_block HR1.out) (fun e => by simp at e)).trans HR1.out
      have HB2 : Hid (Below w.heap.size w w2) := HB1.out.grown g2 HB1.out.size (fun k e => by cases e; omega)
      clear g2 z2
      go_wp2_with fail
      go_roundw
      case rel => exact ⟨k + 1, by omega, by go_num, HZ2.out, HR2.out, HB2.out⟩
      case measure => simp [intOf]; omega
    · have hall := HAll.out k (by omega)
      have HA : Hid ((ns.take k).sum = ns.sum ∧ maxOf (ds.take k) = maxOf ds) := hall
      have hz : wr.heap[w.heap.size + 1]? = some (.cells #[.int .i64 ((1 + ns.sum : Nat) : Int), .int .i64 ((1 + maxOf ds : Nat) : Int)] 45 (0, 0)) := by
        have := HZ.out
        rw [hall.1, hall.2] at this
        exact this
      have z0 : wr.cell? ⟨w.heap.size + 1, 0, none⟩ = some (.int .i64 ((1 + ns.sum : Nat) : Int)) := by rw [cell_of_row _ _ _ _ _ _ hz]; rfl
      have z1 : wr.cell? ⟨w.heap.size + 1, 1, none⟩ = some (.int .i64 ((1 + maxOf ds : Nat) : Int)) := by rw [cell_of_row _ _ _ _ _ _ hz]; rfl
      have r0 : wr.cell? ⟨w.heap.size, 0, none⟩ = some (.int .i64 0) := by rw [cell_of_row _ _ _ _ _ _ HRb.out]; rfl
      have r1 : wr.cell? ⟨w.heap.size, 1, none⟩ = some (.int .i64 0) := by rw [cell_of_row _ _ _ _ _ _ HRb.out]; rfl
      have f0 : wr.frozen? ⟨w.heap.size, 0, none⟩ = false := frozen_of_row _ _ _ _ _ HRb.out
      have f1 : wr.frozen? ⟨w.heap.size, 1, none⟩ = false := frozen_of_row _ _ _ _ _ HRb.out
      clear hall hz
      obtain ⟨A, hA⟩ : ∃ A : Int, A = ((1 + ns.sum : Nat) : Int) := ⟨_, rfl⟩
      obtain ⟨B, hB⟩ : ∃ B : Int, B = ((1 + maxOf ds : Nat) : Int) := ⟨_, rfl⟩
      rw [← hA] at z0
      rw [← hB] at z1
      have HAB : Hid (A = ((1 + ns.sum : Nat) : Int) ∧ B = ((1 + maxOf ds : Nat) : Int)) := ⟨hA, hB⟩
      clear hA hB
      go_wp2_with fail
      exact bodyPost_ret (v := .agg #[.int .i64 A, .int .i64 B]) (by simp [results, Tryd.results20, go_sem, r0, r1]) rfl ⟨by rw [HAB.out.1, HAB.out.2], (HB.out.setCell (Nat.le_refl _) _).setCell (Nat.le_refl _) _⟩
set_option maxRecDepth 100000 in
set_option maxHeartbeats 4000000 in
theorem measure_object (n : Nat) (hM : MeasureOK n) (av : Nat → Prop) (fs : List (Bs × J n)) (x : Value) (w : World) (hSt : St av w (n + 1) (Sum.inr (Sum.inr fs)) x) (hN : nodes (n + 1) (Sum.inr (Sum.inr fs)) ≤ 100000) (hD : depth (n + 1) (Sum.inr (Sum.inr fs)) ≤ 100000) :
    Calls Tryd.prog 20 #[x] w fun e w' => e = .returned (.agg #[.int .i64 (nodes (n + 1) (Sum.inr (Sum.inr fs))), .int .i64 (depth (n + 1) (Sum.inr (Sum.inr fs)))]) ∧ Below w.heap.size w w' := by
  have en : nodes (n + 1) (Sum.inr (Sum.inr fs)) = 1 + (fs.map (fun f => nodes n f.2)).sum := rfl
  have ed : depth (n + 1) (Sum.inr (Sum.inr fs)) = 1 + maxOf (fs.map (fun f => depth n f.2)) := rfl
  rw [en] at hN ⊢
  rw [ed] at hD ⊢
  obtain ⟨p, g, cap, vs, rfl, hpp, hvl, hlc, hcm, hcell, hel⟩ := hSt.obj
  unfold maxLen at hcm
  have hlen : fs.length ≤ 100000 := by
    have h := sum_ge (fs.map (fun f => nodes n f.2)) (fun y hy => by
      obtain ⟨z, _, rfl⟩ := List.mem_map.1 hy
      exact nodes_pos _ _)
    rw [List.length_map] at h
    omega
  have HEl : Hid (∀ w1, Below w.heap.size w w1 → ∀ k (hk : k < fs.length), ∃ u, w1.cell? ⟨g, k * 2, none⟩ = some (.string ⟨fs[k].1.toArray⟩) ∧ w1.cell? ⟨g, k * 2 + 1, none⟩ = some u ∧ St (fun c => w.heap.size ≤ c) w1 n fs[k].2 u) := by
    intro w1 hb k hk
    have hu : vs[k]? = some (vs[k]'(by omega)) := List.getElem?_eq_getElem (by omega)
    have hf : fs[k]? = some fs[k] := List.getElem?_eq_getElem hk
    have hc := hcell k _ _ hf hu
    refine ⟨_, by rw [hb.cell (p := ⟨g, k * 2, none⟩) (hpp k hk).2.2]; exact hc.1, by rw [hb.cell (p := ⟨g, k * 2 + 1, none⟩) (hpp k hk).2.2]; exact hc.2, ?_⟩
    exact (((hel k fs[k] _ hf hu).wide (fun c hc => Or.inr hc) : St (fun c => w.heap.size ≤ c) w n fs[k].2 _)).step hb.size (fun c hc _ => hb.block c hc)
  have HTk : Hid (∀ k (hk : k < fs.length), ((fs.map (fun f => nodes n f.2)).take (k + 1)).sum = ((fs.map (fun f => nodes n f.2)).take k).sum + nodes n fs[k].2 ∧ maxOf ((fs.map (fun f => depth n f.2)).take (k + 1)) = max (maxOf ((fs.map (fun f => depth n f.2)).take k)) (depth n fs[k].2)) := fun k hk => by
    constructor
    · rw [List.take_succ_eq_append_getElem (by simpa using hk), List.sum_append]
      simp
    · rw [List.take_succ_eq_append_getElem (by simpa using hk), maxOf_snoc]
      simp
  have HLe : Hid (∀ k, ((fs.map (fun f => nodes n f.2)).take k).sum ≤ (fs.map (fun f => nodes n f.2)).sum ∧ maxOf ((fs.map (fun f => depth n f.2)).take k) ≤ maxOf (fs.map (fun f => depth n f.2))) := fun k => ⟨take_sum_le _ k, take_max_le _ k⟩
  have HAll : Hid (∀ k, fs.length ≤ k → ((fs.map (fun f => nodes n f.2)).take k).sum = (fs.map (fun f => nodes n f.2)).sum ∧ maxOf ((fs.map (fun f => depth n f.2)).take k) = maxOf (fs.map (fun f => depth n f.2))) := fun k hk => by
    rw [List.take_of_length_le (by simpa using hk), List.take_of_length_le (by simpa using hk)]
    exact ⟨rfl, rfl⟩
  generalize fs.map (fun f => nodes n f.2) = ns at *
  generalize fs.map (fun f => depth n f.2) = ds at *
  have HM : Hid (MeasureOK n) := hM
  obtain ⟨a1, a2, a3, a4, a5, a6⟩ := tas_Object
  have HPp : Hid (∀ k, k < fs.length → p = some ⟨g, 0, none⟩) := fun k hk => (hpp k hk).1
  clear hcell hel hM en ed hpp
  have HZ0 : Hid (((w.alloc (.cells #[.int .i64 0, .int .i64 0] 45)).alloc (.cells #[.int .i64 1, .int .i64 1] 45)).heap[w.heap.size + 1]? = some (.cells #[.int .i64 1, .int .i64 1] 45 (0, 0))) := by
    have h0 := heap_alloc_new (w.alloc (.cells #[.int .i64 0, .int .i64 0] 45)) (.cells #[.int .i64 1, .int .i64 1] 45)
    have e0 : (w.alloc (.cells #[.int .i64 0, .int .i64 0] 45)).heap.size = w.heap.size + 1 := by simp
    rw [e0] at h0
    exact h0
  have HZr : Hid (((w.alloc (.cells #[.int .i64 0, .int .i64 0] 45)).alloc (.cells #[.int .i64 1, .int .i64 1] 45)).heap[w.heap.size]? = some (.cells #[.int .i64 0, .int .i64 0] 45 (0, 0))) := by
    show ((w.alloc (.cells #[.int .i64 0, .int .i64 0] 45)).alloc (.cells #[.int .i64 1, .int .i64 1] 45)).heap[w.heap.size]? = _
    rw [Below.heap_alloc _ _ _ (by simp)]
    exact heap_alloc_new w _
  have HB0 : Hid (Below w.heap.size w ((w.alloc (.cells #[.int .i64 0, .int .i64 0] 45)).alloc (.cells #[.int .i64 1, .int .i64 1] 45))) := ((Below.refl _ w).alloc (Nat.le_refl _) _).alloc (by simp) _
  go_enter Tryd.func20, Tryd.ntmps20
  go_wp2_with fail
  go_loopw [33] (fun i wr => ∃ k : Nat, k ≤ fs.length ∧ i = .int .i64 k ∧ wr.heap[w.heap.size + 1]? = some (.cells #[.int .i64 ((1 + (ns.take k).sum : Nat) : Int), .int .i64 ((1 + maxOf (ds.take k) : Nat) : Int)] 45 (0, 0)) ∧ wr.heap[w.heap.size]? = some (.cells #[.int .i64 0, .int .i64 0] 45 (0, 0)) ∧ Below w.heap.size w wr) (fun i _ => fs.length - (intOf i).toNat)
  case atStart => exact ⟨0, Nat.zero_le _, rfl, HZ0.out, HZr.out, HB0.out⟩
  case round =>
    obtain ⟨k, hk, rfl, hz, hrb, hbel⟩ := hrel
    have HZ : Hid (wr.heap[w.heap.size + 1]? = some (.cells #[.int .i64 ((1 + (ns.take k).sum : Nat) : Int), .int .i64 ((1 + maxOf (ds.take k) : Nat) : Int)] 45 (0, 0))) := hz
    have HRb : Hid (wr.heap[w.heap.size]? = some (.cells #[.int .i64 0, .int .i64 0] 45 (0, 0))) := hrb
    have HB : Hid (Below w.heap.size w wr) := hbel
    have hle := HLe.out k
    have hzw := lt_of_block hz
    clear hz hrb hbel
    by_cases hlt : k < fs.length
    · have hpe := HPp.out k hlt
      subst hpe
      obtain ⟨u, hcn, hcu, hst⟩ := HEl.out wr HB.out k hlt
      obtain ⟨T, y, rfl⟩ := st_iface hst
      have hle2 := HLe.out (k + 1)
      have htk := HTk.out k hlt
      have hnk : nodes n fs[k].2 ≤ 100000 := by omega
      have hdk : depth n fs[k].2 ≤ 100000 := by omega
      have HTK : Hid ((ns.take (k + 1)).sum = (ns.take k).sum + nodes n fs[k].2 ∧ maxOf (ds.take (k + 1)) = max (maxOf (ds.take k)) (depth n fs[k].2)) := htk
      have HSt : Hid (St (fun c => w.heap.size ≤ c) wr n fs[k].2 (.iface T y)) := hst
      clear hst htk
      generalize (⟨fs[k].1.toArray⟩ : ByteArray) = nm at *
      generalize fs[k].2 = el at *
      have hsw := HB.out.size
      have HStA : Hid (St (fun c => w.heap.size ≤ c) (wr.alloc (.cells #[.string nm, .iface T y] 52)) n el (.iface T y)) := HSt.out.grown (World.grownBy_alloc wr _ none) (fun k e => by cases e)
      have HZA : Hid ((wr.alloc (.cells #[.string nm, .iface T y] 52)).heap[w.heap.size + 1]? = some (.cells #[.int .i64 ((1 + (ns.take k).sum : Nat) : Int), .int .i64 ((1 + maxOf (ds.take k) : Nat) : Int)] 45 (0, 0))) := (Below.heap_alloc wr _ _ hzw).trans HZ.out
      have HRA : Hid ((wr.alloc (.cells #[.string nm, .iface T y] 52)).heap[w.heap.size]? = some (.cells #[.int .i64 0, .int .i64 0] 45 (0, 0))) := (Below.heap_alloc wr _ _ (by omega)).trans HRb.out
      have HBA : Hid (Below w.heap.size w (wr.alloc (.cells #[.string nm, .iface T y] 52))) := HB.out.alloc hsw _
      go_wp2_with fail
      generalize wr.alloc (.cells #[.string nm, .iface T y] 52) = wa at *
      refine (HM.out _ el (.iface T y) wa HStA.out hnk hdk).mono ?_
      rintro e w1 ⟨rfl, b1⟩
      have hz1 : w1.heap[w.heap.size + 1]? = some (.cells #[.int .i64 ((1 + (ns.take k).sum : Nat) : Int), .int .i64 ((1 + maxOf (ds.take k) : Nat) : Int)] 45 (0, 0)) := (b1.block _ (lt_of_block HZA.out)).trans HZA.out
      have HZ1 : Hid (w1.heap[w.heap.size + 1]? = some (.cells #[.int .i64 ((1 + (ns.take k).sum : Nat) : Int), .int .i64 ((1 + maxOf (ds.take k) : Nat) : Int)] 45 (0, 0))) := hz1
      have HR1 : Hid (w1.heap[w.heap.size]? = some (.cells #[.int .i64 0, .int .i64 0] 45 (0, 0))) := (b1.block _ (lt_of_block HRA.out)).trans HRA.out
      have HB1 : Hid (Below w.heap.size w w1) := HBA.out.trans (b1.mono HBA.out.size)
      clear b1 hz1
      go_wp2_with fail
      refine (hold_any (w.heap.size + 1) (1 + (ns.take k).sum) (1 + maxOf (ds.take k)) (nodes n el) (depth n el) w1 HZ1.out (by omega) (by omega) (by omega) (by omega)).mono ?_
      rintro e w2 ⟨rfl, g2, z2⟩
      have HZ2 : Hid (w2.heap[w.heap.size + 1]? = some (.cells #[.int .i64 ((1 + (ns.take (k + 1)).sum : Nat) : Int), .int .i64 ((1 + maxOf (ds.take (k + 1)) : Nat) : Int)] 45 (0, 0))) := by
        show w2.heap[w.heap.size + 1]? = _
        have e1 : 1 + (ns.take (k + 1)).sum = 1 + (ns.take k).sum + nodes n el := by rw [HTK.out.1]; omega
        have e2 : 1 + maxOf (ds.take (k + 1)) = max (1 + maxOf (ds.take k)) (depth n el + 1) := by rw [HTK.out.2]; omega
        rw [e1, e2]
        exact z2
      have HR2 : Hid (w2.heap[w.heap.size]? = some (.cells #[.int .i64 0, .int .i64 0] 45 (0, 0))) := (g2.block _ (lt_of_block HR1.out) (fun e => by simp at e)).trans HR1.out
      have HB2 : Hid (Below w.heap.size w w2) := HB1.out.grown g2 HB1.out.size (fun k e => by cases e; omega)
      clear g2 z2
      go_wp2_with fail
      go_roundw
      case rel => exact ⟨k + 1, by omega, by go_num, HZ2.out, HR2.out, HB2.out⟩
      case measure => simp [intOf]; omega
    · have hall := HAll.out k (by omega)
      have HA : Hid ((ns.take k).sum = ns.sum ∧ maxOf (ds.take k) = maxOf ds) := hall
      have hz : wr.heap[w.heap.size + 1]? = some (.cells #[.int .i64 ((1 + ns.sum : Nat) : Int), .int .i64 ((1 + maxOf ds : Nat) : Int)] 45 (0, 0)) := by
        have := HZ.out
        rw [hall.1, hall.2] at this
        exact this
      have z0 : wr.cell? ⟨w.heap.size + 1, 0, none⟩ = some (.int .i64 ((1 + ns.sum : Nat) : Int)) := by rw [cell_of_row _ _ _ _ _ _ hz]; rfl
      have z1 : wr.cell? ⟨w.heap.size + 1, 1, none⟩ = some (.int .i64 ((1 + maxOf ds : Nat) : Int)) := by rw [cell_of_row _ _ _ _ _ _ hz]; rfl
      have r0 : wr.cell? ⟨w.heap.size, 0, none⟩ = some (.int .i64 0) := by rw [cell_of_row _ _ _ _ _ _ HRb.out]; rfl
      have r1 : wr.cell? ⟨w.heap.size, 1, none⟩ = some (.int .i64 0) := by rw [cell_of_row _ _ _ _ _ _ HRb.out]; rfl
      have f0 : wr.frozen? ⟨w.heap.size, 0, none⟩ = false := frozen_of_row _ _ _ _ _ HRb.out
      have f1 : wr.frozen? ⟨w.heap.size, 1, none⟩ = false := frozen_of_row _ _ _ _ _ HRb.out
      clear hall hz
      obtain ⟨A, hA⟩ : ∃ A : Int, A = ((1 + ns.sum : Nat) : Int) := ⟨_, rfl⟩
      obtain ⟨B, hB⟩ : ∃ B : Int, B = ((1 + maxOf ds : Nat) : Int) := ⟨_, rfl⟩
      rw [← hA] at z0
      rw [← hB] at z1
      have HAB : Hid (A = ((1 + ns.sum : Nat) : Int) ∧ B = ((1 + maxOf ds : Nat) : Int)) := ⟨hA, hB⟩
      clear hA hB
      go_wp2_with fail
      exact bodyPost_ret (v := .agg #[.int .i64 A, .int .i64 B]) (by simp [results, Tryd.results20, go_sem, r0, r1]) rfl ⟨by rw [HAB.out.1, HAB.out.2], (HB.out.setCell (Nat.le_refl _) _).setCell (Nat.le_refl _) _⟩
theorem measure_ok : ∀ n, MeasureOK n
  | 0 => fun av j x w hSt hN hD => by
    have e : x = leafV j := hSt
    subst e
    exact measure_leaf j w
  | n + 1 => fun av j x w hSt hN hD => by
    have hM := measure_ok n
    match j, hSt, hN, hD with
    | Sum.inl l, hSt, hN, hD =>
      have e : x = leafV l := hSt
      subst e
      exact measure_leaf l w
    | Sum.inr (Sum.inl xs), hSt, hN, hD => exact measure_list n hM av xs x w hSt hN hD
    | Sum.inr (Sum.inr fs), hSt, hN, hD => exact measure_object n hM av fs x w hSt hN hD
end Go.Proofs.YtmleekpghdfdgabDoor
/- Contracts over this translation of what merges one value into another, and of what composes two. -/
namespace Go.Proofs.YtmleekpghdfdgabDoor
open Go.RowKit
set_option linter.unusedVariables false
set_option linter.unusedSimpArgs false
def isObjJ : (n : Nat) → J n → Bool
  | 0, _ => false
  | _ + 1, Sum.inl _ => false
  | _ + 1, Sum.inr (Sum.inl _) => false
  | _ + 1, Sum.inr (Sum.inr _) => true
theorem leaf_type {l : Leaf} {T : TypeId} {x : Value} (h : Value.iface T x = leafV l) : T ≠ 36 := by
  rcases l with _ | b | i | s
  · cases h; decide
  · cases h; decide
  · cases h; decide
  · cases h; decide
theorem flat_type {av : Nat → Prop} {w : World} : ∀ {n : Nat} {j : J n} {T : TypeId} {x : Value}, St av w n j (.iface T x) → isObjJ n j = false → T ≠ 36
  | 0, _, _, _, h, _ => leaf_type h
  | _ + 1, Sum.inl _, _, _, h, _ => leaf_type h
  | _ + 1, Sum.inr (Sum.inl xs), _, _, h, _ => by
    obtain ⟨p, g, cap, vs, hv, _⟩ := h.list
    cases hv
    decide
  | _ + 1, Sum.inr (Sum.inr _), _, _, _, h => by cases h
theorem ta_flat {T : TypeId} (h : T ≠ 36) : ∀ (x : Value) (w : World), (Instr.typeAssert (.iface T x) 31 36 true).run Tryd.prog w = .ok (.tuple #[.slice none 0 0, .bool false]) w :=
  fun x w => ta_miss w Tryd.underlying36 rfl Tryd.zeroValue36 h x
theorem ta_nil (w : World) : (Instr.typeAssert .nilIface 31 36 true).run Tryd.prog w = .ok (.tuple #[.slice none 0 0, .bool false]) w := by
  unfold Instr.typeAssert
  simp [Sem.run_bind, run_underlying Tryd.underlying36, Result.andThen, Sem.run_pure, Tryd.zeroValue36]
theorem fields_flat {n : Nat} {j : J (n + 1)} (h : isObjJ (n + 1) j = false) : fieldsP (some j) = [] := by
  match j, h with
  | Sum.inl _, _ => rfl
  | Sum.inr (Sum.inl _), _ => rfl
theorem merged_flatP : ∀ {n : Nat} (d : Option (J n)) {j : J n}, isObjJ n j = false → mergedP n d j = j
  | 0, _, _, _ => rfl
  | _ + 1, _, Sum.inl _, _ => rfl
  | _ + 1, _, Sum.inr (Sum.inl _), _ => rfl
  | _ + 1, _, Sum.inr (Sum.inr _), h => by cases h
theorem composed_flatP : ∀ {n : Nat} (p : J n) {j : J n}, isObjJ n j = false → composedP n p j = .ok j
  | 0, _, _, _ => rfl
  | _ + 1, _, Sum.inl _, _ => rfl
  | _ + 1, _, Sum.inr (Sum.inl _), _ => rfl
  | _ + 1, _, Sum.inr (Sum.inr _), h => by cases h
theorem composed_mixP {n : Nat} {p : J (n + 1)} (fs : List (Bs × J n)) (h : isObjJ (n + 1) p = false) : composedP (n + 1) p (Sum.inr (Sum.inr fs)) = .error 9 := by
  match p, h with
  | Sum.inl _, _ => rfl
  | Sum.inr (Sum.inl _), _ => rfl
theorem null_kind : ∀ (n : Nat) (j : J n), isNullJ n j = decide (kindJ n j = 1)
  | 0, l => by rcases l with _ | b | i | s <;> rfl
  | _ + 1, Sum.inl l => by rcases l with _ | b | i | s <;> rfl
  | _ + 1, Sum.inr (Sum.inl xs) => rfl
  | _ + 1, Sum.inr (Sum.inr fs) => rfl
theorem mem_le_sum : ∀ (l : List Nat) (x : Nat), x ∈ l → x ≤ l.sum
  | [], x, h => by cases h
  | y :: l, x, h => by
    rcases List.mem_cons.1 h with rfl | h
    · simp
    · have := mem_le_sum l x h
      simp
      omega
theorem okv_field {n : Nat} {fs : List (Bs × J n)} (h : Okv (n + 1) (Sum.inr (Sum.inr fs))) : (∀ f ∈ fs, Okv n f.2) ∧ fs.length ≤ 2000 := by
  have hn : 1 + (fs.map fun f => nodes n f.2).sum ≤ 2000 := h.nodes
  have hs := sum_ge (fs.map fun f => nodes n f.2) (by
    intro y hy
    obtain ⟨f, _, rfl⟩ := List.mem_map.1 hy
    exact nodes_pos _ _)
  rw [List.length_map] at hs
  refine ⟨fun f hf => ⟨h.fit f hf, ?_, ?_⟩, by omega⟩
  · have : nodes n f.2 ≤ (fs.map fun f => nodes n f.2).sum := by
      exact mem_le_sum _ _ (List.mem_map.2 ⟨f, hf, rfl⟩)
    omega
  · have hl : (123 :: (commas (fs.map fun f => quote f.1 ++ 58 :: tell n f.2) ++ [125])).length ≤ 100000 := h.len
    have hc : ∀ (ts : List Bs) (t : Bs), t ∈ ts → t.length ≤ (commas ts).length := by
      intro ts
      induction ts with
      | nil => intro t ht; cases ht
      | cons x r ih =>
        intro t ht
        cases r with
        | nil =>
          simp at ht
          subst ht
          exact Nat.le_refl _
        | cons y r =>
          rcases List.mem_cons.1 ht with rfl | ht
          · simp [commas]
          · have := ih t ht
            simp only [commas, List.length_append, List.length_cons] at this ⊢
            omega
    have := hc _ _ (List.mem_map.2 ⟨f, hf, rfl⟩ : quote f.1 ++ 58 :: tell n f.2 ∈ fs.map fun f => quote f.1 ++ 58 :: tell n f.2)
    simp only [List.length_cons, List.length_append] at hl this
    omega
theorem okv_fields {n : Nat} {d : Option (J (n + 1))} (h : OkO (n + 1) d) : (∀ f ∈ fieldsP d, Okv n f.2) ∧ (fieldsP d).length ≤ 2000 := by
  match d, h with
  | none, _ => exact ⟨fun f hf => (by cases hf), Nat.zero_le _⟩
  | some (Sum.inl _), _ => exact ⟨fun f hf => (by cases hf), Nat.zero_le _⟩
  | some (Sum.inr (Sum.inl _)), _ => exact ⟨fun f hf => (by cases hf), Nat.zero_le _⟩
  | some (Sum.inr (Sum.inr fs)), h => exact okv_field (h _ rfl)
set_option maxRecDepth 100000 in
set_option maxHeartbeats 1000000 in
theorem isNull_any (av : Nat → Prop) (n : Nat) (j : J n) (T : TypeId) (x : Value) (w : World) (h : St av w n j (.iface T x)) :
    Calls Tryd.prog 16 #[.iface T x] w fun e w' => e = .returned (.bool (isNullJ n j)) ∧ w' = w := by
  have HK : Hid (Calls Tryd.prog 24 #[.iface T x] w fun e w' => e = .returned (.int .i64 (kindJ n j)) ∧ w' = w) := kindOf_any n av j _ w h
  have HN : Hid (isNullJ n j = decide (kindJ n j = 1)) := null_kind n j
  clear h
  generalize kindJ n j = k at *
  generalize isNullJ n j = r at *
  go_enter Tryd.func16, Tryd.ntmps16
  go_wp2_with fail
  refine Calls.mono HK.out ?_
  rintro e w1 ⟨rfl, rfl⟩
  go_wp2_with fail
  go_ret
  refine ⟨?_, rfl⟩
  rw [HN.out]
  have hb : ((k : Int) == 1) = decide (k = 1) := by
    rw [Bool.eq_iff_iff, beq_iff_eq, decide_eq_true_iff]
    omega
  rw [← hb]
  rfl
set_option maxRecDepth 100000 in
set_option maxHeartbeats 1000000 in
theorem fieldsOf_any (av : Nat → Prop) (n : Nat) (d : Option (J (n + 1))) (v : Value) (w : World) (h : OptV av w (n + 1) d v) :
    Calls Tryd.prog 14 #[v] w fun e w' => ∃ v', e = .returned v' ∧ w' = w ∧ Flds av w n (fieldsP d) v' := by
  rcases h with ⟨rfl, rfl⟩ | ⟨j, T, x, rfl, rfl, hst⟩
  · have ht := ta_nil
    go_enter Tryd.func14, Tryd.ntmps14
    go_wp2_with fail
    go_ret
    exact ⟨_, rfl, rfl, Or.inl ⟨rfl, _, _, rfl⟩⟩
  · cases hj : isObjJ (n + 1) j with
    | false =>
      have ht := ta_flat (flat_type hst hj)
      have HF : Hid (fieldsP (some j) = []) := fields_flat hj
      clear hst hj
      go_enter Tryd.func14, Tryd.ntmps14
      go_wp2_with fail
      go_ret
      exact ⟨_, rfl, rfl, by rw [HF.out]; exact Or.inl ⟨rfl, _, _, rfl⟩⟩
    | true =>
      match j, hj, hst with
      | Sum.inr (Sum.inr fs), _, hst =>
        obtain ⟨p, cap, e, hf⟩ := flds_of_st hst
        cases e
        obtain ⟨a1, a2, a3, a4, a5, a6⟩ := tas_Object
        have HF : Hid (Flds av w n fs (.slice p fs.length cap)) := hf
        clear hst hf
        go_enter Tryd.func14, Tryd.ntmps14
        go_wp2_with fail
        go_ret
        exact ⟨_, rfl, rfl, HF.out⟩
def MergedOK (n : Nat) : Prop := ∀ (av : Nat → Prop) (w : World) (d : Option (J n)) (v : J n) (vd : Value) (T : TypeId) (x : Value), (∀ c, av c → c < w.heap.size) → OptV av w n d vd → St av w n v (.iface T x) → OkO n d → Okv n v → Tab w.heap.size w →
  Calls Tryd.prog 9 #[vd, .iface T x] w (MadeV av n (.ok (mergedP n d v)) w)
set_option maxRecDepth 100000 in
set_option maxHeartbeats 1000000 in
theorem merged_flat (av : Nat → Prop) (n : Nat) (w : World) (d : Option (J n)) (v : J n) (vd : Value) (T : TypeId) (x : Value) (hst : St av w n v (.iface T x)) (hj : isObjJ n v = false) :
    Calls Tryd.prog 9 #[vd, .iface T x] w (MadeV av n (.ok (mergedP n d v)) w) := by
  have ht := ta_flat (flat_type hst hj)
  rw [merged_flatP d hj]
  have HS : Hid (St av w n v (.iface T x)) := hst
  clear hst hj
  go_enter Tryd.func9, Tryd.ntmps9
  go_wp2_with fail
  go_ret2
  exact ⟨Below.refl _ _, Or.inr ⟨_, _, _, rfl, rfl, HS.out⟩⟩
theorem enterM (args : Array Value) (w : World) : (callFunc 15 args).run Tryd.prog w = .ok (.enter 15 args) w := by
  have h1 : (Tryd.f15.name == "runtime.NumGoroutine") = false := by kernel_rfl
  obtain ⟨c, hb⟩ : ∃ c, Tryd.f15.body = some c := ⟨_, rfl⟩
  simp only [beq_eq_false_iff_ne, ne_eq] at h1
  simp [callFunc, Tryd.func15, h1, hb]
set_option maxRecDepth 100000 in
set_option maxHeartbeats 1000000 in
theorem closureM (n : Nat) (hM : MergedOK n) : OfOK 15 n (ofM (mergedP n)) := by
  intro av w v u vv vu hav hv hu okv oku hT
  rcases hu with ⟨rfl, rfl⟩ | ⟨j, T, x, rfl, rfl, hst⟩
  · have HV : Hid (OptV av w n v vv) := hv
    clear hv okv oku hT hM
    go_enter Tryd.func15, Tryd.ntmps15
    go_wp2_with fail
    go_ret2
    exact ⟨Below.refl _ _, Or.inr ⟨_, _, rfl, rfl, HV.out⟩⟩
  · have HN : Hid (Calls Tryd.prog 16 #[.iface T x] w fun e w' => e = .returned (.bool (isNullJ n j)) ∧ w' = w) := isNull_any av n j T x w hst
    have HC : Hid (Calls Tryd.prog 9 #[vv, .iface T x] w (MadeV av n (.ok (mergedP n v j)) w)) := hM av w v j vv T x hav hv hst okv (oku j rfl) hT
    have HO : Hid (ofM (mergedP n) v (some j) = if isNullJ n j then .ok none else .ok (some (mergedP n v j))) := rfl
    clear hM hv hst okv oku hT hav
    generalize ofM (mergedP n) v (some j) = res at *
    cases hb : isNullJ n j with
    | true =>
      rw [hb] at HN HO
      have HR : Hid (res = .ok none) := by show res = _; rw [HO.out]; rfl
      go_enter Tryd.func15, Tryd.ntmps15
      go_wp2_with fail
      refine Calls.mono HN.out ?_
      rintro e w1 ⟨rfl, rfl⟩
      go_wp2_with fail
      go_ret2
      exact ⟨Below.refl _ _, Or.inr ⟨_, _, HR.out, rfl, Or.inl ⟨rfl, rfl⟩⟩⟩
    | false =>
      rw [hb] at HN HO
      have HR : Hid (res = .ok (some (mergedP n v j))) := by show res = _; rw [HO.out]; rfl
      go_enter Tryd.func15, Tryd.ntmps15
      go_wp2_with fail
      refine Calls.mono HN.out ?_
      rintro e w1 ⟨rfl, rfl⟩
      go_wp2_with fail
      refine Calls.mono HC.out ?_
      rintro e w2 ⟨b2, h2⟩
      rcases h2 with ⟨er, h3, _⟩ | ⟨k, T', x', h3, rfl, h4⟩
      · cases h3
      · have e3 := Except.ok.inj h3
        subst e3
        have HB : Hid (Below w1.heap.size w1 w2) := b2
        have HS : Hid (St av w2 n (mergedP n v j) (.iface T' x')) := h4
        clear b2 h3 h4
        go_wp2_with fail
        go_ret2
        exact ⟨HB.out, Or.inr ⟨_, _, HR.out, rfl, Or.inr ⟨_, _, _, rfl, rfl, HS.out⟩⟩⟩
set_option maxRecDepth 100000 in
set_option maxHeartbeats 1000000 in
theorem merged_object (n : Nat) (hM : MergedOK n) (av : Nat → Prop) (w : World) (d : Option (J (n + 1))) (fs : List (Bs × J n)) (vd : Value) (T : TypeId) (x : Value) (hav : ∀ c, av c → c < w.heap.size) (hd' : OptV av w (n + 1) d vd) (hst : St av w (n + 1) (Sum.inr (Sum.inr fs)) (.iface T x)) (okd : OkO (n + 1) d) (okv : Okv (n + 1) (Sum.inr (Sum.inr fs))) (hT : Tab w.heap.size w) :
    Calls Tryd.prog 9 #[vd, .iface T x] w (MadeV av (n + 1) (.ok (mergedP (n + 1) d (Sum.inr (Sum.inr fs)))) w) := by
  obtain ⟨p, cap, e, hf⟩ := flds_of_st hst
  cases e
  obtain ⟨a1, a2, a3, a4, a5, a6⟩ := tas_Object
  obtain ⟨R, hR, hm⟩ := merged_obj d fs
  have HFo := fieldsOf_any av n d vd w hd'
  have HFo' : Hid (Calls Tryd.prog 14 #[vd] w fun e w' => ∃ v', e = .returned v' ∧ w' = w ∧ Flds av w n (fieldsP d) v') := HFo
  have okf := okv_fields okd
  have okg := okv_field okv
  have HMt : Hid (∀ v', Flds av w n (fieldsP d) v' → Calls Tryd.prog 13 #[v', .slice p fs.length cap, .func (.func 15) #[] #[]] w (MadeV av (n + 1) (.ok (mergedP (n + 1) d (Sum.inr (Sum.inr fs)))) w)) := fun v' hv' => by
    have h := meet_any 15 n enterM (ofM (mergedP n)) (closureM n hM) av (fieldsP d) fs v' (.slice p fs.length cap) w hav hv' hf okf.1 okg.1 okf.2 okg.2 hT
    rw [hR] at h
    rw [hm]
    exact h
  clear HFo hst hf hd' okd okv hT hM okf okg hav hR hm
  generalize mergedP (n + 1) d (Sum.inr (Sum.inr fs)) = res at *
  go_enter Tryd.func9, Tryd.ntmps9
  go_wp2_with fail
  refine Calls.mono HFo'.out ?_
  rintro e w1 ⟨v', rfl, rfl, hv'⟩
  have HMv : Hid _ := HMt.out v' hv'
  clear hv'
  go_wp2_with fail
  refine Calls.mono HMv.out ?_
  rintro e w2 ⟨b2, h2⟩
  rcases h2 with ⟨er, h3, _⟩ | ⟨k, T', x', h3, rfl, h4⟩
  · cases h3
  · have e3 := Except.ok.inj h3
    subst e3
    have HB : Hid (Below w1.heap.size w1 w2) := b2
    have HS : Hid (St av w2 (n + 1) res (.iface T' x')) := h4
    clear b2 h3 h4
    go_wp2_with fail
    go_ret2
    exact ⟨HB.out, Or.inr ⟨_, _, _, rfl, rfl, HS.out⟩⟩
theorem merged_ok : ∀ n, MergedOK n
  | 0 => fun av w d v vd T x hav hd' hst okd okv hT => merged_flat av 0 w d v vd T x hst rfl
  | n + 1 => fun av w d v vd T x hav hd' hst okd okv hT => by
    match v, hst, okv with
    | Sum.inl l, hst, _ => exact merged_flat av _ w d _ vd T x hst rfl
    | Sum.inr (Sum.inl xs), hst, _ => exact merged_flat av _ w d _ vd T x hst rfl
    | Sum.inr (Sum.inr fs), hst, okv => exact merged_object n (merged_ok n) av w d fs vd T x hav hd' hst okd okv hT
end Go.Proofs.YtmleekpghdfdgabDoor
/- Plain facts on what goes wrong: no error is nothing; a document is never empty. -/
namespace Go.Proofs.YtmleekpghdfdgabDoor
set_option linter.unusedVariables false
set_option linter.unusedSimpArgs false
theorem leafE_err {r : Bs} {e : Nat} (h : leafE r = .error e) : e = eSyntax ∨ e = eLarge := by
  unfold leafE at h
  split at h
  · unfold word at h; split at h <;> cases h; exact Or.inl rfl
  · split at h
    · unfold word at h; split at h <;> cases h; exact Or.inl rfl
    · split at h
      · unfold word at h; split at h <;> cases h; exact Or.inl rfl
      · split at h
        · unfold textE at h
          cases hq : quoted r with
          | none => rw [hq] at h; cases h; exact Or.inl rfl
          | some p => rw [hq] at h; cases h
        · unfold number at h
          simp only [] at h
          generalize (if (hd r == 45) = true then r.tail else r) = r1 at h
          split at h
          · cases h; exact Or.inl rfl
          · split at h
            · cases h; exact Or.inl rfl
            · split at h
              · cases h; exact Or.inr rfl
              · cases h
theorem beginE_vals (n k : Nat) (r : Bs) : beginE n k r = 0 ∨ beginE n k r = eSyntax ∨ beginE n k r = eLarge ∨ beginE n k r = eDeep := by
  unfold beginE
  split
  · exact Or.inr (Or.inl rfl)
  · split
    · exact Or.inr (Or.inr (Or.inl rfl))
    · split
      · exact Or.inr (Or.inr (Or.inr rfl))
      · exact Or.inl rfl
def IsErr (e : Nat) : Prop := e = eSyntax ∨ e = eLarge ∨ e = eDeep ∨ e = eTwice
theorem rowGo_err {σ : Type} {z : UInt8} {one : σ → Nat → Bs → Except Nat (σ × Nat × Bs)} (h : ∀ s k r e, one s k r = .error e → IsErr e) : ∀ (f : Nat) (s : σ) (k : Nat) (r : Bs) (e : Nat), rowGo z one f s k r = .error e → IsErr e
  | 0, s, k, r, e, he => by
    simp [rowGo] at he
    exact Or.inl he.symm
  | f + 1, s, k, r, e, he => by
    rw [rowGo] at he
    cases ho : one s k r with
    | error er => rw [ho] at he; cases he; exact h s k r e ho
    | ok p =>
      obtain ⟨s1, k1, r1⟩ := p
      rw [ho] at he
      simp only [] at he
      split at he
      · cases he
      · split at he
        · exact rowGo_err h f s1 k1 _ e he
        · cases he; exact Or.inl rfl
theorem row_err {σ : Type} {z : UInt8} {one : σ → Nat → Bs → Except Nat (σ × Nat × Bs)} (h : ∀ s k r e, one s k r = .error e → IsErr e) (s : σ) (k : Nat) (r : Bs) (e : Nat) (he : row z one s k r = .error e) : IsErr e := by
  unfold row at he
  split at he
  · cases he
  · exact rowGo_err h _ _ _ _ _ he
theorem value_isErr : ∀ (n : Nat) (k : Nat) (r : Bs) (e : Nat), value n k r = .error e → IsErr e
  | 0, k, r, e, h => by
    rw [value] at h
    split at h
    · rename_i h0
      cases h
      rcases beginE_vals 0 k (skip r) with h1 | h1 | h1 | h1
      · exact absurd h1 h0
      · exact Or.inl h1
      · exact Or.inr (Or.inl h1)
      · exact Or.inr (Or.inr (Or.inl h1))
    · unfold leafAt at h
      cases hl : leafE (skip r) with
      | error er =>
        rw [hl] at h
        cases h
        rcases leafE_err hl with h1 | h1
        · exact Or.inl h1
        · exact Or.inr (Or.inl h1)
      | ok p => rw [hl] at h; cases h
  | n + 1, k, r, e, h => by
    rw [value] at h
    split at h
    · rename_i h0
      cases h
      rcases beginE_vals (n + 1) k (skip r) with h1 | h1 | h1 | h1
      · exact absurd h1 h0
      · exact Or.inl h1
      · exact Or.inr (Or.inl h1)
      · exact Or.inr (Or.inr (Or.inl h1))
    · split at h
      · cases hr : row 93 (oneItem (value n)) [] (k + 1) (skip r) with
        | error er =>
          rw [hr] at h
          cases h
          refine row_err (one := oneItem (value n)) (fun s k r e ho => ?_) _ _ _ _ hr
          unfold oneItem at ho
          cases hv : value n k r with
          | error er => rw [hv] at ho; cases ho; exact value_isErr n k r e hv
          | ok p => rw [hv] at ho; cases ho
        | ok p => rw [hr] at h; cases h
      · split at h
        · cases hr : row 125 (oneField (value n)) [] (k + 1) (skip r) with
          | error er =>
            rw [hr] at h
            cases h
            refine row_err (one := oneField (value n)) (fun s k r e ho => ?_) _ _ _ _ hr
            unfold oneField at ho
            cases hn : nameE s r with
            | error er =>
              rw [hn] at ho
              cases ho
              unfold nameE at hn
              cases hq : quoted (skip r) with
              | none => rw [hq] at hn; cases hn; exact Or.inl rfl
              | some p =>
                rw [hq] at hn
                simp only [] at hn
                split at hn
                · cases hn; exact Or.inr (Or.inr (Or.inr rfl))
                · split at hn
                  · cases hn
                  · cases hn; exact Or.inl rfl
            | ok p =>
              obtain ⟨nm, r1⟩ := p
              rw [hn] at ho
              simp only [] at ho
              cases hv : value n k r1 with
              | error er => rw [hv] at ho; cases ho; exact value_isErr n k r1 e hv
              | ok p => rw [hv] at ho; cases ho
          | ok p => rw [hr] at h; cases h
        · unfold leafAt at h
          cases hl : leafE (skip r) with
          | error er =>
            rw [hl] at h
            cases h
            rcases leafE_err hl with h1 | h1
            · exact Or.inl h1
            · exact Or.inr (Or.inl h1)
          | ok p => rw [hl] at h; cases h
theorem read_isErr {s : Bs} {e : Nat} (h : read s = .error e) : IsErr e := by
  unfold read at h
  split at h
  · cases h; exact Or.inr (Or.inl rfl)
  · cases hv : value 10 0 s with
    | error er => rw [hv] at h; cases h; exact value_isErr _ _ _ _ hv
    | ok p =>
      obtain ⟨j1, k1, r1⟩ := p
      rw [hv] at h
      simp only [] at h
      split at h
      · cases h
      · cases h; exact Or.inl rfl
theorem read_err {s : Bs} {e : Nat} (h : read s = .error e) : e ≠ 0 := by
  rcases read_isErr h with rfl | rfl | rfl | rfl <;> decide
theorem dec_ne (u : Nat) : Lib.decDigits u ≠ [] := by
  rw [Lib.decDigits]
  split <;> simp
theorem tellLeaf_ne (l : Leaf) : tellLeaf l ≠ [] := by
  match l with
  | none => simp [tellLeaf, nullB]
  | some (Sum.inl true) => simp [tellLeaf, trueB]
  | some (Sum.inl false) => simp [tellLeaf, falseB]
  | some (Sum.inr (Sum.inl i)) =>
    show Lib.itoa i ≠ []
    unfold Lib.itoa
    split
    · simp
    · exact dec_ne _
  | some (Sum.inr (Sum.inr s)) => simp [tellLeaf, quote]
theorem tell_ne : ∀ (n : Nat) (j : J n), tell n j ≠ []
  | 0, j => tellLeaf_ne j
  | _ + 1, Sum.inl l => tellLeaf_ne l
  | _ + 1, Sum.inr (Sum.inl xs) => List.cons_ne_nil _ _
  | _ + 1, Sum.inr (Sum.inr fs) => List.cons_ne_nil _ _
end Go.Proofs.YtmleekpghdfdgabDoor
/- Plain facts: what is told is read as it was, wherever there is room. -/
namespace Go.Proofs.YtmleekpghdfdgabDoor
set_option linter.unusedVariables false
set_option linter.unusedSimpArgs false
def noDigit (r : Bs) : Prop := isDigit (hd r) = false
theorem digit_of (m : Nat) (h : m < 10) : isDigit (UInt8.ofNat (48 + m)) = true ∧ (UInt8.ofNat (48 + m)).toNat = 48 + m := by
  have e : (UInt8.ofNat (48 + m)).toNat = 48 + m := by simp; omega
  exact ⟨(digit_iff _).2 (by omega), e⟩
theorem dec_digits : ∀ (k u : Nat), u < 10 ^ k → ∀ c ∈ Lib.decDigits u, isDigit c = true
  | 0, u, hu, c, hc => by
    have : u = 0 := by simpa using hu
    subst this
    rw [Lib.decDigits] at hc
    simp at hc
    subst hc
    decide
  | k + 1, u, hu, c, hc => by
    rw [Lib.decDigits] at hc
    split at hc
    · have hc := List.mem_singleton.1 hc
      subst hc
      exact (digit_of u (by assumption)).1
    · rcases List.mem_append.1 hc with hc | hc
      · exact dec_digits k (u / 10) (by rw [Nat.pow_succ] at hu; omega) c hc
      · have hc := List.mem_singleton.1 hc
        subst hc
        exact (digit_of (u % 10) (by omega)).1
theorem decV_snoc (ds : Bs) (c : UInt8) : decV (ds ++ [c]) = 10 * decV ds + (c.toNat - 48) := by
  unfold decV
  rw [List.foldl_append]
  rfl
theorem dec_val : ∀ (k u : Nat), u < 10 ^ k → decV (Lib.decDigits u) = u
  | 0, u, hu => by
    have : u = 0 := by simpa using hu
    subst this
    rw [Lib.decDigits]
    rfl
  | k + 1, u, hu => by
    rw [Lib.decDigits]
    split
    · rename_i h
      have := (digit_of u h).2
      show 10 * 0 + ((UInt8.ofNat (48 + u)).toNat - 48) = u
      omega
    · rw [decV_snoc, dec_val k (u / 10) (by rw [Nat.pow_succ] at hu; omega), (digit_of (u % 10) (by omega)).2]
      omega
theorem dec_first : ∀ (k u : Nat), u < 10 ^ k → 1 ≤ u → hd (Lib.decDigits u) ≠ 48
  | 0, u, hu, h1 => by simp at hu; omega
  | k + 1, u, hu, h1 => by
    rw [Lib.decDigits]
    split
    · rename_i h
      intro e
      have h2 := (digit_of u h).2
      have e' : UInt8.ofNat (48 + u) = 48 := e
      rw [e'] at h2
      have : (48 : UInt8).toNat = 48 := rfl
      omega
    · have ih := dec_first k (u / 10) (by rw [Nat.pow_succ] at hu; omega) (by omega)
      have hne := dec_ne (u / 10)
      cases hd' : Lib.decDigits (u / 10) with
      | nil => exact absurd hd' hne
      | cons c r =>
        rw [hd'] at ih
        exact ih
theorem dec_len' : ∀ (k u : Nat), 1 ≤ k → u < 10 ^ k → (Lib.decDigits u).length ≤ k
  | 0, u, h, _ => by omega
  | k + 1, u, _, hu => by
    rw [Lib.decDigits]
    split
    · simp
    · rename_i h10
      cases k with
      | zero => simp at hu; omega
      | succ k =>
        have := dec_len' (k + 1) (u / 10) (by omega) (by rw [Nat.pow_succ] at hu; omega)
        simp only [List.length_append, List.length_cons, List.length_nil]
        omega
theorem take_digits {ds r : Bs} (h : ∀ c ∈ ds, isDigit c = true) (hr : noDigit r) : (ds ++ r).takeWhile isDigit = ds ∧ (ds ++ r).dropWhile isDigit = r := by
  induction ds with
  | nil =>
    cases r with
    | nil => exact ⟨rfl, rfl⟩
    | cons c r =>
      have hc : isDigit c = false := hr
      simp [List.takeWhile_cons, List.dropWhile_cons, hc]
  | cons d ds ih =>
    have h1 := h d (by simp)
    have h2 := ih (fun c hc => h c (by simp [hc]))
    simp [List.takeWhile_cons, List.dropWhile_cons, h1, h2]
theorem number_dec (below : Bool) (u : Nat) (r : Bs) (hu : u < 10 ^ 18) (hb : below = true → 1 ≤ u) (hr : noDigit r) :
    number ((if below then [45] else []) ++ (Lib.decDigits u ++ r)) = .ok (some (Sum.inr (Sum.inl (if below then -(u : Int) else (u : Int)))), r) := by
  have hdg := dec_digits 18 u hu
  have hv := dec_val 18 u hu
  have hl := dec_len' 18 u (by decide) hu
  have hne := dec_ne u
  have htd := take_digits hdg hr
  have hfirst : hd (Lib.decDigits u) ≠ 45 ∧ (hd (Lib.decDigits u ++ r) = hd (Lib.decDigits u)) := by
    cases hd' : Lib.decDigits u with
    | nil => exact absurd hd' hne
    | cons c t =>
      have hc := (digit_iff c).1 (hdg c (by rw [hd']; simp))
      refine ⟨?_, rfl⟩
      intro e
      have e' : c = 45 := e
      rw [e'] at hc
      have : (45 : UInt8).toNat = 45 := rfl
      omega
  cases below with
  | true =>
    have h1 := hb rfl
    have hf := dec_first 18 u hu h1
    show number (45 :: (Lib.decDigits u ++ r)) = _
    unfold number
    have e1 : (hd (45 :: (Lib.decDigits u ++ r)) == 45) = true := rfl
    simp only [e1, if_true, List.tail_cons, htd.1, htd.2]
    rw [if_neg hne, if_neg (fun e => hf e.1), if_neg (by omega)]
    simp only [numVal, if_true, hv]
  | false =>
    show number (Lib.decDigits u ++ r) = _
    unfold number
    have e1 : (hd (Lib.decDigits u ++ r) == 45) = false := by
      rw [hfirst.2]
      exact beq_eq_false_iff_ne.2 hfirst.1
    simp only [e1, Bool.false_eq_true, if_false, htd.1, htd.2]
    rw [if_neg hne, if_neg, if_neg (by omega)]
    · simp only [numVal, Bool.false_eq_true, if_false, hv]
    · rintro ⟨h1, h2⟩
      rcases h2 with h2 | h2
      · cases h2
      · by_cases h0 : u = 0
        · subst h0
          rw [Lib.decDigits] at h2
          simp at h2
        · exact dec_first 18 u hu (by omega) h1
/-- how a leaf that is told begins, and that it is read -/
theorem leafE_tell (l : Leaf) (h : GoodLeaf l) (r : Bs) (hr : noDigit r) : leafE (tellLeaf l ++ r) = .ok (l, r) ∧ hd (tellLeaf l ++ r) ∈ opens ∧ blank (hd (tellLeaf l ++ r)) = false ∧ hd (tellLeaf l ++ r) ≠ 91 ∧ hd (tellLeaf l ++ r) ≠ 123 := by
  match l, h with
  | none, _ =>
    refine ⟨?_, by show (110 : UInt8) ∈ opens; decide, rfl, by show (110 : UInt8) ≠ 91; decide, by show (110 : UInt8) ≠ 123; decide⟩
    show leafE (nullB ++ r) = _
    unfold leafE
    rw [if_pos (show hd (nullB ++ r) = 110 from rfl), word, if_pos (List.isPrefixOf_iff_prefix.2 (List.prefix_append _ _))]
    simp
  | some (Sum.inl true), _ =>
    refine ⟨?_, by show (116 : UInt8) ∈ opens; decide, rfl, by show (116 : UInt8) ≠ 91; decide, by show (116 : UInt8) ≠ 123; decide⟩
    show leafE (trueB ++ r) = _
    unfold leafE
    rw [if_neg (by show (116 : UInt8) ≠ 110; decide), if_pos (show hd (trueB ++ r) = 116 from rfl), word, if_pos (List.isPrefixOf_iff_prefix.2 (List.prefix_append _ _))]
    simp
  | some (Sum.inl false), _ =>
    refine ⟨?_, by show (102 : UInt8) ∈ opens; decide, rfl, by show (102 : UInt8) ≠ 91; decide, by show (102 : UInt8) ≠ 123; decide⟩
    show leafE (falseB ++ r) = _
    unfold leafE
    rw [if_neg (by show (102 : UInt8) ≠ 110; decide), if_neg (by show (102 : UInt8) ≠ 116; decide), if_pos (show hd (falseB ++ r) = 102 from rfl), word, if_pos (List.isPrefixOf_iff_prefix.2 (List.prefix_append _ _))]
    simp
  | some (Sum.inr (Sum.inr s)), h =>
    refine ⟨?_, by show (34 : UInt8) ∈ opens; decide, rfl, by show (34 : UInt8) ≠ 91; decide, by show (34 : UInt8) ≠ 123; decide⟩
    show leafE (quote s ++ r) = _
    unfold leafE
    have e : hd (quote s ++ r) = 34 := rfl
    rw [e]
    rw [if_neg (by decide), if_neg (by decide), if_neg (by decide), if_pos rfl, textE, quoted_quote s h r]
  | some (Sum.inr (Sum.inl i)), h =>
    have h1 : -1000000000000000000 < i := h.1
    have h2 : i < 1000000000000000000 := h.2
    obtain ⟨below, u, hi, hit, hu, hb⟩ : ∃ (below : Bool) (u : Nat), i = (if below then -(u : Int) else (u : Int)) ∧ Lib.itoa i = (if below then [45] else []) ++ Lib.decDigits u ∧ u < 10 ^ 18 ∧ (below = true → 1 ≤ u) := by
      by_cases hneg : i < 0
      · exact ⟨true, i.natAbs, by simp; omega, by unfold Lib.itoa; rw [if_pos hneg]; rfl, by omega, fun _ => by omega⟩
      · exact ⟨false, i.toNat, by simp; omega, by unfold Lib.itoa; rw [if_neg hneg]; rfl, by omega, fun e => by cases e⟩
    have hn := number_dec below u r hu hb hr
    have hdg := dec_digits 18 u hu
    have hne := dec_ne u
    show leafE (Lib.itoa i ++ r) = _ ∧ hd (Lib.itoa i ++ r) ∈ opens ∧ blank (hd (Lib.itoa i ++ r)) = false ∧ hd (Lib.itoa i ++ r) ≠ 91 ∧ hd (Lib.itoa i ++ r) ≠ 123
    rw [hit, List.append_assoc]
    have hhd : hd ((if below then [45] else []) ++ (Lib.decDigits u ++ r)) = 45 ∨ (48 ≤ (hd ((if below then [45] else []) ++ (Lib.decDigits u ++ r))).toNat ∧ (hd ((if below then [45] else []) ++ (Lib.decDigits u ++ r))).toNat ≤ 57) := by
      cases below with
      | true => exact Or.inl rfl
      | false =>
        right
        cases hd' : Lib.decDigits u with
        | nil => exact absurd hd' hne
        | cons c t => exact (digit_iff c).1 (hdg c (by rw [hd']; simp))
    generalize hX : (if below then [45] else []) ++ (Lib.decDigits u ++ r) = X at *
    have hfacts : hd X ∈ opens ∧ blank (hd X) = false ∧ hd X ≠ 91 ∧ hd X ≠ 123 ∧ hd X ≠ 110 ∧ hd X ≠ 116 ∧ hd X ≠ 102 ∧ hd X ≠ 34 := by
      generalize hd X = c at hhd
      rcases hhd with rfl | ⟨ha, hb'⟩
      · decide
      · have hne' : ∀ m : Nat, m < 256 → (m < 48 ∨ 57 < m) → c ≠ UInt8.ofNat m := by
          intro m hm hm2 e
          subst e
          have : (UInt8.ofNat m).toNat = m := by simp; omega
          omega
        refine ⟨?_, ?_, hne' 91 (by decide) (by decide), hne' 123 (by decide) (by decide), hne' 110 (by decide) (by decide), hne' 116 (by decide) (by decide), hne' 102 (by decide) (by decide), hne' 34 (by decide) (by decide)⟩
        · have hall : ∀ m : Fin 10, UInt8.ofNat (48 + m.val) ∈ opens := by decide
          have hc : c = UInt8.ofNat (48 + (c.toNat - 48)) := by
            apply UInt8.toNat_inj.1
            simp
            omega
          rw [hc]
          exact hall ⟨c.toNat - 48, by omega⟩
        · have h32 := hne' 32 (by decide) (by decide)
          have h10 := hne' 10 (by decide) (by decide)
          have h9 := hne' 9 (by decide) (by decide)
          have e32 : UInt8.ofNat 32 = 32 := rfl
          have e10 : UInt8.ofNat 10 = 10 := rfl
          have e9 : UInt8.ofNat 9 = 9 := rfl
          rw [e32] at h32
          rw [e10] at h10
          rw [e9] at h9
          simp [blank, h32, h10, h9]
    refine ⟨?_, hfacts.1, hfacts.2.1, hfacts.2.2.1, hfacts.2.2.2.1⟩
    unfold leafE
    rw [if_neg hfacts.2.2.2.2.1, if_neg hfacts.2.2.2.2.2.1, if_neg hfacts.2.2.2.2.2.2.1, if_neg hfacts.2.2.2.2.2.2.2, hn, ← hi]
theorem skip_not {r : Bs} (h : blank (hd r) = false) : skip r = r := by
  cases r with
  | nil => rfl
  | cons c r =>
    have hc : blank c = false := h
    rw [skip, if_neg (by simp [hc])]
/-- what comes of reading what is told, at whatever depth and count -/
def Told (m k : Nat) (t : Bs) (many deep : Nat) (r : Bs) : Prop :=
  (∃ j' : J m, value m k (t ++ r) = .ok (j', k + many, r) ∧ tell m j' = t ∧ nodes m j' = many ∧ depth m j' = deep ∧ k + many ≤ 200 ∧ deep ≤ m) ∨
    (value m k (t ++ r) = .error 2 ∧ 200 < k + many) ∨ (value m k (t ++ r) = .error 4 ∧ m < deep)
theorem tell_leafJ (m : Nat) (l : Leaf) : tell m (leaf m l) = tellLeaf l ∧ nodes m (leaf m l) = 1 ∧ depth m (leaf m l) = 0 := by
  cases m <;> exact ⟨rfl, rfl, rfl⟩
theorem value_first {m k : Nat} {r : Bs} (hb : blank (hd r) = false) (ho : hd r ∈ opens) : (200 ≤ k → value m k r = .error 2) ∧ (k < 200 → m = 0 → (hd r = 91 ∨ hd r = 123) → value m k r = .error 4) := by
  have hsk := skip_not hb
  refine ⟨fun hk => ?_, fun hk hm hc => ?_⟩
  · have e : beginE m k (skip r) = 2 := by
      rw [hsk]
      unfold beginE
      rw [if_neg (by simpa using ho), if_pos hk]
    cases m with
    | zero => rw [value, if_pos (by rw [e]; decide), e]
    | succ m => rw [value, if_pos (by rw [e]; decide), e]
  · subst hm
    have e : beginE 0 k (skip r) = 4 := by
      rw [hsk]
      unfold beginE
      rw [if_neg (by simpa using ho), if_neg (by omega), if_pos ⟨rfl, hc⟩]
    rw [value, if_pos (by rw [e]; decide), e]
theorem told_leaf (m k : Nat) (l : Leaf) (h : GoodLeaf l) (r : Bs) (hr : noDigit r) (hk : k ≤ 200) : Told m k (tellLeaf l) 1 0 r := by
  obtain ⟨hl, ho, hb, h91, h123⟩ := leafE_tell l h r hr
  have hv := value_first (m := m) (k := k) hb ho
  have hsk := skip_not hb
  by_cases h200 : 200 ≤ k
  · exact Or.inr (Or.inl ⟨hv.1 h200, by omega⟩)
  · have e : beginE m k (skip (tellLeaf l ++ r)) = 0 := by
      rw [hsk]
      unfold beginE
      rw [if_neg (by simpa using ho), if_neg h200, if_neg]
      rintro ⟨_, h1 | h1⟩
      · exact h91 h1
      · exact h123 h1
    have hval : value m k (tellLeaf l ++ r) = .ok (leaf m l, k + 1, r) := by
      cases m with
      | zero => rw [value, if_neg (by simp [e]), leafAt, hsk, hl]
      | succ m => rw [value, if_neg (by simp [e]), hsk, if_neg h91, if_neg h123, leafAt, hl]
    have ht := tell_leafJ m l
    exact Or.inl ⟨leaf m l, hval, ht.1, ht.2.1, ht.2.2, by omega, Nat.zero_le _⟩
end Go.Proofs.YtmleekpghdfdgabDoor
