/- Contract over this translation of what meets two objects field by field. -/
import Derived.Test.YtjcdklbimaclkaaDoorMrgMem
import Derived.Handy
namespace Go.Proofs.YtjcdklbimaclkaaDoor
open Go.RowKit
set_option linter.unusedVariables false
set_option linter.unusedSimpArgs false
/-- a value that is not too great to be looked at -/
structure Okv (n : Nat) (j : J n) : Prop where
  fit : Fit n j
  nodes : nodes n j ≤ 2000
  len : (tell n j).length ≤ 100000
def OkO (n : Nat) (o : Option (J n)) : Prop := ∀ x, o = some x → Okv n x
/-- what is made of two that may lack -/
def MakePost (av : Nat → Prop) (n : Nat) (r : Except Nat (Option (J n))) (w : World) (e : Ending) (w' : World) : Prop :=
  Below w.heap.size w w' ∧ ((∃ er : Nat, r = .error er ∧ er ≠ 0 ∧ er < 100 ∧ e = .returned (.tuple #[.nilIface, .int .i64 er])) ∨ ∃ m v, r = .ok m ∧ e = .returned (.tuple #[v, .int .i64 0]) ∧ OptV av w' n m v)
/-- what a value is that is made -/
def MadeV (av : Nat → Prop) (n : Nat) (r : Except Nat (J n)) (w : World) (e : Ending) (w' : World) : Prop :=
  Below w.heap.size w w' ∧ ((∃ er : Nat, r = .error er ∧ er ≠ 0 ∧ er < 100 ∧ e = .returned (.tuple #[.nilIface, .int .i64 er])) ∨ ∃ j T x, r = .ok j ∧ e = .returned (.tuple #[.iface T x, .int .i64 0]) ∧ St av w' n j (.iface T x))
/-- what the function that is handed over does -/
def OfOK (f n : Nat) (of : Of (J n)) : Prop :=
  ∀ (av : Nat → Prop) (w : World) (v u : Option (J n)) (vv vu : Value), (∀ c, av c → c < w.heap.size) → OptV av w n v vv → OptV av w n u vu → OkO n v → OkO n u → Tab w.heap.size w →
    Calls Tryd.prog f #[vv, vu] w (MakePost av n (of v u) w)
def lenV : Value → Nat
  | .slice _ n _ => n
  | _ => 0
theorem below_grown {w w' : World} (h : Below w.heap.size w w') : w.grownBy w' none := ⟨h.os, h.tape, h.output, h.size, fun k hk _ => h.block k hk⟩
theorem new_two (w : World) (x y : Value) (e : TypeId) : ∀ (j : Nat) (u : Value), [x, y][j]? = some u → (w.alloc (.cells #[x, y] e)).cell? ((⟨w.heap.size, 0, none⟩ : Addr).add j) = some u := by
  intro j u hj
  match j, hj with
  | 0, hj => simp at hj; subst hj; simp [Addr.add]
  | 1, hj => simp at hj; subst hj; simp [Addr.add]
theorem two_of {x y : Value} (h : x.oneCell' = true) (k : y.oneCell' = true) : ∀ u ∈ [x, y], u.oneCell' = true := by
  intro u hu
  simp at hu
  rcases hu with rfl | rfl
  · exact h
  · exact k
/-- what has been gathered, with what comes behind it -/
def addM {n : Nat} (acc : List (Bs × J n)) (r : Except Nat (List (Bs × J n))) : Except Nat (J (n + 1)) :=
  match r with
  | .error e => .error e
  | .ok l => .ok (Sum.inr (Sum.inr (acc ++ l)))
theorem addM_nil {n : Nat} (r : Except Nat (List (Bs × J n))) : addM [] r = objE r := by cases r <;> rfl
theorem addM_end {n : Nat} (of : Of (J n)) (acc : List (Bs × J n)) (k : Nat) : addM acc (meetF of k [] []) = .ok (Sum.inr (Sum.inr acc)) := by
  cases k with
  | zero => simp [meetF, addM]
  | succ k => simp [meetF, addM]
theorem addM_err {n : Nat} {of : Of (J n)} {acc a b : List (Bs × J n)} {k e : Nat} (hne : a.length + b.length ≠ 0) (h : of (takeV a (lowName a b)) (takeV b (lowName a b)) = .error e) : addM acc (meetF of (k + 1) a b) = .error e := by
  simp only [meetF]
  rw [if_neg hne, h]
  rfl
theorem addM_ok {n : Nat} {of : Of (J n)} {acc a b : List (Bs × J n)} {k : Nat} {m : Option (J n)} (hne : a.length + b.length ≠ 0) (h : of (takeV a (lowName a b)) (takeV b (lowName a b)) = .ok m) :
    addM acc (meetF of (k + 1) a b) = addM (acc ++ withM (lowName a b) m []) (meetF of k (takeR a (lowName a b)) (takeR b (lowName a b))) := by
  simp only [meetF]
  rw [if_neg hne, h]
  cases hr : meetF of k (takeR a (lowName a b)) (takeR b (lowName a b)) with
  | error e => rfl
  | ok r => cases m <;> simp [addM, withM]
/-- what is known ahead of each round -/
structure MInv (av : Nat → Prop) (n : Nat) (of : Of (J n)) (res : Except Nat (J (n + 1))) (w0 wr : World) (x y o : Value) (a b acc : List (Bs × J n)) (k g cap : Nat) (us : List Value) : Prop where
  fa : Flds (fun c => av c ∨ c = g) wr n a x
  fb : Flds (fun c => av c ∨ c = g) wr n b y
  out : o = .slice (some ⟨g, 0, none⟩) acc.length cap
  row : Row wr 52 2 g acc.length cap (flat acc us)
  len : us.length = acc.length
  els : ∀ (i : Nat) (f : Bs × J n) (u : Value), acc[i]? = some f → us[i]? = some u → St (fun c => av c ∨ c = g) wr n f.2 u
  new : w0.heap.size ≤ g
  bel : Below w0.heap.size w0 wr
  oka : ∀ x ∈ a, Okv n x.2
  okb : ∀ x ∈ b, Okv n x.2
  many : acc.length + a.length + b.length ≤ 4000
  fuel : a.length + b.length ≤ k
  eq : res = addM acc (meetF of k a b)
theorem MInv.start {av : Nat → Prop} {n : Nat} {of : Of (J n)} {w : World} {va vb : Value} {a b : List (Bs × J n)} (hav : ∀ c, av c → c < w.heap.size) (ha : Flds av w n a va) (hb : Flds av w n b vb)
    (oka : ∀ x ∈ a, Okv n x.2) (okb : ∀ x ∈ b, Okv n x.2) (hla : a.length ≤ 2000) (hlb : b.length ≤ 2000) :
    MInv av n of (objE (meetP of a b)) w (w.alloc (.cells #[] 52)) va vb (.slice (some ⟨w.heap.size, 0, none⟩) 0 0) a b [] (a.length + b.length) w.heap.size 0 [] := by
  have hb1 : Below w.heap.size w (w.alloc (.cells #[] 52)) := (Below.refl _ _).alloc (Nat.le_refl _) _
  have hm : ∀ c, c < w.heap.size → ¬ av c → ¬ (av c ∨ c = w.heap.size) := fun c hc h => by
    rintro (h' | h')
    · exact h h'
    · omega
  refine ⟨ha.move hb1.size (fun c hc _ => hb1.block c hc) hm, hb.move hb1.size (fun c hc _ => hb1.block c hc) hm, rfl, ⟨rfl, #[], heap_alloc_new w _, Nat.le_refl _, by unfold maxLen; omega, rfl, rfl⟩, rfl, fun i f u hf => by simp at hf, Nat.le_refl _, hb1, oka, okb, by simp; omega, Nat.le_refl _, ?_⟩
  rw [addM_nil]
  rfl
/-- a round in which nothing is put behind what was gathered -/
theorem MInv.pass {av : Nat → Prop} {n : Nat} {of : Of (J n)} {res : Except Nat (J (n + 1))} {w0 wr w1 : World} {x y o x' y' : Value} {a b acc : List (Bs × J n)} {k g cap : Nat} {us : List Value} (h : MInv av n of res w0 wr x y o a b acc (k + 1) g cap us) (hb : Below wr.heap.size wr w1)
    (hne : a.length + b.length ≠ 0) (ho : of (takeV a (lowName a b)) (takeV b (lowName a b)) = .ok none) (hx : Flds (fun c => av c ∨ c = g) w1 n (takeR a (lowName a b)) x') (hy : Flds (fun c => av c ∨ c = g) w1 n (takeR b (lowName a b)) y') :
    MInv av n of res w0 w1 x' y' o (takeR a (lowName a b)) (takeR b (lowName a b)) acc k g cap us := by
  have hl := low_less a b hne
  have h1 := h.many
  have h2 := h.fuel
  refine ⟨hx, hy, h.out, h.row.kept (below_grown hb) (fun e => by cases e), h.len, fun i f u hf hu => (h.els i f u hf hu).ona hb, h.new, h.bel.trans (hb.mono h.bel.size), fun z hz => h.oka z (takeR_mem hz), fun z hz => h.okb z (takeR_mem hz), by omega, by omega, ?_⟩
  rw [h.eq, addM_ok hne ho]
  simp [withM]
/-- a round in which a field is put behind what was gathered -/
theorem MInv.push {av : Nat → Prop} {n : Nat} {of : Of (J n)} {res : Except Nat (J (n + 1))} {w0 wr w1 w2 : World} {x y o x' y' : Value} {a b acc : List (Bs × J n)} {k g cap g' cap' : Nat} {us : List Value} {m : J n} {v : Value} {ob : Obj} {row : Option Nat}
    (h : MInv av n of res w0 wr x y o a b acc (k + 1) g cap us) (hb : Below wr.heap.size wr w1) (hav : ∀ c, av c → c < w0.heap.size)
    (hne : a.length + b.length ≠ 0) (ho : of (takeV a (lowName a b)) (takeV b (lowName a b)) = .ok (some m)) (hx : Flds (fun c => av c ∨ c = g) w1 n (takeR a (lowName a b)) x') (hy : Flds (fun c => av c ∨ c = g) w1 n (takeR b (lowName a b)) y')
    (hm : St (fun c => av c ∨ c = g) w1 n m v) (hg : (w1.alloc ob).grownBy w2 row) (hrow : Row w2 52 2 g' (acc.length + 1) cap' (flat acc us ++ [.string ⟨(lowName a b).toArray⟩, v])) (hcase : (g' = g ∧ row = some g) ∨ (row = none ∧ w1.heap.size < g')) :
    MInv av n of res w0 w2 x' y' (.slice (some ⟨g', 0, none⟩) (acc.length + 1) cap') (takeR a (lowName a b)) (takeR b (lowName a b)) (acc ++ [(lowName a b, m)]) k g' cap' (us ++ [v]) := by
  have hl := low_less a b hne
  have h1 := h.many
  have h2 := h.fuel
  have hgl := h.row.lt
  have hbs := hb.size
  have hsz : w1.heap.size ≤ w2.heap.size := by have := hg.size; simp at this; omega
  have hblk : ∀ c, c < w1.heap.size → ¬ (av c ∨ c = g) → w2.heap[c]? = w1.heap[c]? := fun c hc hn => by
    rw [hg.block c (by simp; omega) (fun e => by
      rcases hcase with ⟨_, rfl⟩ | ⟨rfl, _⟩
      · cases e
        exact hn (Or.inr rfl)
      · cases e)]
    exact Below.heap_alloc w1 _ c hc
  have hmv : ∀ c, c < w1.heap.size → ¬ (av c ∨ c = g) → ¬ (av c ∨ c = g') := fun c hc hn => by
    rintro (h' | h')
    · exact hn (Or.inl h')
    · rcases hcase with ⟨rfl, _⟩ | ⟨_, hlt⟩
      · exact hn (Or.inr h')
      · omega
  have hnew : w0.heap.size ≤ g' := by
    have := h.new
    rcases hcase with ⟨rfl, _⟩ | ⟨_, hlt⟩
    · exact this
    · omega
  have hb0 := h.bel.trans (hb.mono h.bel.size)
  refine ⟨hx.move hsz hblk hmv, hy.move hsz hblk hmv, by simp, ?_, by simp [h.len], fun i f u hf hu => ?_, hnew, ⟨hg.os.trans hb0.os, hg.tape.trans hb0.tape, hg.output.trans hb0.output, Nat.le_trans hb0.size hsz, fun c hc => ?_⟩, fun z hz => h.oka z (takeR_mem hz), fun z hz => h.okb z (takeR_mem hz), by simp; omega, by omega, ?_⟩
  · have e : flat (acc ++ [(lowName a b, m)]) (us ++ [v]) = flat acc us ++ [.string ⟨(lowName a b).toArray⟩, v] := by
      rw [flat_append _ _ _ _ h.len]
      rfl
    rw [e]
    simpa using hrow
  · rcases snoc_get hf with ⟨hi, hf'⟩ | ⟨hi, rfl⟩
    · rcases snoc_get hu with ⟨hi2, hu'⟩ | ⟨hi2, rfl⟩
      · exact St.move hsz hblk hmv _ _ _ ((h.els i f u hf' hu').ona hb)
      · have := h.len; omega
    · rcases snoc_get hu with ⟨hi2, hu'⟩ | ⟨hi2, rfl⟩
      · have := h.len; omega
      · exact St.move hsz hblk hmv _ _ _ hm
  · have hc1 : c < w1.heap.size := by have := hb0.size; omega
    rw [hg.block c (by simp; omega) (fun e => by
      have := h.new
      rcases hcase with ⟨_, rfl⟩ | ⟨rfl, _⟩
      · cases e
        omega
      · cases e), Below.heap_alloc w1 _ c hc1]
    exact hb0.block c hc
  · rw [h.eq, addM_ok hne ho]
    rfl
theorem MInv.done {av : Nat → Prop} {n : Nat} {of : Of (J n)} {res : Except Nat (J (n + 1))} {w0 wr : World} {x y o : Value} {acc : List (Bs × J n)} {k g cap : Nat} {us : List Value} (h : MInv av n of res w0 wr x y o [] [] acc k g cap us) (hav : ∀ c, av c → c < w0.heap.size) :
    res = .ok (Sum.inr (Sum.inr acc)) ∧ St av wr (n + 1) (Sum.inr (Sum.inr acc)) (.iface 36 (.slice (some ⟨g, 0, none⟩) acc.length cap)) := by
  refine ⟨by rw [h.eq, addM_end], ?_⟩
  have hn := h.new
  exact st_object (vs := us) h.len h.row.caps.1 h.row.caps.2 (fun e => by have := hav g e; omega) h.row.lt (row_fields h.row h.len).2 (fun i f u hf hu => (h.els i f u hf hu).mono (fun c _ hc => Or.inl hc))
theorem take_ok {n : Nat} {a : List (Bs × J n)} {s : Bs} (h : ∀ x ∈ a, Okv n x.2) : OkO n (takeV a s) := fun x hx => h _ (takeV_mem hx)
theorem Tab.on {w w' : World} (h : Tab w.heap.size w) (hb : Below w.heap.size w w') : Tab w'.heap.size w' := (h.below hb).mono hb.size
set_option maxRecDepth 100000 in
set_option maxHeartbeats 4000000 in
theorem meet_any (f n : Nat) (hcf : ∀ (args : Array Value) (w : World), (callFunc f args).run Tryd.prog w = .ok (.enter f args) w) (of : Of (J n)) (hof : OfOK f n of) (av : Nat → Prop) (a b : List (Bs × J n)) (va vb : Value) (w : World) (hav : ∀ c, av c → c < w.heap.size) (ha : Flds av w n a va) (hb : Flds av w n b vb)
    (oka : ∀ x ∈ a, Okv n x.2) (okb : ∀ x ∈ b, Okv n x.2) (hla : a.length ≤ 2000) (hlb : b.length ≤ 2000) (hT : Tab w.heap.size w) :
    Calls Tryd.prog 13 #[va, vb, .func (.func f) #[] #[]] w (MadeV av (n + 1) (objE (meetP of a b)) w) := by
  have HS : Hid (MInv av n of (objE (meetP of a b)) w (w.alloc (.cells #[] 52)) va vb (.slice (some ⟨w.heap.size, 0, none⟩) 0 0) a b [] (a.length + b.length) w.heap.size 0 []) := MInv.start hav ha hb oka okb hla hlb
  obtain ⟨pa, ca, rfl⟩ := ha.form
  obtain ⟨pb, cb, rfl⟩ := hb.form
  obtain ⟨i0, hi, hz0, hz1, hz2⟩ := info_parts info_field
  have HO : Hid (OfOK f n of) := hof
  have HT : Hid (Tab w.heap.size w) := hT
  have HA : Hid (∀ c, av c → c < w.heap.size) := hav
  clear hof hT hav ha hb oka okb
  generalize objE (meetP of a b) = res at *
  go_enter Tryd.func13, Tryd.ntmps13
  go_wp2_with fail
  go_loopw [0, 1, 8] (fun x y o wr => ∃ a' b' acc k g cap us, MInv av n of res w wr x y o a' b' acc k g cap us) (fun x y _ _ => lenV x + lenV y)
  case atStart => exact ⟨a, b, [], _, _, _, _, HS.out⟩
  case round =>
    obtain ⟨a', b', acc, k, g, cap, us, hI⟩ := hrel
    obtain ⟨pa', ca', e1⟩ := hI.fa.form
    obtain ⟨pb', cb', e2⟩ := hI.fb.form
    have e3 := hI.out
    subst e1 e2 e3
    have HI : Hid (MInv av n of res w wr (.slice pa' a'.length ca') (.slice pb' b'.length cb') (.slice (some ⟨g, 0, none⟩) acc.length cap) a' b' acc k g cap us) := hI
    have hmany := hI.many
    have hfuel := hI.fuel
    clear hI HS
    by_cases hne : a'.length + b'.length = 0
    · have ea : a' = [] := List.eq_nil_of_length_eq_zero (by omega)
      have eb : b' = [] := List.eq_nil_of_length_eq_zero (by omega)
      subst ea eb
      have HD : Hid _ := HI.out.done HA.out
      have HBl : Hid (Below w.heap.size w wr) := HI.out.bel
      go_wp2_with fail
      go_ret2
      exact ⟨HBl.out, Or.inr ⟨_, _, _, HD.out.1, rfl, HD.out.2⟩⟩
    · obtain ⟨k, rfl⟩ : ∃ k', k = k' + 1 := ⟨k - 1, by omega⟩
      by_cases h0 : 0 < a'.length
      · skip
        go_wp2_with fail
        refine (firstName_any _ a' b' _ _ wr HI.out.fa HI.out.fb (by omega)).mono ?_
        rintro e w1 ⟨rfl, b1⟩
        obtain ⟨nm, hnm⟩ : ∃ nm, nm = lowName a' b' := ⟨_, rfl⟩
        obtain ⟨nb, hnb⟩ : ∃ nb : ByteArray, nb = ⟨(lowName a' b').toArray⟩ := ⟨_, rfl⟩
        have hnl : nb.data.toList = lowName a' b' := by rw [hnb]
        have HNB : Hid (nb = ⟨(lowName a' b').toArray⟩) := hnb
        rw [← hnb]
        have HB1 : Hid (Below wr.heap.size wr w1) := b1
        clear b1 hnb hnm
        go_wp2_with fail
        refine (take_any _ a' nb _ w1 (HI.out.fa.below HB1.out)).mono ?_
        rintro e w2 ⟨b2, v2, xa, rfl, ov, fx⟩
        rw [hnl] at ov fx
        have HB2 : Hid (Below wr.heap.size wr w2) := HB1.out.trans (b2.mono HB1.out.size)
        obtain ⟨p2, c2, rfl⟩ := fx.form
        have HV2 : Hid (OptV (fun c => av c ∨ c = g) w2 n (takeV a' (lowName a' b')) v2) := ov
        have HX2 : Hid (Flds (fun c => av c ∨ c = g) w2 n (takeR a' (lowName a' b')) (.slice p2 (takeR a' (lowName a' b')).length c2)) := fx
        clear b2 ov fx
        go_wp2_with fail
        refine (take_any _ b' nb _ w2 (HI.out.fb.below HB2.out)).mono ?_
        rintro e w3 ⟨b3, v3, xb, rfl, ou, fy⟩
        rw [hnl] at ou fy
        have HB3 : Hid (Below wr.heap.size wr w3) := HB2.out.trans (b3.mono HB2.out.size)
        obtain ⟨p3, c3, rfl⟩ := fy.form
        have HV3 : Hid (OptV (fun c => av c ∨ c = g) w3 n (takeV a' (lowName a' b')) v2) := HV2.out.below b3
        have HX3 : Hid (Flds (fun c => av c ∨ c = g) w3 n (takeR a' (lowName a' b')) (.slice p2 (takeR a' (lowName a' b')).length c2)) := HX2.out.below b3
        have HU3 : Hid (OptV (fun c => av c ∨ c = g) w3 n (takeV b' (lowName a' b')) v3) := ou
        have HY3 : Hid (Flds (fun c => av c ∨ c = g) w3 n (takeR b' (lowName a' b')) (.slice p3 (takeR b' (lowName a' b')).length c3)) := fy
        clear b3 ou fy
        go_wp2_with fail
        refine (HO.out _ w3 _ _ v2 v3 (by
          have h1 := HI.out.row.lt
          have h2 := HB3.out.size
          have h3 := HI.out.bel.size
          rintro c (hc | hc)
          · have := HA.out c hc
            omega
          · omega) HV3.out HU3.out (take_ok HI.out.oka) (take_ok HI.out.okb) ((HT.out.on HI.out.bel).on HB3.out)).mono ?_
        rintro e w4 ⟨b4, h4⟩
        have HB4 : Hid (Below wr.heap.size wr w4) := HB3.out.trans (b4.mono HB3.out.size)
        have HX4 : Hid (Flds (fun c => av c ∨ c = g) w4 n (takeR a' (lowName a' b')) (.slice p2 (takeR a' (lowName a' b')).length c2)) := HX3.out.below b4
        have HY4 : Hid (Flds (fun c => av c ∨ c = g) w4 n (takeR b' (lowName a' b')) (.slice p3 (takeR b' (lowName a' b')).length c3)) := HY3.out.below b4
        have hls := low_less a' b' (by omega)
        clear b4
        rcases h4 with ⟨er, ho, he1, he2, rfl⟩ | ⟨m, v4, ho, rfl, om⟩
        · have HR : Hid (res = .error er) := by
            show res = _
            rw [HI.out.eq]
            exact addM_err (by omega) ho
          have HBw : Hid (Below w.heap.size w w4) := HI.out.bel.trans (HB4.out.mono HI.out.bel.size)
          have hbe : ((er : Int) != 0) = true := by rw [bne_iff_ne]; omega
          clear ho hls
          go_wp2_with fail
          go_ret2
          exact ⟨HBw.out, Or.inl ⟨er, HR.out, he1, he2, rfl⟩⟩
        · rcases om with ⟨rfl, rfl⟩ | ⟨j, T, x, rfl, rfl, hst⟩
          · have HP : Hid (MInv av n of res w w4 _ _ _ _ _ acc k g cap us) := HI.out.pass HB4.out (by omega) ho HX4.out HY4.out
            clear ho
            generalize takeR a' (lowName a' b') = ra at *
            generalize takeR b' (lowName a' b') = rb at *
            go_wp2_with fail
            go_roundw
            case rel => exact ⟨_, _, acc, k, g, cap, us, HP.out⟩
            case measure => simp only [lenV]; omega
          · have HM : Hid (of (takeV a' (lowName a' b')) (takeV b' (lowName a' b')) = .ok (some j)) := ho
            have HSt : Hid (St (fun c => av c ∨ c = g) w4 n j (.iface T x)) := hst
            have HRw4 : Hid (Row w4 52 2 g acc.length cap (flat acc us)) := HI.out.row.kept (below_grown HB4.out) (fun e => by cases e)
            have hcm := HI.out.row.caps.2
            clear ho hst
            by_cases hroom : acc.length + 1 ≤ cap
            · skip
              go_wp2_with (at_builtin; refine wpList_append_fits _ rfl _ _ 36 rfl g 52 i0 2 Tryd.underlying36 hi hz1 g acc.length cap (flat acc us) rfl (World.ownsRow.alloc HRw4.out.owns _) ⟨w4.heap.size, 0, none⟩ 1 1 [.string nb, .iface T x] rfl rfl (new_two _ _ _ _) (two_of rfl rfl) hroom ?_)
              intro w5 hown hgrow
              have hrow : Row w5 52 2 g (acc.length + 1) cap (flat acc us ++ [.string nb, .iface T x]) := Row.of_slice hown
              rw [HNB.out] at hrow
              have HP : Hid (MInv av n of res w w5 _ _ _ _ _ _ k g cap (us ++ [.iface T x])) := HI.out.push HB4.out HA.out (by omega) HM.out HX4.out HY4.out HSt.out hgrow hrow (Or.inl ⟨rfl, rfl⟩)
              clear hown hgrow hrow
              go_wp2_with fail
              go_roundw
              case rel => exact ⟨_, _, _, k, g, cap, _, HP.out⟩
              case measure => simp only [lenV]; omega
            · skip
              go_wp2_with (at_builtin; refine wpList_append_grows _ rfl _ _ 36 rfl 52 i0 (Value.agg #[.string ⟨#[]⟩, .nilIface]) 2 32 Tryd.underlying36 hi hz0 hz1 hz2 rfl (by decide) (some ⟨g, 0, none⟩) acc.length cap (flat acc us) rfl (fun e => by cases e) HRw4.out.1 (row_cells HRw4.out _) ⟨w4.heap.size, 0, none⟩ 1 1 [.string nb, .iface T x] rfl rfl (new_two _ _ _ _) (two_of rfl rfl) (by omega) (by unfold maxLen; omega) (by omega) ?_)
              intro v' w5 hown hgrow
              obtain ⟨g', cap', rfl, hg', hrow⟩ := Row.of_owns hown (by omega)
              have hg'' : w4.heap.size < g' := by (try simp at hg'); omega
              rw [HNB.out] at hrow
              have HP : Hid (MInv av n of res w w5 _ _ _ _ _ _ k g' cap' (us ++ [.iface T x])) := HI.out.push HB4.out HA.out (by omega) HM.out HX4.out HY4.out HSt.out hgrow hrow (Or.inr ⟨rfl, hg''⟩)
              clear hown hgrow hrow
              go_wp2_with fail
              go_roundw
              case rel => exact ⟨_, _, _, k, g', cap', _, HP.out⟩
              case measure => simp only [lenV]; omega
      · have ea : a' = [] := List.eq_nil_of_length_eq_zero (by omega)
        subst ea
        have h0b : 0 < b'.length := by simp only [List.length_nil] at hne; omega
        go_wp2_with fail
        refine (firstName_any _ [] b' _ _ wr HI.out.fa HI.out.fb (by omega)).mono ?_
        rintro e w1 ⟨rfl, b1⟩
        obtain ⟨nm, hnm⟩ : ∃ nm, nm = lowName [] b' := ⟨_, rfl⟩
        obtain ⟨nb, hnb⟩ : ∃ nb : ByteArray, nb = ⟨(lowName [] b').toArray⟩ := ⟨_, rfl⟩
        have hnl : nb.data.toList = lowName [] b' := by rw [hnb]
        have HNB : Hid (nb = ⟨(lowName [] b').toArray⟩) := hnb
        rw [← hnb]
        have HB1 : Hid (Below wr.heap.size wr w1) := b1
        clear b1 hnb hnm
        go_wp2_with fail
        refine (take_any _ [] nb _ w1 (HI.out.fa.below HB1.out)).mono ?_
        rintro e w2 ⟨b2, v2, xa, rfl, ov, fx⟩
        rw [hnl] at ov fx
        have HB2 : Hid (Below wr.heap.size wr w2) := HB1.out.trans (b2.mono HB1.out.size)
        obtain ⟨p2, c2, rfl⟩ := fx.form
        have HV2 : Hid (OptV (fun c => av c ∨ c = g) w2 n (takeV [] (lowName [] b')) v2) := ov
        have HX2 : Hid (Flds (fun c => av c ∨ c = g) w2 n (takeR [] (lowName [] b')) (.slice p2 (takeR ([] : List (Bs × J n)) (lowName [] b')).length c2)) := fx
        clear b2 ov fx
        go_wp2_with fail
        refine (take_any _ b' nb _ w2 (HI.out.fb.below HB2.out)).mono ?_
        rintro e w3 ⟨b3, v3, xb, rfl, ou, fy⟩
        rw [hnl] at ou fy
        have HB3 : Hid (Below wr.heap.size wr w3) := HB2.out.trans (b3.mono HB2.out.size)
        obtain ⟨p3, c3, rfl⟩ := fy.form
        have HV3 : Hid (OptV (fun c => av c ∨ c = g) w3 n (takeV [] (lowName [] b')) v2) := HV2.out.below b3
        have HX3 : Hid (Flds (fun c => av c ∨ c = g) w3 n (takeR [] (lowName [] b')) (.slice p2 (takeR ([] : List (Bs × J n)) (lowName [] b')).length c2)) := HX2.out.below b3
        have HU3 : Hid (OptV (fun c => av c ∨ c = g) w3 n (takeV b' (lowName [] b')) v3) := ou
        have HY3 : Hid (Flds (fun c => av c ∨ c = g) w3 n (takeR b' (lowName [] b')) (.slice p3 (takeR b' (lowName [] b')).length c3)) := fy
        clear b3 ou fy
        go_wp2_with fail
        refine (HO.out _ w3 _ _ v2 v3 (by
          have h1 := HI.out.row.lt
          have h2 := HB3.out.size
          have h3 := HI.out.bel.size
          rintro c (hc | hc)
          · have := HA.out c hc
            omega
          · omega) HV3.out HU3.out (take_ok HI.out.oka) (take_ok HI.out.okb) ((HT.out.on HI.out.bel).on HB3.out)).mono ?_
        rintro e w4 ⟨b4, h4⟩
        have HB4 : Hid (Below wr.heap.size wr w4) := HB3.out.trans (b4.mono HB3.out.size)
        have HX4 : Hid (Flds (fun c => av c ∨ c = g) w4 n (takeR [] (lowName [] b')) (.slice p2 (takeR ([] : List (Bs × J n)) (lowName [] b')).length c2)) := HX3.out.below b4
        have HY4 : Hid (Flds (fun c => av c ∨ c = g) w4 n (takeR b' (lowName [] b')) (.slice p3 (takeR b' (lowName [] b')).length c3)) := HY3.out.below b4
        have hls := low_less [] b' (by omega)
        clear b4
        rcases h4 with ⟨er, ho, he1, he2, rfl⟩ | ⟨m, v4, ho, rfl, om⟩
        · have HR : Hid (res = .error er) := by
            show res = _
            rw [HI.out.eq]
            exact addM_err (by omega) ho
          have HBw : Hid (Below w.heap.size w w4) := HI.out.bel.trans (HB4.out.mono HI.out.bel.size)
          have hbe : ((er : Int) != 0) = true := by rw [bne_iff_ne]; omega
          clear ho hls
          go_wp2_with fail
          go_ret2
          exact ⟨HBw.out, Or.inl ⟨er, HR.out, he1, he2, rfl⟩⟩
        · rcases om with ⟨rfl, rfl⟩ | ⟨j, T, x, rfl, rfl, hst⟩
          · have HP : Hid (MInv av n of res w w4 _ _ _ _ _ acc k g cap us) := HI.out.pass HB4.out (by omega) ho HX4.out HY4.out
            clear ho
            generalize takeR [] (lowName [] b') = ra at *
            generalize takeR b' (lowName [] b') = rb at *
            go_wp2_with fail
            go_roundw
            case rel => exact ⟨_, _, acc, k, g, cap, us, HP.out⟩
            case measure => simp only [lenV]; omega
          · have HM : Hid (of (takeV [] (lowName [] b')) (takeV b' (lowName [] b')) = .ok (some j)) := ho
            have HSt : Hid (St (fun c => av c ∨ c = g) w4 n j (.iface T x)) := hst
            have HRw4 : Hid (Row w4 52 2 g acc.length cap (flat acc us)) := HI.out.row.kept (below_grown HB4.out) (fun e => by cases e)
            have hcm := HI.out.row.caps.2
            clear ho hst
            by_cases hroom : acc.length + 1 ≤ cap
            · skip
              go_wp2_with (at_builtin; refine wpList_append_fits _ rfl _ _ 36 rfl g 52 i0 2 Tryd.underlying36 hi hz1 g acc.length cap (flat acc us) rfl (World.ownsRow.alloc HRw4.out.owns _) ⟨w4.heap.size, 0, none⟩ 1 1 [.string nb, .iface T x] rfl rfl (new_two _ _ _ _) (two_of rfl rfl) hroom ?_)
              intro w5 hown hgrow
              have hrow : Row w5 52 2 g (acc.length + 1) cap (flat acc us ++ [.string nb, .iface T x]) := Row.of_slice hown
              rw [HNB.out] at hrow
              have HP : Hid (MInv av n of res w w5 _ _ _ _ _ _ k g cap (us ++ [.iface T x])) := HI.out.push HB4.out HA.out (by omega) HM.out HX4.out HY4.out HSt.out hgrow hrow (Or.inl ⟨rfl, rfl⟩)
              clear hown hgrow hrow
              go_wp2_with fail
              go_roundw
              case rel => exact ⟨_, _, _, k, g, cap, _, HP.out⟩
              case measure => simp only [lenV]; omega
            · skip
              go_wp2_with (at_builtin; refine wpList_append_grows _ rfl _ _ 36 rfl 52 i0 (Value.agg #[.string ⟨#[]⟩, .nilIface]) 2 32 Tryd.underlying36 hi hz0 hz1 hz2 rfl (by decide) (some ⟨g, 0, none⟩) acc.length cap (flat acc us) rfl (fun e => by cases e) HRw4.out.1 (row_cells HRw4.out _) ⟨w4.heap.size, 0, none⟩ 1 1 [.string nb, .iface T x] rfl rfl (new_two _ _ _ _) (two_of rfl rfl) (by omega) (by unfold maxLen; omega) (by omega) ?_)
              intro v' w5 hown hgrow
              obtain ⟨g', cap', rfl, hg', hrow⟩ := Row.of_owns hown (by omega)
              have hg'' : w4.heap.size < g' := by (try simp at hg'); omega
              rw [HNB.out] at hrow
              have HP : Hid (MInv av n of res w w5 _ _ _ _ _ _ k g' cap' (us ++ [.iface T x])) := HI.out.push HB4.out HA.out (by omega) HM.out HX4.out HY4.out HSt.out hgrow hrow (Or.inr ⟨rfl, hg''⟩)
              clear hown hgrow hrow
              go_wp2_with fail
              go_roundw
              case rel => exact ⟨_, _, _, k, g', cap', _, HP.out⟩
              case measure => simp only [lenV]; omega
end Go.Proofs.YtjcdklbimaclkaaDoor
