import Derived.Test.YtjcdklbimaclkaaGreatDoorGAf
import Derived.Test.YtjcdklbimaclkaaGreatDoorGAn
import Derived.Deep.Cut
import Derived.Test.YtjcdklbimaclkaaGreatDoorGAm
import Derived.Test.YtjcdklbimaclkaaGreatDoorGAc
import Derived.Laws.AppendOwnNone
import Derived.WalkLawsBesides
namespace Go.Proofs.YtjcdklbimaclkaaGreatDoor
open Go.RowKit
set_option linter.unusedVariables false
set_option linter.unusedSimpArgs false
def RAns (av : Nat -> Prop) (n : Nat) (r : Except Nat (J n)) (w : World) (e : Ending) (w' : World) : Prop :=
 Below w.heap.size w w' /\ match r with
  | .error er => er ≠ 0 /\ er < 100 /\ e = .returned (.tuple #[rfV ⟨0, false, 0, []⟩ (.slice none 0 0) (.slice none 0 0), .int .i64 er])
  | .ok j => ∃ u, e = .returned (.tuple #[u, .int .i64 0]) /\ RSt av w' n j u
def RBothOK (n : Nat) : Prop := ∀ (av : Nat -> Prop) (p q : J n) (pv qv : Value) (w : World), (∀ c, w.heap.size <= c -> ¬ av c) -> RSt av w n p pv -> RSt av w n q qv -> nodes n p <= 1000 -> nodes n q <= 1000 ->
 Calls Tryz.prog 23 #[pv, qv] w (RAns av n (bothP n p q) w)
set_option maxRecDepth 100000 in
set_option maxHeartbeats 4000000 in
theorem both_else (dh h : Hd) (hk : h.k ≠ 6) (pd : Option Addr) (nd cd : Nat) (pe : Option Addr) (ne ce : Nat) (pn : Option Addr) (nn cn : Nat) (pl : Option Addr) (nl cl : Nat) (w : World) :
  Calls Tryz.prog 23 #[rfV dh (.slice pd nd cd) (.slice pe ne ce), rfV h (.slice pn nn cn) (.slice pl nl cl)] w fun e w' => e = .returned (.tuple #[rfV h (.slice pn nn cn) (.slice pl nl cl), .int .i64 0]) /\ Below w.heap.size w w' := by
 have hq : (((h.k : Int) != 6)) = true := by rw [bne_iff_ne]; omega
 unfold rfV
 have HR0 : Hid (Box (((w.alloc (.cells #[.int .i64 dh.k, .bool dh.b, .int .i64 dh.i, .string ⟨dh.s.toArray⟩, .slice pd nd cd, .slice pe ne ce] 38)).alloc (.cells #[.int .i64 h.k, .bool h.b, .int .i64 h.i, .string ⟨h.s.toArray⟩, .slice pn nn cn, .slice pl nl cl] 38)).alloc (.cells #[.int .i64 h.k, .bool h.b, .int .i64 h.i, .string ⟨h.s.toArray⟩, .slice pn nn cn, .slice pl nl cl] 38)) (w.heap.size + 1 + 1) h (.slice pn nn cn) (.slice pl nl cl)) := by
  show Box _ _ _ _ _
  have := box_new ((w.alloc (.cells #[.int .i64 dh.k, .bool dh.b, .int .i64 dh.i, .string ⟨dh.s.toArray⟩, .slice pd nd cd, .slice pe ne ce] 38)).alloc (.cells #[.int .i64 h.k, .bool h.b, .int .i64 h.i, .string ⟨h.s.toArray⟩, .slice pn nn cn, .slice pl nl cl] 38)) h (.slice pn nn cn) (.slice pl nl cl)
  simpa using this
 have HB0 : Hid (Below w.heap.size w (((w.alloc (.cells #[.int .i64 dh.k, .bool dh.b, .int .i64 dh.i, .string ⟨dh.s.toArray⟩, .slice pd nd cd, .slice pe ne ce] 38)).alloc (.cells #[.int .i64 h.k, .bool h.b, .int .i64 h.i, .string ⟨h.s.toArray⟩, .slice pn nn cn, .slice pl nl cl] 38)).alloc (.cells #[.int .i64 h.k, .bool h.b, .int .i64 h.i, .string ⟨h.s.toArray⟩, .slice pn nn cn, .slice pl nl cl] 38))) := (((Below.refl _ _).alloc (Nat.le_refl _) _).alloc (by simp) _).alloc (by simp; omega) _
 clear hk
 go_enter Tryz.func23, Tryz.ntmps23
 go_wp2_with fail
 generalize ((w.alloc (.cells #[.int .i64 dh.k, .bool dh.b, .int .i64 dh.i, .string ⟨dh.s.toArray⟩, .slice pd nd cd, .slice pe ne ce] 38)).alloc (.cells #[.int .i64 h.k, .bool h.b, .int .i64 h.i, .string ⟨h.s.toArray⟩, .slice pn nn cn, .slice pl nl cl] 38)).alloc (.cells #[.int .i64 h.k, .bool h.b, .int .i64 h.i, .string ⟨h.s.toArray⟩, .slice pn nn cn, .slice pl nl cl] 38) = W at *
 have e6 := HR0.out
 exact bodyPost_ret (v := .tuple #[rfV h (.slice pn nn cn) (.slice pl nl cl), .int .i64 0]) (by simp [results, Tryz.results23, go_sem, rfV, e6.c0, e6.c1, e6.c2, e6.c3, e6.c4, e6.c5]) rfl ⟨rfl, HB0.out⟩
set_option maxRecDepth 100000 in
set_option maxHeartbeats 4000000 in
theorem both_mix (dh : Hd) (hk : dh.k ≠ 6) (pd : Option Addr) (nd cd : Nat) (pe : Option Addr) (ne ce : Nat) (pn : Option Addr) (nn cn : Nat) (pl : Option Addr) (nl cl : Nat) (w : World) :
  Calls Tryz.prog 23 #[rfV dh (.slice pd nd cd) (.slice pe ne ce), rfV ⟨6, false, 0, []⟩ (.slice pn nn cn) (.slice pl nl cl)] w fun e w' => e = .returned (.tuple #[rfV ⟨0, false, 0, []⟩ (.slice none 0 0) (.slice none 0 0), .int .i64 9]) /\ Below w.heap.size w w' := by
 have hq : (((dh.k : Int) != 6)) = true := by rw [bne_iff_ne]; omega
 unfold rfV
 have HR0 : Hid (Box (((w.alloc (.cells #[.int .i64 dh.k, .bool dh.b, .int .i64 dh.i, .string ⟨dh.s.toArray⟩, .slice pd nd cd, .slice pe ne ce] 38)).alloc (.cells #[.int .i64 6, .bool false, .int .i64 0, .string ⟨#[]⟩, .slice pn nn cn, .slice pl nl cl] 38)).alloc (.cells #[.int .i64 0, .bool false, .int .i64 0, .string ⟨#[]⟩, .slice none 0 0, .slice none 0 0] 38)) (w.heap.size + 1 + 1) ⟨0, false, 0, []⟩ (.slice none 0 0) (.slice none 0 0)) := by
  show Box _ _ _ _ _
  have := box_new ((w.alloc (.cells #[.int .i64 dh.k, .bool dh.b, .int .i64 dh.i, .string ⟨dh.s.toArray⟩, .slice pd nd cd, .slice pe ne ce] 38)).alloc (.cells #[.int .i64 6, .bool false, .int .i64 0, .string ⟨#[]⟩, .slice pn nn cn, .slice pl nl cl] 38)) ⟨0, false, 0, []⟩ (.slice none 0 0) (.slice none 0 0)
  simpa using this
 have HB0 : Hid (Below w.heap.size w (((w.alloc (.cells #[.int .i64 dh.k, .bool dh.b, .int .i64 dh.i, .string ⟨dh.s.toArray⟩, .slice pd nd cd, .slice pe ne ce] 38)).alloc (.cells #[.int .i64 6, .bool false, .int .i64 0, .string ⟨#[]⟩, .slice pn nn cn, .slice pl nl cl] 38)).alloc (.cells #[.int .i64 0, .bool false, .int .i64 0, .string ⟨#[]⟩, .slice none 0 0, .slice none 0 0] 38))) := (((Below.refl _ _).alloc (Nat.le_refl _) _).alloc (by simp) _).alloc (by simp; omega) _
 clear hk
 go_enter Tryz.func23, Tryz.ntmps23
 go_wp2_with fail
 generalize ((w.alloc (.cells #[.int .i64 dh.k, .bool dh.b, .int .i64 dh.i, .string ⟨dh.s.toArray⟩, .slice pd nd cd, .slice pe ne ce] 38)).alloc (.cells #[.int .i64 6, .bool false, .int .i64 0, .string ⟨#[]⟩, .slice pn nn cn, .slice pl nl cl] 38)).alloc (.cells #[.int .i64 0, .bool false, .int .i64 0, .string ⟨#[]⟩, .slice none 0 0, .slice none 0 0] 38) = W at *
 have e6 := HR0.out
 exact bodyPost_ret (v := .tuple #[rfV ⟨0, false, 0, []⟩ (.slice none 0 0) (.slice none 0 0), .int .i64 9]) (by simp [results, Tryz.results23, go_sem, rfV, e6.c0, e6.c1, e6.c2, e6.c3, e6.c4, e6.c5]) rfl ⟨rfl, HB0.out⟩
set_option maxRecDepth 100000 in
set_option maxHeartbeats 8000000 in
theorem both_obj (av : Nat -> Prop) (n : Nat) (ih : RBothOK n) (ps qs : List (Bs × J n)) (dn dl vn vl : Value) (w : World) (hav : ∀ c, w.heap.size <= c -> ¬ av c) (hD : RStrs av w (ps.map fun f => f.1) dn) (hE : RVals av w n (ps.map fun f => f.2) dl) (hN : RStrs av w (qs.map fun f => f.1) vn) (hL : RVals av w n (qs.map fun f => f.2) vl)
  (hdl : ps.length <= 1000) (hdm : ∀ f ∈ ps, nodes n f.2 <= 1000) (hfl : qs.length <= 1000) (hfm : ∀ f ∈ qs, nodes n f.2 <= 1000) :
  Calls Tryz.prog 23 #[rfV ⟨6, false, 0, []⟩ dn dl, rfV ⟨6, false, 0, []⟩ vn vl] w (RAns av (n + 1) (objE (bothAll (bothP n) ps qs ps)) w) := by
 obtain ⟨pd, cd, hdn, hd1, hd2, _⟩ := hD.form
 obtain ⟨pe, ce, hdlv, he1, he2, _⟩ := hE.form
 obtain ⟨pn, cn, hvn, hn1, hn2, hn3⟩ := hN.form
 obtain ⟨pl, cl, hvl, hl1, hl2, hl3⟩ := hL.form
 rw [List.length_map] at hdn hd1 hdlv he1 hvn hn1 hvl hl1
 subst hdn hdlv hvn hvl
 unfold maxLen at hd2 he2 hn2 hl2
 have HFd : Hid (∀ (nm : ByteArray) (w1 : World) (av' : Nat -> Prop), (∀ c, av' c -> av c ∨ w.heap.size <= c) -> Below w.heap.size w w1 -> Calls Tryz.prog 33 #[rfV ⟨6, false, 0, []⟩ (.slice pd ps.length cd) (.slice pe ps.length ce), .string nm] w1 fun e w' => Below w1.heap.size w1 w' /\ ∃ v b, e = .returned (.tuple #[v, .bool b]) /\ b = (findF ps nm.data.toList).isSome /\ ROpt av' w1 n (findF ps nm.data.toList) v) := fun nm w1 av' ha b => rffind_at nm w1 ⟨(hD.wide ha).below b, Or.inl ⟨rfl, (hE.wide ha).below b⟩, ⟨_, _, _, rfl⟩⟩
 have HN3 : Hid (∀ (i : Nat) (f : Bs × J n), qs[i]? = some f -> ∃ g, pn = some ⟨g, 0, none⟩ /\ g < w.heap.size /\ w.cell? ⟨g, i, none⟩ = some (.string ⟨f.1.toArray⟩)) := fun i f h => hn3 i f.1 (by rw [List.getElem?_map, h]; rfl)
 have HL3 : Hid (∀ (i : Nat) (f : Bs × J n), qs[i]? = some f -> ∃ g nm' l', pl = some ⟨g, 0, none⟩ /\ g < w.heap.size /\ Six w g (i * 6) (headJ n f.2) nm' l' /\ RSt av w n f.2 (rfV (headJ n f.2) nm' l')) := fun i f h => hl3 i f.2 (by rw [List.getElem?_map, h]; rfl)
 have HDm : Hid (∀ s x, findF ps s = some x -> nodes n x <= 1000) := fun s x h => by
  rw [find_look] at h
  exact hdm _ (look_mem h)
 have HFm : Hid (∀ (i : Nat) (f : Bs × J n), qs[i]? = some f -> nodes n f.2 <= 1000) := fun i f h => hfm f (List.mem_of_getElem? h)
 have HIh : Hid (RBothOK n) := ih
 have HAv : Hid (∀ c, w.heap.size <= c -> ¬ av c) := hav
 obtain ⟨w0, hw0⟩ : ∃ w0, w0 = (((w.alloc (.cells #[.int .i64 6, .bool false, .int .i64 0, .string ⟨#[]⟩, (.slice pd ps.length cd), (.slice pe ps.length ce)] 38)).alloc (.cells #[.int .i64 6, .bool false, .int .i64 0, .string ⟨#[]⟩, (.slice pn qs.length cn), (.slice pl qs.length cl)] 38)).alloc (.cells #[.int .i64 0, .bool false, .int .i64 0, .string ⟨#[]⟩, .slice none 0 0, .slice none 0 0] 38)).alloc (.cells #[.int .i64 6, .bool false, .int .i64 0, .string ⟨#[]⟩, (.slice pd ps.length cd), (.slice pe ps.length ce)] 38) := ⟨_, rfl⟩
 have HI0 : Hid (IntoAt av w ⟨6, false, 0, []⟩ (.slice pd ps.length cd) (.slice pe ps.length ce) (.slice pn qs.length cn) (.slice pl qs.length cl) ps (.slice pd ps.length cd) (.slice pe ps.length ce) w0) := by
  have x0 := ((box_new w ⟨6, false, 0, []⟩ (.slice pd ps.length cd) (.slice pe ps.length ce)).alloc (.cells #[.int .i64 6, .bool false, .int .i64 0, .string ⟨#[]⟩, (.slice pn qs.length cn), (.slice pl qs.length cl)] 38)).alloc (.cells #[.int .i64 0, .bool false, .int .i64 0, .string ⟨#[]⟩, .slice none 0 0, .slice none 0 0] 38) |>.alloc (.cells #[.int .i64 6, .bool false, .int .i64 0, .string ⟨#[]⟩, (.slice pd ps.length cd), (.slice pe ps.length ce)] 38)
  have x1 := ((box_new (w.alloc (.cells #[.int .i64 6, .bool false, .int .i64 0, .string ⟨#[]⟩, (.slice pd ps.length cd), (.slice pe ps.length ce)] 38)) ⟨6, false, 0, []⟩ (.slice pn qs.length cn) (.slice pl qs.length cl)).alloc (.cells #[.int .i64 0, .bool false, .int .i64 0, .string ⟨#[]⟩, .slice none 0 0, .slice none 0 0] 38)).alloc (.cells #[.int .i64 6, .bool false, .int .i64 0, .string ⟨#[]⟩, (.slice pd ps.length cd), (.slice pe ps.length ce)] 38)
  have x2 := (box_new ((w.alloc (.cells #[.int .i64 6, .bool false, .int .i64 0, .string ⟨#[]⟩, (.slice pd ps.length cd), (.slice pe ps.length ce)] 38)).alloc (.cells #[.int .i64 6, .bool false, .int .i64 0, .string ⟨#[]⟩, (.slice pn qs.length cn), (.slice pl qs.length cl)] 38)) ⟨0, false, 0, []⟩ (.slice none 0 0) (.slice none 0 0)).alloc (.cells #[.int .i64 6, .bool false, .int .i64 0, .string ⟨#[]⟩, (.slice pd ps.length cd), (.slice pe ps.length ce)] 38)
  have x3 := box_new (((w.alloc (.cells #[.int .i64 6, .bool false, .int .i64 0, .string ⟨#[]⟩, (.slice pd ps.length cd), (.slice pe ps.length ce)] 38)).alloc (.cells #[.int .i64 6, .bool false, .int .i64 0, .string ⟨#[]⟩, (.slice pn qs.length cn), (.slice pl qs.length cl)] 38)).alloc (.cells #[.int .i64 0, .bool false, .int .i64 0, .string ⟨#[]⟩, .slice none 0 0, .slice none 0 0] 38)) ⟨6, false, 0, []⟩ (.slice pd ps.length cd) (.slice pe ps.length ce)
  have hb : Below w.heap.size w w0 := by
   rw [hw0]
   exact ((((Below.refl _ _).alloc (Nat.le_refl _) _).alloc (by simp) _).alloc (by simp; omega) _).alloc (by simp; omega) _
  have hn := hD.loc (b := w.heap.size + 4) hb
  have hv := hE.loc (b := w.heap.size + 4) hb
  show IntoAt _ _ _ _ _ _ _ _ _ _ _
  rw [hw0] at hn hv hb ⊢
  refine ⟨⟨hn, hv, by simpa using x3, Or.inr ⟨by omega, by omega⟩, fun c hc e => by
   simp at hc
   rcases e with e | e
   ·exact hav c (by omega) e
   ·omega⟩, hb, by simpa using x0, by simpa using x1, by simpa using x2⟩
 have HW0 : Hid (w0 = (((w.alloc (.cells #[.int .i64 6, .bool false, .int .i64 0, .string ⟨#[]⟩, (.slice pd ps.length cd), (.slice pe ps.length ce)] 38)).alloc (.cells #[.int .i64 6, .bool false, .int .i64 0, .string ⟨#[]⟩, (.slice pn qs.length cn), (.slice pl qs.length cl)] 38)).alloc (.cells #[.int .i64 0, .bool false, .int .i64 0, .string ⟨#[]⟩, .slice none 0 0, .slice none 0 0] 38)).alloc (.cells #[.int .i64 6, .bool false, .int .i64 0, .string ⟨#[]⟩, (.slice pd ps.length cd), (.slice pe ps.length ce)] 38)) := hw0
 clear hw0 hD hE hN hL hn3 hl3 hdm hfm ih
 unfold rfV
 go_enter Tryz.func23, Tryz.ntmps23
 go_wp2_with fail
 rw [<- HW0.out]
 go_loopw [25] (fun i wr => ILoop av w ⟨6, false, 0, []⟩ (.slice pd ps.length cd) (.slice pe ps.length ce) (.slice pn qs.length cn) (.slice pl qs.length cl) (fun s k => bothAll (bothP n) ps qs ps = bothAll (bothP n) ps (qs.drop k) s) ps.length qs.length i wr) (fun i _ => qs.length - (intOf i).toNat)
 case atStart => exact ⟨0, ps, _, _, Nat.zero_le _, rfl, rfl, by omega, HI0.out⟩
 case round =>
  obtain ⟨k, s, un, ul, hk, rfl, hP, hsl, hI⟩ := hrel
  obtain ⟨⟨pu, cu, rfl⟩, pq, cq, rfl⟩ := hI.out.shape
  have HP : Hid (bothAll (bothP n) ps qs ps = bothAll (bothP n) ps (qs.drop k) s) := hP
  have HI : Hid (IntoAt av w ⟨6, false, 0, []⟩ (.slice pd ps.length cd) (.slice pe ps.length ce) (.slice pn qs.length cn) (.slice pl qs.length cl) s (.slice pu s.length cu) (.slice pq s.length cq) wr) := hI
  clear hP hI HI0 HW0
  by_cases hlt : k < qs.length
  ·obtain ⟨f, hfk⟩ : ∃ f, qs[k]? = some f := ⟨qs[k], List.getElem?_eq_getElem hlt⟩
   obtain ⟨g, rfl, hg, hgc⟩ := HN3.out k f hfk
   obtain ⟨ge, nm', l', rfl, hge, h6, hst⟩ := HL3.out k f hfk
   obtain ⟨⟨q1, m1, e1, rfl⟩, q2, m2, e2, rfl⟩ := rst_sl hst
   obtain ⟨nb, hnb⟩ : ∃ nb : ByteArray, nb = ⟨f.1.toArray⟩ := ⟨_, rfl⟩
   have hnl : nb.data.toList = f.1 := by rw [hnb]
   have n1 : wr.cell? ⟨g, k, none⟩ = some (.string nb) := by rw [hnb]; exact (HI.out.bel.cell (p := ⟨g, k, none⟩) hg).trans hgc
   have HSt : Hid (∀ w', Below w.heap.size w w' -> RSt (Loc av w.heap.size (w.heap.size + 4)) w' n f.2 (rfV (headJ n f.2) (.slice q1 m1 e1) (.slice q2 m2 e2))) := fun w' b => hst.loc b
   have v5 := HI.out.v.c5
   obtain ⟨x0, x1, x2, x3, x4, x5⟩ := h6.keep (HI.out.bel.block ge hge)
   have hkI : (k : Int) < (qs.length : Int) := by omega
   have hnx := HFm.out k f hfk
   have HCons : Hid (bothAll (bothP n) ps qs ps = match bothOne (bothP n) ps f with
     | .error e => .error e
     | .ok c => bothAll (bothP n) ps (qs.drop (k + 1)) (setF s f.1 c)) := by
    show _ = _
    rw [HP.out, drop_at hfk, bothAll_cons]
    cases bothOne (bothP n) ps f <;> rfl
   have HSet : Hid (∀ (W : World) (c : J n) (uv : Value), IntoAt av w ⟨6, false, 0, []⟩ (.slice pd ps.length cd) (.slice pe ps.length ce) (.slice (some ⟨g, 0, none⟩) qs.length cn) (.slice (some ⟨ge, 0, none⟩) qs.length cl) s (.slice pu s.length cu) (.slice pq s.length cq) W -> RSt (Loc av w.heap.size (w.heap.size + 4)) W n c uv -> Calls Tryz.prog 34 #[rfV ⟨6, false, 0, []⟩ (.slice pu s.length cu) (.slice pq s.length cq), .string nb, uv] W (SetPost (Loc av w.heap.size (w.heap.size + 4)) s f.1 c W)) := fun W c uv hW hu => by
    have h9 := rfset_any (Loc av w.heap.size (w.heap.size + 4)) s nb c _ _ uv W hW.out.names hW.out.vals hu hW.out.free (by omega)
    rw [hnl] at h9
    exact h9
   have HF : Hid (∀ w1 : World, Below w.heap.size w w1 -> Calls Tryz.prog 33 #[rfV ⟨6, false, 0, []⟩ (.slice pd ps.length cd) (.slice pe ps.length ce), .string nb] w1 fun e w' => Below w1.heap.size w1 w' /\ ∃ v b, e = .returned (.tuple #[v, .bool b]) /\ b = (findF ps nb.data.toList).isSome /\ ROpt (fun c => Loc av w.heap.size (w.heap.size + 4) c ∨ c = wr.heap.size) w1 n (findF ps nb.data.toList) v) := fun w1 b => HFd.out nb w1 (fun c => Loc av w.heap.size (w.heap.size + 4) c ∨ c = wr.heap.size) (fun c e => by
    have := HI.out.bel.size
    rcases e with (e | e) | e
    ·exact Or.inl e
    ·exact Or.inr e.1
    ·exact Or.inr (by omega)) b
   rw [hnl] at HF
   have HSw : Hid (RSt (fun c => Loc av w.heap.size (w.heap.size + 4) c ∨ c = wr.heap.size) wr n f.2 (rfV (headJ n f.2) (.slice q1 m1 e1) (.slice q2 m2 e2))) := (HSt.out wr HI.out.bel).wide (fun c e => by
     rcases e with e | e
     ·exact Or.inl e
     ·exact Or.inr (by omega))
   have HWb : Hid (Box (wr.alloc (.cells #[.int .i64 (headJ n f.2).k, .bool (headJ n f.2).b, .int .i64 (headJ n f.2).i, .string ⟨(headJ n f.2).s.toArray⟩, .slice q1 m1 e1, .slice q2 m2 e2] 38)) wr.heap.size (headJ n f.2) (.slice q1 m1 e1) (.slice q2 m2 e2)) := box_new wr (headJ n f.2) _ _
   have HBx : Hid (Below wr.heap.size wr (wr.alloc (.cells #[.int .i64 (headJ n f.2).k, .bool (headJ n f.2).b, .int .i64 (headJ n f.2).i, .string ⟨(headJ n f.2).s.toArray⟩, .slice q1 m1 e1, .slice q2 m2 e2] 38))) := (Below.refl _ _).alloc (Nat.le_refl _) _
   have d0 := fun o => (HI.out.d.alloc o).c0
   have d1 := fun o => (HI.out.d.alloc o).c1
   have d2 := fun o => (HI.out.d.alloc o).c2
   have d3 := fun o => (HI.out.d.alloc o).c3
   have d4 := fun o => (HI.out.d.alloc o).c4
   have d5 := fun o => (HI.out.d.alloc o).c5
   clear hgc h6 hst hnb hfk
   unfold rfV at HF HSet
   go_wp2_with fail
   clear x0 x1 x2 x3 x4 x5 n1 v5 d0 d1 d2 d3 d4 d5
   generalize wr.alloc (.cells #[.int .i64 (headJ n f.2).k, .bool (headJ n f.2).b, .int .i64 (headJ n f.2).i, .string ⟨(headJ n f.2).s.toArray⟩, .slice q1 m1 e1, .slice q2 m2 e2] 38) = wx at *
   refine Calls.mono (HF.out wx (HI.out.below HBx.out).bel) ?_
   rintro e w5 ⟨b5, v, b, rfl, hb, hv⟩
   obtain ⟨xh, p1, k1, c1, p2, k2, c2, rfl⟩ := hv.form
   have HBy : Hid (Below wr.heap.size wr (w5.alloc (.cells #[.int .i64 xh.k, .bool xh.b, .int .i64 xh.i, .string ⟨xh.s.toArray⟩, .slice p1 k1 c1, .slice p2 k2 c2] 38))) := (HBx.out.trans (b5.mono HBx.out.size)).alloc (Nat.le_trans HBx.out.size b5.size) _
   have HWy : Hid (Box (w5.alloc (.cells #[.int .i64 xh.k, .bool xh.b, .int .i64 xh.i, .string ⟨xh.s.toArray⟩, .slice p1 k1 c1, .slice p2 k2 c2] 38)) wr.heap.size (headJ n f.2) (.slice q1 m1 e1) (.slice q2 m2 e2)) := (HWb.out.below b5).alloc _
   have HOy : Hid (ROpt (fun c => Loc av w.heap.size (w.heap.size + 4) c ∨ c = wr.heap.size) (w5.alloc (.cells #[.int .i64 xh.k, .bool xh.b, .int .i64 xh.i, .string ⟨xh.s.toArray⟩, .slice p1 k1 c1, .slice p2 k2 c2] 38)) n (findF ps f.1) (rfV xh (.slice p1 k1 c1) (.slice p2 k2 c2))) := (hv.below b5).below ((Below.refl _ _).alloc (Nat.le_refl _) _)
   have HXy : Hid (Box (w5.alloc (.cells #[.int .i64 xh.k, .bool xh.b, .int .i64 xh.i, .string ⟨xh.s.toArray⟩, .slice p1 k1 c1, .slice p2 k2 c2] 38)) w5.heap.size xh (.slice p1 k1 c1) (.slice p2 k2 c2)) := box_new w5 xh _ _
   have HIy : Hid _ := HI.out.below HBy.out
   clear hv b5
   unfold rfV
   cases hfind : findF ps f.1 with
   | none =>
    rw [hfind] at hb
    subst hb
    have HOne : Hid (bothOne (bothP n) ps f = .ok f.2) := by
     show _ = _
     unfold bothOne
     rw [<- find_look, hfind]
    have HPn : Hid (bothAll (bothP n) ps qs ps = bothAll (bothP n) ps (qs.drop (k + 1)) (setF s f.1 f.2)) := by
     show _ = _
     rw [HCons.out, HOne.out]
    have HSd := HSet.out _ f.2 _ HIy.out (HSt.out _ HIy.out.bel)
    have HSe : Hid _ := HSd
    clear HSd
    have o0 := HIy.out.out.o.c0
    have o1 := HIy.out.out.o.c1
    have o2 := HIy.out.out.o.c2
    have o3 := HIy.out.out.o.c3
    have o4 := HIy.out.out.o.c4
    have o5 := HIy.out.out.o.c5
    have y0 := HWy.out.c0
    have y1 := HWy.out.c1
    have y2 := HWy.out.c2
    have y3 := HWy.out.c3
    have y4 := HWy.out.c4
    have y5 := HWy.out.c5
    go_wp2_with fail
    generalize w5.alloc (.cells #[.int .i64 xh.k, .bool xh.b, .int .i64 xh.i, .string ⟨xh.s.toArray⟩, .slice p1 k1 c1, .slice p2 k2 c2] 38) = wy at *
    refine Calls.mono HSe.out ?_
    rintro e x2 ⟨b2, un2, ul2, rfl, hn2, hl2⟩
    obtain ⟨pu2, cu2, hpu, _⟩ := hn2.form
    obtain ⟨pq2, cq2, hpq, _⟩ := hl2.form
    rw [List.length_map] at hpu hpq
    subst hpu hpq
    unfold rfV
    have hIx := HIy.out.below b2
    have z0 := hIx.out.o.c0
    have z1 := hIx.out.o.c1
    have z2 := hIx.out.o.c2
    have z3 := hIx.out.o.c3
    have z4 := hIx.out.o.c4
    have z5 := hIx.out.o.c5
    have f0 := hIx.out.o.free 0
    have f1 := hIx.out.o.free 1
    have f2 := hIx.out.o.free 2
    have f3 := hIx.out.o.free 3
    have f4 := hIx.out.o.free 4
    have f5 := hIx.out.o.free 5
    have HPut : Hid _ := hIx.put hn2 hl2
    have hsl2 := setF_len s f.1 f.2
    clear hIx hn2 hl2 b2 o0 o1 o2 o3 o4 o5 y0 y1 y2 y3 y4 y5
    go_wp2_with fail
    go_roundw
    case rel =>
     have hrelN : ILoop av w ⟨6, false, 0, []⟩ (.slice pd ps.length cd) (.slice pe ps.length ce) (.slice _ qs.length cn) (.slice _ qs.length cl) (fun s k => bothAll (bothP n) ps qs ps = bothAll (bothP n) ps (qs.drop k) s) ps.length qs.length (.int .i64 ((k : Int) + 1)) _ := ⟨k + 1, setF s f.1 f.2, _, _, by omega, by go_num, HPn.out, by omega, HPut.out⟩
     first | exact hrelN | ((repeat apply Exists.intro); refine ⟨hrelN, ?_⟩; first | rfl | exact ⟨rfl, rfl⟩ | exact ⟨rfl, rfl, rfl⟩ | exact ⟨rfl, rfl, rfl, rfl⟩ | exact ⟨rfl, rfl, rfl, rfl, rfl⟩)
    case measure => (simp [intOf]; omega)
   | some was =>
    rw [hfind] at hb
    subst hb
    have HOne : Hid (bothOne (bothP n) ps f = bothP n was f.2) := by
     show _ = _
     unfold bothOne
     rw [<- find_look, hfind]
    have HFr : Hid (∀ c, (w5.alloc (.cells #[.int .i64 xh.k, .bool xh.b, .int .i64 xh.i, .string ⟨xh.s.toArray⟩, .slice p1 k1 c1, .slice p2 k2 c2] 38)).heap.size <= c -> ¬ (fun c => Loc av w.heap.size (w.heap.size + 4) c ∨ c = wr.heap.size) c) := fun c hc e => by
     rcases e with e | e
     ·exact HIy.out.out.free c hc e
     ·have := lt_of_block HWy.out
      omega
    have HRe : Hid (Calls Tryz.prog 23 #[(.agg #[.int .i64 xh.k, .bool xh.b, .int .i64 xh.i, .string ⟨xh.s.toArray⟩, .slice p1 k1 c1, .slice p2 k2 c2]), (.agg #[.int .i64 (headJ n f.2).k, .bool (headJ n f.2).b, .int .i64 (headJ n f.2).i, .string ⟨(headJ n f.2).s.toArray⟩, .slice q1 m1 e1, .slice q2 m2 e2])] (w5.alloc (.cells #[.int .i64 xh.k, .bool xh.b, .int .i64 xh.i, .string ⟨xh.s.toArray⟩, .slice p1 k1 c1, .slice p2 k2 c2] 38)) (RAns (fun c => Loc av w.heap.size (w.heap.size + 4) c ∨ c = wr.heap.size) n (bothP n was f.2) (w5.alloc (.cells #[.int .i64 xh.k, .bool xh.b, .int .i64 xh.i, .string ⟨xh.s.toArray⟩, .slice p1 k1 c1, .slice p2 k2 c2] 38)))) := by
     have h9 := HOy.out
     rw [hfind] at h9
     exact HIh.out (fun c => Loc av w.heap.size (w.heap.size + 4) c ∨ c = wr.heap.size) was f.2 _ _ (w5.alloc (.cells #[.int .i64 xh.k, .bool xh.b, .int .i64 xh.i, .string ⟨xh.s.toArray⟩, .slice p1 k1 c1, .slice p2 k2 c2] 38)) HFr.out h9 (HSw.out.below HBy.out) (HDm.out f.1 was hfind) hnx
    have t0 := HXy.out.c0
    have t1 := HXy.out.c1
    have t2 := HXy.out.c2
    have t3 := HXy.out.c3
    have t4 := HXy.out.c4
    have t5 := HXy.out.c5
    have y0 := HWy.out.c0
    have y1 := HWy.out.c1
    have y2 := HWy.out.c2
    have y3 := HWy.out.c3
    have y4 := HWy.out.c4
    have y5 := HWy.out.c5
    clear hfind HOy HXy
    go_wp2_with fail
    generalize w5.alloc (.cells #[.int .i64 xh.k, .bool xh.b, .int .i64 xh.i, .string ⟨xh.s.toArray⟩, .slice p1 k1 c1, .slice p2 k2 c2] 38) = wy at *
    refine Calls.mono HRe.out ?_
    rintro e w6 ⟨b6, h6⟩
    have HBz : Hid (Below wr.heap.size wr w6) := HBy.out.trans (b6.mono HBy.out.size)
    have HWz : Hid (Box w6 wr.heap.size (headJ n f.2) (.slice q1 m1 e1) (.slice q2 m2 e2)) := HWy.out.below b6
    have s0 := HWz.out.c0
    have s1 := HWz.out.c1
    have s2 := HWz.out.c2
    have s3 := HWz.out.c3
    have s4 := HWz.out.c4
    have s5 := HWz.out.c5
    have f0 := HWz.out.free 0
    have f1 := HWz.out.free 1
    have f2 := HWz.out.free 2
    have f3 := HWz.out.free 3
    have f4 := HWz.out.free 4
    have f5 := HWz.out.free 5
    clear b6 y0 y1 y2 y3 y4 y5 t0 t1 t2 t3 t4 t5 HRe
    cases hbo : bothP n was f.2 with
    | error er =>
     rw [hbo] at h6 HOne
     obtain ⟨her, her2, rfl⟩ := h6
     have hbe : ((er : Int) != 0) = true := by rw [bne_iff_ne]; omega
     have HRes : Hid (bothAll (bothP n) ps qs ps = .error er) := by
      show _ = _
      rw [HCons.out, HOne.out]
     have HBp : Hid (Below wr.heap.size wr (put6 w6 wr.heap.size (.int .i64 0) (.bool false) (.int .i64 0) (.string ⟨#[]⟩) (.slice none 0 0) (.slice none 0 0))) := put6_below HBz.out (Nat.le_refl _) HBz.out.size _ _ _ _ _ _
     have HIp : Hid _ := HI.out.below HBp.out
     have HZ : Hid (Box (put6 w6 wr.heap.size (.int .i64 0) (.bool false) (.int .i64 0) (.string ⟨#[]⟩) (.slice none 0 0) (.slice none 0 0)) (w.heap.size + 1 + 1) ⟨0, false, 0, []⟩ (.slice none 0 0) (.slice none 0 0)) := HIp.out.r
     unfold rfV
     clear hbo
     go_upto_if 49 with fail
     change Code.wp _ _ _ _ (put6 w6 wr.heap.size (.int .i64 0) (.bool false) (.int .i64 0) (.string ⟨#[]⟩) (.slice none 0 0) (.slice none 0 0))
     generalize put6 w6 wr.heap.size (.int .i64 0) (.bool false) (.int .i64 0) (.string ⟨#[]⟩) (.slice none 0 0) (.slice none 0 0) = w7 at *
     have z0 := HZ.out.c0
     have z1 := HZ.out.c1
     have z2 := HZ.out.c2
     have z3 := HZ.out.c3
     have z4 := HZ.out.c4
     have z5 := HZ.out.c5
     have g0 := HZ.out.free 0
     have g1 := HZ.out.free 1
     have g2 := HZ.out.free 2
     have g3 := HZ.out.free 3
     have g4 := HZ.out.free 4
     have g5 := HZ.out.free 5
     clear s0 s1 s2 s3 s4 s5 f0 f1 f2 f3 f4 f5
     go_wp2_with fail
     have e6 : Box (put6 w7 (w.heap.size + 1 + 1) (.int .i64 0) (.bool false) (.int .i64 0) (.string ⟨#[]⟩) (.slice none 0 0) (.slice none 0 0)) (w.heap.size + 1 + 1) ⟨0, false, 0, []⟩ (.slice none 0 0) (.slice none 0 0) := put6_box HZ.out ⟨0, false, 0, []⟩ (.slice none 0 0) (.slice none 0 0)
     have g6 := put6_grown w7 (w.heap.size + 1 + 1) (.int .i64 0) (.bool false) (.int .i64 0) (.string ⟨#[]⟩) (.slice none 0 0) (.slice none 0 0)
     change bodyPost _ _ _ _ _ (put6 w7 (w.heap.size + 1 + 1) _ _ _ _ _ _)
     generalize put6 w7 (w.heap.size + 1 + 1) (.int .i64 0) (.bool false) (.int .i64 0) (.string ⟨#[]⟩) (.slice none 0 0) (.slice none 0 0) = W at *
     exact bodyPost_ret (v := .tuple #[rfV ⟨0, false, 0, []⟩ (.slice none 0 0) (.slice none 0 0), .int .i64 er]) (by simp [results, Tryz.results23, go_sem, rfV, e6.c0, e6.c1, e6.c2, e6.c3, e6.c4, e6.c5]) rfl ⟨HIp.out.bel.grown g6 HIp.out.bel.size (fun k e => by cases e; omega), by rw [HRes.out]; exact ⟨her, her2, rfl⟩⟩
    | ok c =>
     rw [hbo] at h6 HOne
     obtain ⟨u, rfl, hu⟩ := h6
     obtain ⟨un1, ul1, rfl⟩ := rst_form hu
     obtain ⟨⟨r1, i1, j1, rfl⟩, r2, i2, j2, rfl⟩ := rst_sl hu
     have HPn : Hid (bothAll (bothP n) ps qs ps = bothAll (bothP n) ps (qs.drop (k + 1)) (setF s f.1 c)) := by
      show _ = _
      rw [HCons.out, HOne.out]
     have HBp : Hid (Below wr.heap.size wr (put6 w6 wr.heap.size (.int .i64 (headJ n c).k) (.bool (headJ n c).b) (.int .i64 (headJ n c).i) (.string ⟨(headJ n c).s.toArray⟩) (.slice r1 i1 j1) (.slice r2 i2 j2))) := put6_below HBz.out (Nat.le_refl _) HBz.out.size _ _ _ _ _ _
     have HIp : Hid _ := HI.out.below HBp.out
     have HUp : Hid (RSt (Loc av w.heap.size (w.heap.size + 4)) (put6 w6 wr.heap.size (.int .i64 (headJ n c).k) (.bool (headJ n c).b) (.int .i64 (headJ n c).i) (.string ⟨(headJ n c).s.toArray⟩) (.slice r1 i1 j1) (.slice r2 i2 j2)) n c (rfV (headJ n c) (.slice r1 i1 j1) (.slice r2 i2 j2))) := (hu.grown (put6_grown w6 wr.heap.size _ _ _ _ _ _) (fun k e => by cases e; exact Or.inr rfl)).wide (fun c e => Or.inl (Or.inl e))
     have HSe : Hid _ := HSet.out _ c _ HIp.out HUp.out
     have HWp : Hid (Box (put6 w6 wr.heap.size (.int .i64 (headJ n c).k) (.bool (headJ n c).b) (.int .i64 (headJ n c).i) (.string ⟨(headJ n c).s.toArray⟩) (.slice r1 i1 j1) (.slice r2 i2 j2)) wr.heap.size (headJ n c) (.slice r1 i1 j1) (.slice r2 i2 j2)) := put6_box HWz.out (headJ n c) _ _
     unfold rfV
     clear hbo hu
     go_upto_if 49 with fail
     change Code.wp _ _ _ _ (put6 w6 wr.heap.size (.int .i64 (headJ n c).k) (.bool (headJ n c).b) (.int .i64 (headJ n c).i) (.string ⟨(headJ n c).s.toArray⟩) (.slice r1 i1 j1) (.slice r2 i2 j2))
     generalize put6 w6 wr.heap.size (.int .i64 (headJ n c).k) (.bool (headJ n c).b) (.int .i64 (headJ n c).i) (.string ⟨(headJ n c).s.toArray⟩) (.slice r1 i1 j1) (.slice r2 i2 j2) = w7 at *
     clear s0 s1 s2 s3 s4 s5 f0 f1 f2 f3 f4 f5
     have o0 := HIp.out.out.o.c0
     have o1 := HIp.out.out.o.c1
     have o2 := HIp.out.out.o.c2
     have o3 := HIp.out.out.o.c3
     have o4 := HIp.out.out.o.c4
     have o5 := HIp.out.out.o.c5
     have y0 := HWp.out.c0
     have y1 := HWp.out.c1
     have y2 := HWp.out.c2
     have y3 := HWp.out.c3
     have y4 := HWp.out.c4
     have y5 := HWp.out.c5
     go_wp2_with fail
     refine Calls.mono HSe.out ?_
     rintro e x2 ⟨b2, un2, ul2, rfl, hn2, hl2⟩
     obtain ⟨pu2, cu2, hpu, _⟩ := hn2.form
     obtain ⟨pq2, cq2, hpq, _⟩ := hl2.form
     rw [List.length_map] at hpu hpq
     subst hpu hpq
     unfold rfV
     have hIx := HIp.out.below b2
     have z0 := hIx.out.o.c0
     have z1 := hIx.out.o.c1
     have z2 := hIx.out.o.c2
     have z3 := hIx.out.o.c3
     have z4 := hIx.out.o.c4
     have z5 := hIx.out.o.c5
     have g0 := hIx.out.o.free 0
     have g1 := hIx.out.o.free 1
     have g2 := hIx.out.o.free 2
     have g3 := hIx.out.o.free 3
     have g4 := hIx.out.o.free 4
     have g5 := hIx.out.o.free 5
     have HPut : Hid _ := hIx.put hn2 hl2
     have hsl2 := setF_len s f.1 c
     clear hIx hn2 hl2 b2 o0 o1 o2 o3 o4 o5 y0 y1 y2 y3 y4 y5
     go_wp2_with fail
     go_roundw
     case rel =>
      have hrelN : ILoop av w ⟨6, false, 0, []⟩ (.slice pd ps.length cd) (.slice pe ps.length ce) (.slice _ qs.length cn) (.slice _ qs.length cl) (fun s k => bothAll (bothP n) ps qs ps = bothAll (bothP n) ps (qs.drop k) s) ps.length qs.length (.int .i64 ((k : Int) + 1)) _ := ⟨k + 1, setF s f.1 c, _, _, by omega, by go_num, HPn.out, by omega, HPut.out⟩
      first | exact hrelN | ((repeat apply Exists.intro); refine ⟨hrelN, ?_⟩; first | rfl | exact ⟨rfl, rfl⟩ | exact ⟨rfl, rfl, rfl⟩ | exact ⟨rfl, rfl, rfl, rfl⟩ | exact ⟨rfl, rfl, rfl, rfl, rfl⟩)
     case measure => (simp [intOf]; omega)
  ·have HRes : Hid (bothAll (bothP n) ps qs ps = .ok s) := by
    show _ = _
    rw [HP.out, List.drop_eq_nil_of_le (by omega)]
    rfl
   have HZ : Hid (Box wr (w.heap.size + 1 + 1) ⟨0, false, 0, []⟩ (.slice none 0 0) (.slice none 0 0)) := HI.out.r
   have HO : Hid (Box wr (w.heap.size + 1 + 1 + 1) ⟨6, false, 0, []⟩ (.slice pu s.length cu) (.slice pq s.length cq)) := HI.out.out.o
   have o0 := HO.out.c0
   have o1 := HO.out.c1
   have o2 := HO.out.c2
   have o3 := HO.out.c3
   have o4 := HO.out.c4
   have o5 := HO.out.c5
   have f0 := HZ.out.free 0
   have f1 := HZ.out.free 1
   have f2 := HZ.out.free 2
   have f3 := HZ.out.free 3
   have f4 := HZ.out.free 4
   have f5 := HZ.out.free 5
   have z0 := HZ.out.c0
   have z1 := HZ.out.c1
   have z2 := HZ.out.c2
   have z3 := HZ.out.c3
   have z4 := HZ.out.c4
   have z5 := HZ.out.c5
   go_wp2_with fail
   have e6 : Box (put6 wr (w.heap.size + 1 + 1) (.int .i64 6) (.bool false) (.int .i64 0) (.string ⟨#[]⟩) (.slice pu s.length cu) (.slice pq s.length cq)) (w.heap.size + 1 + 1) ⟨6, false, 0, []⟩ (.slice pu s.length cu) (.slice pq s.length cq) := put6_box HZ.out ⟨6, false, 0, []⟩ (.slice pu s.length cu) (.slice pq s.length cq)
   have g6 := put6_grown wr (w.heap.size + 1 + 1) (.int .i64 6) (.bool false) (.int .i64 0) (.string ⟨#[]⟩) (.slice pu s.length cu) (.slice pq s.length cq)
   change bodyPost _ _ _ _ _ (put6 wr (w.heap.size + 1 + 1) _ _ _ _ _ _)
   generalize put6 wr (w.heap.size + 1 + 1) (.int .i64 6) (.bool false) (.int .i64 0) (.string ⟨#[]⟩) (.slice pu s.length cu) (.slice pq s.length cq) = W at *
   exact bodyPost_ret (v := .tuple #[rfV ⟨6, false, 0, []⟩ (.slice pu s.length cu) (.slice pq s.length cq), .int .i64 0]) (by simp [results, Tryz.results23, go_sem, rfV, e6.c0, e6.c1, e6.c2, e6.c3, e6.c4, e6.c5]) rfl ⟨HI.out.bel.grown g6 HI.out.bel.size (fun k e => by cases e; omega), by rw [HRes.out]; exact ⟨_, rfl, rst_mk (j := (Sum.inr (Sum.inr s) : J (n + 1))) (HI.out.out.names.grown g6 (fun k e => by cases e; exact Or.inr ⟨by omega, by omega⟩)).unloc (HI.out.out.vals.grown g6 (fun k e => by cases e; exact Or.inr ⟨by omega, by omega⟩)).unloc⟩⟩
end Go.Proofs.YtjcdklbimaclkaaGreatDoor
namespace Go.Proofs.YtjcdklbimaclkaaGreatDoor
set_option linter.unusedVariables false
set_option linter.unusedSimpArgs false
section
variable {α : Type}
def goNames (of : Of α) (a b : List (Bs × α)) : List Bs -> List (Bs × α) -> Except Nat (List (Bs × α))
 | [], out => .ok out
 | s :: r, out => match of (look a s) (look b s) with
  | .error e => .error e
  | .ok none => goNames of a b r out
  | .ok (some z) => goNames of a b r (setF out s z)
theorem names_err (of : Of α) (a b : List (Bs × α)) : ∀ (l : List Bs) (out : List (Bs × α)) (e : Nat), goNames of a b l out = .error e -> ∃ s ∈ l, of (look a s) (look b s) = .error e
 | [], out, e, h => by cases h
 | s :: r, out, e, h => by
  simp only [goNames] at h
  cases h1 : of (look a s) (look b s) with
  | error e' =>
   rw [h1] at h
   cases h
   exact ⟨s, by simp, h1⟩
  | ok m =>
   rw [h1] at h
   cases m with
   | none =>
    obtain ⟨x, hx, hy⟩ := names_err of a b r _ e h
    exact ⟨x, List.mem_cons_of_mem _ hx, hy⟩
   | some z =>
    obtain ⟨x, hx, hy⟩ := names_err of a b r _ e h
    exact ⟨x, List.mem_cons_of_mem _ hx, hy⟩
theorem names_ok (of : Of α) (a b : List (Bs × α)) : ∀ (l : List Bs) (out R : List (Bs × α)), goNames of a b l out = .ok R -> Rising out -> Rising R /\ (∀ s, s ∉ l -> look R s = look out s) /\ ∀ s ∈ l, ∃ m, of (look a s) (look b s) = .ok m /\ look R s = m.or (look out s)
 | [], out, R, h, ho => by
  cases h
  exact ⟨ho, fun s _ => rfl, fun s hs => by cases hs⟩
 | t :: r, out, R, h, ho => by
  simp only [goNames] at h
  cases h1 : of (look a t) (look b t) with
  | error e' =>
   rw [h1] at h
   cases h
  | ok m =>
   rw [h1] at h
   cases m with
   | none =>
    obtain ⟨hR, hn, hy⟩ := names_ok of a b r out R h ho
    refine ⟨hR, fun s hs => hn s (fun x => hs (List.mem_cons_of_mem _ x)), fun s hs => ?_⟩
    by_cases hm : s ∈ r
    ·exact hy s hm
    ·rcases List.mem_cons.1 hs with rfl | hs
     ·exact ⟨none, h1, by rw [hn s hm]; rfl⟩
     ·exact absurd hs hm
   | some z =>
    obtain ⟨hR, hn, hy⟩ := names_ok of a b r _ R h (set_rising _ _ _ ho)
    refine ⟨hR, fun s hs => ?_, fun s hs => ?_⟩
    ·rw [hn s (fun x => hs (List.mem_cons_of_mem _ x)), look_set, if_neg (fun x => hs (by rw [x]; simp))]
    ·by_cases hm : s ∈ r
     ·obtain ⟨m, h2, h3⟩ := hy s hm
      refine ⟨m, h2, ?_⟩
      rw [h3, look_set]
      by_cases e : s = t
      ·subst e
       rw [h1] at h2
       cases h2
       rfl
      ·rw [if_neg e]
     ·rcases List.mem_cons.1 hs with rfl | hs
      ·exact ⟨some z, h1, by rw [hn s hm, look_set, if_pos rfl]; rfl⟩
      ·exact absurd hs hm
theorem names_meet {of of' : Of α} (h0 : of none none = .ok none) {a b : List (Bs × α)} {l : List Bs} (hl : ∀ s, s ∈ l ↔ ¬ (look a s = none /\ look b s = none)) (ho : ∀ s ∈ l, of' (look a s) (look b s) = of (look a s) (look b s)) (ha : Rising a) (hb : Rising b) :
  (∃ R, goNames of' a b l [] = .ok R /\ meetP of a b = .ok R) ∨ ∃ e e' s, goNames of' a b l [] = .error e /\ meetP of a b = .error e' /\ of (look a s) (look b s) = .error e := by
 cases hm : meetP of a b with
 | ok R' =>
  have hm2 := meet_look h0 _ _ _ R' (Nat.le_refl _) hm ha hb
  have hR' : Rising R' := meet_rising _ _ _ R' hm ha hb
  cases hg : goNames of' a b l [] with
  | ok R =>
   obtain ⟨hR, hn, hy⟩ := names_ok of' a b l [] R hg List.Pairwise.nil
   refine Or.inl ⟨R, rfl, ?_⟩
   rw [look_ext R R' hR hR' fun s => ?_]
   by_cases hs : s ∈ l
   ·obtain ⟨m, h2, h3⟩ := hy s hs
    rw [ho s hs, hm2 s] at h2
    rw [h3, <- Except.ok.inj h2]
    show (look R' s).or none = _
    cases look R' s <;> rfl
   ·rw [hn s hs]
    have hz : look a s = none /\ look b s = none := Classical.not_not.1 (fun x => hs ((hl s).2 x))
    have := hm2 s
    rw [hz.1, hz.2, h0] at this
    exact Except.ok.inj this
  | error e =>
   obtain ⟨s, hs, he⟩ := names_err _ _ _ _ _ _ hg
   rw [ho s hs, hm2 s] at he
   cases he
 | error e' =>
  obtain ⟨s, he⟩ := meet_err_look h0 _ _ _ e' hm ha hb
  have hs : s ∈ l := (hl s).2 fun x => by
   rw [x.1, x.2, h0] at he
   cases he
  cases hg : goNames of' a b l [] with
  | ok R =>
   obtain ⟨hR, hn, hy⟩ := names_ok of' a b l [] R hg List.Pairwise.nil
   obtain ⟨m, h2, h3⟩ := hy s hs
   rw [ho s hs, he] at h2
   cases h2
  | error e =>
   obtain ⟨t, ht, hte⟩ := names_err _ _ _ _ _ _ hg
   rw [ho t ht] at hte
   exact Or.inr ⟨e, e', t, rfl, rfl, hte⟩
end
theorem obj_of {n : Nat} {j : J (n + 1)} (h : isObjJ (n + 1) j = true) : ∃ fs, j = Sum.inr (Sum.inr fs) := by
 match j, h with
 | Sum.inr (Sum.inr fs), _ => exact ⟨fs, rfl⟩
def sameO {n : Nat} (was : Option (J n)) (t : J n) : Bool :=
 match was with
 | none => false
 | some w => decide (tell n w = tell n t)
def ofDz {n : Nat} (z : Option (J n)) (between : Option (J n) -> J n -> Except Nat (J n)) : Of (J n) := fun was next =>
 match next with
 | none => match was with
  | none => .ok z
  | some _ => .ok (some (leaf n none))
 | some t => if sameO was t then .ok none else if isNullJ n t then .error 9 else match between was t with
  | .error e => .error e
  | .ok c => .ok (some c)
def betweenP : (n : Nat) -> Option (J n) -> J n -> Except Nat (J n)
 | 0, _, b => .ok b
 | _ + 1, _, Sum.inl l => .ok (Sum.inl l)
 | _ + 1, _, Sum.inr (Sum.inl xs) => .ok (Sum.inr (Sum.inl xs))
 | n + 1, a, Sum.inr (Sum.inr fs) => objE (meetP (ofDz none (betweenP n)) (fieldsP a) fs)
theorem low_some {α : Type} (a b : List (Bs × α)) (h : a.length + b.length ≠ 0) : ¬ (takeV a (lowName a b) = none /\ takeV b (lowName a b) = none) := by
 rintro ⟨h1, h2⟩
 have hl := low_less a b h
 have ha : takeR a (lowName a b) = a := by
  cases a with
  | nil => rfl
  | cons f r =>
   simp only [takeV, takeR] at h1 ⊢
   split at h1
   ·cases h1
   ·rename_i e
    rw [if_neg e]
 have hb : takeR b (lowName a b) = b := by
  cases b with
  | nil => rfl
  | cons f r =>
   simp only [takeV, takeR] at h2 ⊢
   split at h2
   ·cases h2
   ·rename_i e
    rw [if_neg e]
 rw [ha, hb] at hl
 omega
theorem meetF_congr {α : Type} {of of' : Of α} (h : ∀ v u, ¬ (v = none /\ u = none) -> of v u = of' v u) : ∀ (k : Nat) (a b : List (Bs × α)), meetF of k a b = meetF of' k a b
 | 0, _, _ => rfl
 | k + 1, a, b => by
  simp only [meetF]
  split
  ·rfl
  ·rename_i hne
   rw [h _ _ (low_some a b hne), meetF_congr h k]
theorem ofD_congr {n : Nat} (z : Option (J n)) (g : Option (J n) -> J n -> Except Nat (J n)) (a b : List (Bs × J n)) : meetP (ofDz z g) a b = meetP (ofDz none g) a b := by
 refine meetF_congr (fun v u hn => ?_) _ _ _
 match v, u, hn with
 | none, none, hn => exact absurd ⟨rfl, rfl⟩ hn
 | some _, none, _ => rfl
 | none, some _, _ => rfl
 | some _, some _, _ => rfl
theorem between_flatP : ∀ {n : Nat} (a : Option (J n)) {j : J n}, isObjJ n j = false -> betweenP n a j = .ok j
 | 0, _, _, _ => rfl
 | _ + 1, _, Sum.inl _, _ => rfl
 | _ + 1, _, Sum.inr (Sum.inl _), _ => rfl
 | _ + 1, _, Sum.inr (Sum.inr _), h => by cases h
theorem between_obj {n : Nat} {a : Option (J (n + 1))} {fs : List (Bs × J n)} {c : J (n + 1)} (h : betweenP (n + 1) a (Sum.inr (Sum.inr fs)) = .ok c) : ∃ R, meetP (ofDz none (betweenP n)) (fieldsP a) fs = .ok R /\ c = Sum.inr (Sum.inr R) := by
 have h' : objE (meetP (ofDz none (betweenP n)) (fieldsP a) fs) = .ok c := h
 cases hm : meetP (ofDz none (betweenP n)) (fieldsP a) fs with
 | error e => rw [hm] at h'; cases h'
 | ok R =>
  rw [hm] at h'
  cases h'
  exact ⟨R, rfl, rfl⟩
theorem null_good (n : Nat) : Good n (leaf n none) := by cases n <;> trivial
theorem null_wgt (n : Nat) : wgt n (leaf n none) <= 9 := by cases n <;> exact Nat.le_refl 9
theorem between_good : ∀ (n : Nat) (a : Option (J n)) (b c : J n), (∀ x, a = some x -> Good n x) -> Good n b -> betweenP n a b = .ok c -> Good n c
 | 0, _, b, c, _, hb, h => by cases h; exact hb
 | n + 1, a, b, c, ha, hb, h => by
  cases hj : isObjJ (n + 1) b with
  | false =>
   rw [between_flatP a hj] at h
   cases h
   exact hb
  | true =>
   obtain ⟨fs, rfl⟩ := obj_of hj
   obtain ⟨R, hR, rfl⟩ := between_obj h
   refine good_meet hR (good_fields ha) hb fun v u m hv hu hm => ?_
   match v, u, hv, hu, hm with
   | none, none, _, _, hm => cases hm
   | some _, none, _, _, hm => cases hm; exact null_good n
   | v, some t, hv, hu, hm =>
    simp only [ofDz] at hm
    split at hm
    ·cases hm
    ·split at hm
     ·cases hm
     ·cases hc : betweenP n v t with
      | error e => rw [hc] at hm; cases hm
      | ok c =>
       rw [hc] at hm
       cases hm
       exact between_good n v t _ hv (hu t rfl) hc
theorem between_err : ∀ (n : Nat) (a : Option (J n)) (b : J n) (e : Nat), betweenP n a b = .error e -> e = 9
 | 0, _, b, e, h => by cases h
 | n + 1, a, b, e, h => by
  cases hj : isObjJ (n + 1) b with
  | false =>
   rw [between_flatP a hj] at h
   cases h
  | true =>
   obtain ⟨fs, rfl⟩ := obj_of hj
   have h' : objE (meetP (ofDz none (betweenP n)) (fieldsP a) fs) = .error e := h
   cases hm : meetP (ofDz none (betweenP n)) (fieldsP a) fs with
   | ok R => rw [hm] at h'; cases h'
   | error e' =>
    rw [hm] at h'
    cases h'
    obtain ⟨v, u, ho⟩ := meet_err _ _ _ _ hm
    match v, u, ho with
    | none, none, ho => cases ho
    | some _, none, ho => cases ho
    | v, some t, ho =>
     simp only [ofDz] at ho
     split at ho
     ·cases ho
     ·split at ho
      ·cases ho; rfl
      ·cases hc : betweenP n v t with
       | ok c => rw [hc] at ho; cases ho
       | error e2 =>
        rw [hc] at ho
        cases ho
        exact between_err n v t _ hc
theorem sum_double {α : Type} (wt : α -> Nat) (fs : List (Bs × α)) : sumW (fun j => 2 * wt j) fs <= 2 * sumW wt fs := by
 have h := sum_le_map fs (fun f => (quote f.1).length + 2 + 2 * wt f.2) (fun f => 2 * ((quote f.1).length + 2 + wt f.2)) (fun f _ => by omega)
 rw [sum_mul_map fs (fun f => (quote f.1).length + 2 + wt f.2) 2] at h
 exact h
theorem meet_sum2 {α : Type} {of : Of α} {wt wt' : α -> Nat} (hw : ∀ v u m, of v u = .ok (some m) -> wt m <= wO wt' v + wO wt' u) : ∀ (k : Nat) (a b R : List (Bs × α)), meetF of k a b = .ok R -> sumW wt R <= sumW wt' a + sumW wt' b
 | 0, a, b, R, h => by
  cases h
  simp [sumW]
 | k + 1, a, b, R, h => by
  by_cases hne : a.length + b.length = 0
  ·simp only [meetF] at h
   rw [if_pos hne] at h
   cases h
   simp [sumW]
  ·obtain ⟨m, r, h1, h2, rfl⟩ := meetF_step h hne
   have ih := meet_sum2 hw k _ _ r h2
   have hm : sumW wt (withM (lowName a b) m r) <= wM wt (lowName a b) m + sumW wt r := by
    cases m with
    | none => simp [withM, wM]
    | some x => simp [withM, sumW, wM]
   have hx : ∀ x, m = some x -> wt x <= wO wt' (takeV a (lowName a b)) + wO wt' (takeV b (lowName a b)) := fun x e => hw _ _ _ (e ▸ h1)
   clear h1 h2 h hw
   generalize hnm : lowName a b = nm at *
   rcases sum_take wt' a nm with ⟨v, hv, e1⟩ | ⟨hv, e1⟩ <;> rcases sum_take wt' b nm with ⟨u, hu, e2⟩ | ⟨hu, e2⟩
   ·rw [hv, hu] at hx
    cases m with
    | none => simp only [wM] at hm; omega
    | some x => have := hx x rfl; simp only [wO] at this; simp only [wM] at hm; omega
   ·rw [hv, hu] at hx
    rw [e2] at ih
    cases m with
    | none => simp only [wM] at hm; omega
    | some x => have := hx x rfl; simp only [wO] at this; simp only [wM] at hm; omega
   ·rw [hv, hu] at hx
    rw [e1] at ih
    cases m with
    | none => simp only [wM] at hm; omega
    | some x => have := hx x rfl; simp only [wO] at this; simp only [wM] at hm; omega
   ·exfalso
    have := low_less a b hne
    rw [hnm, e1, e2] at this
    omega
theorem between_wgt : ∀ (n : Nat) (a : Option (J n)) (b c : J n), betweenP n a b = .ok c -> wgt n c <= 2 * wO (wgt n) a + 2 * wgt n b
 | 0, a, b, c, h => by cases h; omega
 | n + 1, a, b, c, h => by
  cases hj : isObjJ (n + 1) b with
  | false =>
   rw [between_flatP a hj] at h
   cases h
   omega
  | true =>
   obtain ⟨fs, rfl⟩ := obj_of hj
   obtain ⟨R, hR, rfl⟩ := between_obj h
   have h3 : sumW (wgt n) R <= sumW (fun j => 2 * wgt n j) (fieldsP a) + sumW (fun j => 2 * wgt n j) fs := by
    have hx := meet_sum2 (wt := wgt n) (wt' := fun j => 2 * wgt n j) (fun v u m hm => by
     match v, u, hm with
     | none, none, hm => cases hm
     | some x, none, hm =>
      cases hm
      have := null_wgt n
      have := wgt_five n x
      simp only [wO]
      omega
     | v, some t, hm =>
      simp only [ofDz] at hm
      split at hm
      ·cases hm
      ·split at hm
       ·cases hm
       ·cases hc : betweenP n v t with
        | error e => rw [hc] at hm; cases hm
        | ok c =>
         rw [hc] at hm
         cases hm
         have := between_wgt n v t _ hc
         cases v with
         | none => simp only [wO] at this ⊢; omega
         | some x => simp only [wO] at this ⊢; omega) _ _ _ _ hR
    exact hx
   have h4 := wgt_fields a
   have h5 := sum_double (wgt n) (fieldsP a)
   have h6 := sum_double (wgt n) fs
   show 5 + sumW (wgt n) R <= 2 * wO (wgt (n + 1)) a + 2 * (5 + sumW (wgt n) fs)
   omega
def insS (out : List Bs) (s : Bs) : List Bs := (out.takeWhile fun t => !less s t) ++ s :: (out.dropWhile fun t => !less s t)
def sortR (l : List Bs) : List Bs := l.foldl insS []
theorem insS_mem (out : List Bs) (s t : Bs) : t ∈ insS out s ↔ t = s ∨ t ∈ out := by
 unfold insS
 have h : out = (out.takeWhile fun t => !less s t) ++ (out.dropWhile fun t => !less s t) := (List.takeWhile_append_dropWhile).symm
 have h2 : t ∈ out ↔ t ∈ (out.takeWhile fun t => !less s t) ∨ t ∈ (out.dropWhile fun t => !less s t) := by
  rw [<- List.mem_append, <- h]
 rw [h2, List.mem_append, List.mem_cons]
 constructor
 ·rintro (h | h | h)
  ·exact Or.inr (Or.inl h)
  ·exact Or.inl h
  ·exact Or.inr (Or.inr h)
 ·rintro (h | h | h)
  ·exact Or.inr (Or.inl h)
  ·exact Or.inl h
  ·exact Or.inr (Or.inr h)
theorem fold_mem (t : Bs) : ∀ (l out : List Bs), t ∈ l.foldl insS out ↔ t ∈ l ∨ t ∈ out
 | [], out => by simp
 | s :: r, out => by
  rw [List.foldl_cons, fold_mem t r, insS_mem, List.mem_cons]
  constructor
  ·rintro (h | h | h)
   ·exact Or.inl (Or.inr h)
   ·exact Or.inl (Or.inl h)
   ·exact Or.inr h
  ·rintro ((h | h) | h)
   ·exact Or.inr (Or.inl h)
   ·exact Or.inl h
   ·exact Or.inr (Or.inr h)
theorem sortR_mem (l : List Bs) (t : Bs) : t ∈ sortR l ↔ t ∈ l := by
 unfold sortR
 rw [fold_mem]
 simp
theorem look_names {α : Type} (fs : List (Bs × α)) (s : Bs) : s ∈ fs.map (fun f => f.1) ↔ look fs s ≠ none := by
 induction fs with
 | nil => simp [look]
 | cons f r ih =>
  rw [List.map_cons, List.mem_cons, ih]
  simp only [look]
  by_cases e : f.1 = s
  ·rw [if_pos e]
   simp [e]
  ·rw [if_neg e]
   constructor
   ·rintro (h | h)
    ·exact absurd h.symm e
    ·exact h
   ·exact Or.inr
def plainP : (n : Nat) -> J n -> Bool
 | 0, _ => true
 | _ + 1, Sum.inl _ => true
 | _ + 1, Sum.inr (Sum.inl _) => true
 | n + 1, Sum.inr (Sum.inr fs) => fs.all fun f => !isNullJ n f.2 && plainP n f.2
theorem ofD_none {n : Nat} (g : Option (J n) -> J n -> Except Nat (J n)) : ofDz none g none none = .ok none := rfl
theorem meetD_err {n : Nat} {a fs : List (Bs × J n)} {e : Nat} (h : meetP (ofDz none (betweenP n)) a fs = .error e) : e = 9 := by
 refine between_err (n + 1) (some (Sum.inr (Sum.inr a))) (Sum.inr (Sum.inr fs)) e ?_
 show objE (meetP (ofDz none (betweenP n)) a fs) = .error e
 rw [h]
 rfl
theorem between_plain : ∀ (n : Nat) (b : J n), Good n b -> betweenP n none b = if plainP n b then .ok b else .error 9
 | 0, _, _ => rfl
 | _ + 1, Sum.inl _, _ => rfl
 | _ + 1, Sum.inr (Sum.inl _), _ => rfl
 | n + 1, Sum.inr (Sum.inr fs), hb => by
  have hV : Rising fs /\ ∀ f ∈ fs, (∀ c ∈ f.1, meant c = true) /\ Good n f.2 := hb
  show objE (meetP (ofDz none (betweenP n)) [] fs) = if (fs.all fun f => !isNullJ n f.2 && plainP n f.2) then .ok (Sum.inr (Sum.inr fs)) else .error 9
  have one : ∀ s t, look fs s = some t -> ofDz none (betweenP n) none (some t) = if (!isNullJ n t && plainP n t) then .ok (some t) else .error 9 := by
   intro s t ht
   have gt := (hV.2 _ (look_mem ht)).2
   simp only [ofDz, sameO]
   rw [between_plain n t gt]
   cases isNullJ n t <;> cases plainP n t <;> rfl
  cases hm : meetP (ofDz none (betweenP n)) [] fs with
  | ok R =>
   have hm2 := meet_look (ofD_none (betweenP n)) _ _ _ R (Nat.le_refl _) hm List.Pairwise.nil hV.1
   have hR : Rising R := meet_rising _ _ _ R hm List.Pairwise.nil hV.1
   have hall : ∀ s t, look fs s = some t -> (!isNullJ n t && plainP n t) = true /\ look R s = some t := by
    intro s t ht
    have h1 : ofDz none (betweenP n) none (look fs s) = .ok (look R s) := hm2 s
    rw [ht, one s t ht] at h1
    cases hp : (!isNullJ n t && plainP n t) with
    | true =>
     rw [hp] at h1
     exact ⟨rfl, (Except.ok.inj h1).symm⟩
    | false =>
     rw [hp] at h1
     cases h1
   rw [if_pos (List.all_eq_true.2 fun f hf => (hall f.1 f.2 (look_of_mem hV.1 hf)).1)]
   rw [look_ext R fs hR hV.1 fun s => ?_]
   ·rfl
   ·cases hs : look fs s with
    | some t => exact (hall s t hs).2
    | none =>
     have h1 : ofDz none (betweenP n) none (look fs s) = .ok (look R s) := hm2 s
     rw [hs] at h1
     exact (Except.ok.inj h1).symm
  | error e =>
   have he := meetD_err hm
   subst he
   obtain ⟨s, hs⟩ := meet_err_look (ofD_none (betweenP n)) _ _ _ _ hm List.Pairwise.nil hV.1
   have hs' : ofDz none (betweenP n) none (look fs s) = .error 9 := hs
   cases ht : look fs s with
   | none => rw [ht] at hs'; cases hs'
   | some t =>
    rw [ht, one s t ht] at hs'
    rw [if_neg]
    ·rfl
    ·intro h
     have := List.all_eq_true.1 h _ (look_mem ht)
     rw [if_pos this] at hs'
     cases hs'
def betweenR : (n : Nat) -> Option (J n) -> J n -> Except Nat (J n)
 | 0, _, b => .ok b
 | _ + 1, _, Sum.inl l => .ok (Sum.inl l)
 | _ + 1, _, Sum.inr (Sum.inl xs) => .ok (Sum.inr (Sum.inl xs))
 | n + 1, some (Sum.inr (Sum.inr fa)), Sum.inr (Sum.inr fs) => objE (goNames (ofDz (some (leaf n none)) (betweenR n)) fa fs (sortR (fa.map (fun f => f.1) ++ fs.map (fun f => f.1))) [])
 | n + 1, _, Sum.inr (Sum.inr fs) => if plainP (n + 1) (Sum.inr (Sum.inr fs)) then .ok (Sum.inr (Sum.inr fs)) else .error 9
theorem between_ref : ∀ (n : Nat) (a : Option (J n)) (b : J n), (∀ x, a = some x -> Good n x) -> Good n b -> betweenR n a b = betweenP n a b
 | 0, _, _, _, _ => rfl
 | _ + 1, _, Sum.inl _, _, _ => rfl
 | _ + 1, _, Sum.inr (Sum.inl _), _, _ => rfl
 | n + 1, none, Sum.inr (Sum.inr fs), _, hb => (between_plain (n + 1) (Sum.inr (Sum.inr fs)) hb).symm
 | n + 1, some (Sum.inl _), Sum.inr (Sum.inr fs), _, hb => (between_plain (n + 1) (Sum.inr (Sum.inr fs)) hb).symm
 | n + 1, some (Sum.inr (Sum.inl _)), Sum.inr (Sum.inr fs), _, hb => (between_plain (n + 1) (Sum.inr (Sum.inr fs)) hb).symm
 | n + 1, some (Sum.inr (Sum.inr fa)), Sum.inr (Sum.inr fs), ha, hb => by
  have hA : Rising fa /\ ∀ f ∈ fa, (∀ c ∈ f.1, meant c = true) /\ Good n f.2 := ha _ rfl
  have hB : Rising fs /\ ∀ f ∈ fs, (∀ c ∈ f.1, meant c = true) /\ Good n f.2 := hb
  show objE (goNames (ofDz (some (leaf n none)) (betweenR n)) fa fs (sortR (fa.map (fun f => f.1) ++ fs.map (fun f => f.1))) []) = objE (meetP (ofDz none (betweenP n)) fa fs)
  have hl : ∀ s, s ∈ sortR (fa.map (fun f => f.1) ++ fs.map (fun f => f.1)) ↔ ¬ (look fa s = none /\ look fs s = none) := by
   intro s
   rw [sortR_mem, List.mem_append, look_names, look_names, Classical.not_and_iff_not_or_not]
  have ho : ∀ s ∈ sortR (fa.map (fun f => f.1) ++ fs.map (fun f => f.1)), ofDz (some (leaf n none)) (betweenR n) (look fa s) (look fs s) = ofDz none (betweenP n) (look fa s) (look fs s) := by
   intro s hs
   have hn := (hl s).1 hs
   cases ht : look fs s with
   | none =>
    cases hw : look fa s with
    | none => exact absurd ⟨hw, ht⟩ hn
    | some w => rfl
   | some t =>
    simp only [ofDz]
    rw [between_ref n (look fa s) t (fun x hx => (hA.2 _ (look_mem hx)).2) (hB.2 _ (look_mem ht)).2]
  rcases names_meet (ofD_none (betweenP n)) hl ho hA.1 hB.1 with ⟨R, h1, h2⟩ | ⟨e, e', s, h1, h2, h3⟩
  ·rw [h1, h2]
  ·rw [h1, h2, meetD_err h2]
   have : e = 9 := by
    cases ht : look fs s with
    | none =>
     rw [ht] at h3
     cases hw : look fa s with
     | none => rw [hw] at h3; cases h3
     | some w => rw [hw] at h3; cases h3
    | some t =>
     rw [ht] at h3
     simp only [ofDz] at h3
     split at h3
     ·cases h3
     ·split at h3
      ·cases h3
       rfl
      ·cases hc : betweenP n (look fa s) t with
       | ok c => rw [hc] at h3; cases h3
       | error e2 =>
        rw [hc] at h3
        cases h3
        exact between_err n _ t _ hc
   rw [this]
end Go.Proofs.YtjcdklbimaclkaaGreatDoor
namespace Go.Proofs.YtjcdklbimaclkaaGreatDoor
open Go.RowKit
set_option linter.unusedVariables false
set_option linter.unusedSimpArgs false
theorem both_plain {n : Nat} {av : Nat -> Prop} {p q : J n} {pv qv : Value} {w : World} (hp : RSt av w n p pv) (hq : RSt av w n q qv) (hk : (headJ n q).k ≠ 6) (he : bothP n p q = .ok q) :
  Calls Tryz.prog 23 #[pv, qv] w (RAns av n (bothP n p q) w) := by
 obtain ⟨nm, l, rfl⟩ := rst_form hp
 obtain ⟨⟨p3, k3, c3, rfl⟩, p4, k4, c4, rfl⟩ := rst_sl hp
 obtain ⟨nm2, l2, rfl⟩ := rst_form hq
 obtain ⟨⟨p1, k1, c1, rfl⟩, p2, k2, c2, rfl⟩ := rst_sl hq
 refine (both_else (headJ n p) (headJ n q) hk p3 k3 c3 p4 k4 c4 p1 k1 c1 p2 k2 c2 w).mono ?_
 rintro e w' ⟨rfl, b⟩
 rw [he]
 exact ⟨b, _, rfl, hq.below b⟩
theorem both_mixed {n : Nat} {av : Nat -> Prop} {p q : J n} {pv qv : Value} {w : World} (hp : RSt av w n p pv) (hq : RSt av w n q qv) (hk : (headJ n p).k ≠ 6) (hk2 : headJ n q = ⟨6, false, 0, []⟩) (he : bothP n p q = .error 9) :
  Calls Tryz.prog 23 #[pv, qv] w (RAns av n (bothP n p q) w) := by
 obtain ⟨nm, l, rfl⟩ := rst_form hp
 obtain ⟨⟨p3, k3, c3, rfl⟩, p4, k4, c4, rfl⟩ := rst_sl hp
 obtain ⟨nm2, l2, rfl⟩ := rst_form hq
 obtain ⟨⟨p1, k1, c1, rfl⟩, p2, k2, c2, rfl⟩ := rst_sl hq
 rw [hk2]
 refine (both_mix (headJ n p) hk p3 k3 c3 p4 k4 c4 p1 k1 c1 p2 k2 c2 w).mono ?_
 rintro e w' ⟨rfl, b⟩
 rw [he]
 exact ⟨b, by decide, by decide, rfl⟩
theorem both_ok : ∀ n, RBothOK n
 | 0 => fun av p q pv qv w hav hp hq h1 h2 => both_plain hp hq (headL_six q) rfl
 | n + 1 => fun av p q pv qv w hav hp hq h1 h2 => by
  have ih := both_ok n
  match p, q, hp, hq, h1, h2 with
  | p, Sum.inl l, hp, hq, h1, h2 => exact both_plain hp hq (headL_six l) rfl
  | p, Sum.inr (Sum.inl xs), hp, hq, h1, h2 => exact both_plain hp hq (show (5 : Nat) ≠ 6 by decide) rfl
  | Sum.inl l, Sum.inr (Sum.inr fs), hp, hq, h1, h2 => exact both_mixed hp hq (headL_six l) rfl rfl
  | Sum.inr (Sum.inl xs), Sum.inr (Sum.inr fs), hp, hq, h1, h2 => exact both_mixed hp hq (show (5 : Nat) ≠ 6 by decide) rfl rfl
  | Sum.inr (Sum.inr ps), Sum.inr (Sum.inr qs), hp, hq, h1, h2 =>
   obtain ⟨nm, l, hv, g1, g2⟩ := hp.open
   obtain ⟨nm2, l2, hv2, g3, g4⟩ := hq.open
   subst hv hv2
   have hb := obj_bound h1
   have hb2 := obj_bound h2
   exact both_obj av n ih ps qs nm l nm2 l2 w hav g1 g2 g3 g4 hb.1 hb.2 hb2.1 hb2.2
def PlainOK (n : Nat) : Prop := ∀ (av : Nat -> Prop) (j : J n) (v : Value) (w : World), RSt av w n j v ->
 Calls Tryz.prog 39 #[v] w fun e w' => e = .returned (.bool (plainP n j)) /\ Below w.heap.size w w'
set_option maxRecDepth 100000 in
set_option maxHeartbeats 4000000 in
theorem plain_none (h : Hd) (pn : Option Addr) (cn : Nat) (pl : Option Addr) (nl cl : Nat) (w : World) :
  Calls Tryz.prog 39 #[rfV h (.slice pn 0 cn) (.slice pl nl cl)] w fun e w' => e = .returned (.bool true) /\ Below w.heap.size w w' := by
 unfold rfV
 obtain ⟨w0, hw0⟩ : ∃ w0, w0 = w.alloc (.cells #[.int .i64 h.k, .bool h.b, .int .i64 h.i, .string ⟨h.s.toArray⟩, .slice pn 0 cn, .slice pl nl cl] 38) := ⟨_, rfl⟩
 have HW0 : Hid (w0 = w.alloc (.cells #[.int .i64 h.k, .bool h.b, .int .i64 h.i, .string ⟨h.s.toArray⟩, .slice pn 0 cn, .slice pl nl cl] 38)) := hw0
 have HB0 : Hid (Below w.heap.size w w0) := by show Below _ _ _; rw [hw0]; exact (Below.refl _ _).alloc (Nat.le_refl _) _
 clear hw0
 go_enter Tryz.func39, Tryz.ntmps39
 go_wp2
 rw [<- HW0.out]
 go_loopw [7] (fun i wr => i = .int .i64 0 /\ Below w.heap.size w wr) (fun i _ => 0)
 case atStart => exact ⟨rfl, HB0.out⟩
 case round =>
  obtain ⟨rfl, hB⟩ := hrel
  have HB : Hid (Below w.heap.size w wr) := hB
  clear hB HB0 HW0
  go_wp2_with fail
  go_ret
  exact ⟨rfl, HB.out⟩
set_option maxRecDepth 100000 in
set_option maxHeartbeats 4000000 in
theorem plain_obj (av : Nat -> Prop) (n : Nat) (ih : PlainOK n) (fs : List (Bs × J n)) (vn vl : Value) (w : World) (hN : RStrs av w (fs.map fun f => f.1) vn) (hL : RVals av w n (fs.map fun f => f.2) vl) :
  Calls Tryz.prog 39 #[rfV ⟨6, false, 0, []⟩ vn vl] w fun e w' => e = .returned (.bool (fs.all fun f => !isNullJ n f.2 && plainP n f.2)) /\ Below w.heap.size w w' := by
 obtain ⟨pn, cn, hvn, hn1, hn2, _⟩ := hN.form
 obtain ⟨pl, cl, hvl, hl1, hl2, hl3⟩ := hL.form
 rw [List.length_map] at hvn hn1 hvl hl1
 subst hvn hvl
 unfold maxLen at hn2 hl2
 have HL3 : Hid (∀ (i : Nat) (f : Bs × J n), fs[i]? = some f -> ∃ g nm' l', pl = some ⟨g, 0, none⟩ /\ g < w.heap.size /\ Six w g (i * 6) (headJ n f.2) nm' l' /\ RSt av w n f.2 (rfV (headJ n f.2) nm' l')) := fun i f h => hl3 i f.2 (by rw [List.getElem?_map, h]; rfl)
 have HIh : Hid (PlainOK n) := ih
 unfold rfV
 obtain ⟨w0, hw0⟩ : ∃ w0, w0 = w.alloc (.cells #[.int .i64 6, .bool false, .int .i64 0, .string ⟨#[]⟩, .slice pn fs.length cn, .slice pl fs.length cl] 38) := ⟨_, rfl⟩
 have HW0 : Hid (w0 = w.alloc (.cells #[.int .i64 6, .bool false, .int .i64 0, .string ⟨#[]⟩, .slice pn fs.length cn, .slice pl fs.length cl] 38)) := hw0
 have HV0 : Hid (Box w0 w.heap.size ⟨6, false, 0, []⟩ (.slice pn fs.length cn) (.slice pl fs.length cl)) := by show Box _ _ _ _ _; rw [hw0]; exact box_new w ⟨6, false, 0, []⟩ _ _
 have HB0 : Hid (Below w.heap.size w w0) := by show Below _ _ _; rw [hw0]; exact (Below.refl _ _).alloc (Nat.le_refl _) _
 obtain ⟨res, hres⟩ : ∃ res, res = (fs.all fun f => !isNullJ n f.2 && plainP n f.2) := ⟨_, rfl⟩
 have HRes0 : Hid (res = (fs.all fun f => !isNullJ n f.2 && plainP n f.2)) := hres
 rw [<- hres]
 clear hw0 hN hL hl3 ih hres
 go_enter Tryz.func39, Tryz.ntmps39
 go_wp2
 rw [<- HW0.out]
 go_loopw [7] (fun i wr => ∃ k : Nat, k <= fs.length /\ i = .int .i64 k /\ res = ((fs.drop k).all fun f => !isNullJ n f.2 && plainP n f.2) /\ Below w.heap.size w wr /\ Box wr w.heap.size ⟨6, false, 0, []⟩ (.slice pn fs.length cn) (.slice pl fs.length cl)) (fun i _ => fs.length - (intOf i).toNat)
 case atStart => exact ⟨0, Nat.zero_le _, rfl, HRes0.out, HB0.out, HV0.out⟩
 case round =>
  obtain ⟨k, hk, rfl, hA, hB, hV⟩ := hrel
  have HA : Hid (res = ((fs.drop k).all fun f => !isNullJ n f.2 && plainP n f.2)) := hA
  have HB : Hid (Below w.heap.size w wr) := hB
  have HV : Hid (Box wr w.heap.size ⟨6, false, 0, []⟩ (.slice pn fs.length cn) (.slice pl fs.length cl)) := hV
  have v5 := hV.c5
  clear hA hB hV HV0 HB0 HW0
  by_cases hlt : k < fs.length
  ·obtain ⟨f, hfk⟩ : ∃ f, fs[k]? = some f := ⟨fs[k], List.getElem?_eq_getElem hlt⟩
   obtain ⟨ge, nm', l', rfl, hge, h6, hst⟩ := HL3.out k f hfk
   obtain ⟨⟨q1, m1, e1, rfl⟩, q2, m2, e2, rfl⟩ := rst_sl hst
   obtain ⟨x0, x1, x2, x3, x4, x5⟩ := h6.keep (HB.out.block ge hge)
   have hkI : (k : Int) < (fs.length : Int) := by omega
   have hnul := null_head n f.2
   have HAk : Hid (res = ((!isNullJ n f.2 && plainP n f.2) && ((fs.drop (k + 1)).all fun f => !isNullJ n f.2 && plainP n f.2))) := by
    show res = _
    rw [HA.out, drop_at hfk]
    rfl
   have HCall : Hid (Calls Tryz.prog 39 #[rfV (headJ n f.2) (.slice q1 m1 e1) (.slice q2 m2 e2)] wr fun e w' => e = .returned (.bool (plainP n f.2)) /\ Below wr.heap.size wr w') := HIh.out av f.2 _ wr (hst.below HB.out)
   unfold rfV at HCall
   clear h6 hst hfk
   cases hnull : isNullJ n f.2 with
   | true =>
    rw [hnull] at hnul HAk
    have hz : (((headJ n f.2).k : Int) == 1) = true := by
     have := of_decide_eq_true hnul.symm
     rw [this]
     rfl
    have HR : Hid (res = false) := HAk.out
    clear hnul
    go_wp2_with fail
    go_ret
    exact ⟨by rw [HR.out]; rfl, HB.out⟩
   | false =>
    rw [hnull] at hnul HAk
    have hz : (((headJ n f.2).k : Int) == 1) = false := by
     have := of_decide_eq_false hnul.symm
     rw [beq_eq_false_iff_ne]
     omega
    clear hnul
    go_wp2_with fail
    refine Calls.mono HCall.out ?_
    rintro e w3 ⟨rfl, b3⟩
    have HB3 : Hid (Below w.heap.size w w3) := HB.out.trans (b3.mono HB.out.size)
    have HV3 : Hid (Box w3 w.heap.size ⟨6, false, 0, []⟩ (.slice pn fs.length cn) (.slice (some ⟨ge, 0, none⟩) fs.length cl)) := HV.out.below b3
    clear b3 HCall
    cases hp : plainP n f.2 with
    | true =>
     rw [hp] at HAk
     have HR : Hid (res = ((fs.drop (k + 1)).all fun f => !isNullJ n f.2 && plainP n f.2)) := by
      show res = _
      rw [HAk.out]
      simp
     go_wp2_with fail
     go_roundw
     case rel =>
      have hrelN : ∃ k' : Nat, k' <= fs.length /\ (.int .i64 ((k : Int) + 1) : Value) = .int .i64 k' /\ res = ((fs.drop k').all fun f => !isNullJ n f.2 && plainP n f.2) /\ Below w.heap.size w w3 /\ Box w3 w.heap.size ⟨6, false, 0, []⟩ (.slice pn fs.length cn) (.slice (some ⟨ge, 0, none⟩) fs.length cl) := ⟨k + 1, by omega, by go_num, HR.out, HB3.out, HV3.out⟩
      first | exact hrelN | ((repeat apply Exists.intro); refine ⟨hrelN, ?_⟩; first | rfl | exact ⟨rfl, rfl⟩ | exact ⟨rfl, rfl, rfl⟩ | exact ⟨rfl, rfl, rfl, rfl⟩)
     case measure => (simp [intOf]; omega)
    | false =>
     rw [hp] at HAk
     have HR : Hid (res = false) := by
      show res = _
      rw [HAk.out]
      simp
     go_wp2_with fail
     go_ret
     exact ⟨by rw [HR.out]; rfl, HB3.out⟩
  ·have HR : Hid (res = true) := by
    show res = _
    rw [HA.out, List.drop_eq_nil_of_le (by omega)]
    rfl
   go_wp2_with fail
   go_ret
   exact ⟨by rw [HR.out]; rfl, HB.out⟩
theorem plain_empty {n : Nat} {av : Nat -> Prop} {j : J n} {v : Value} {w : World} (hs : RSt av w n j v) (hn : ∀ p k c q l e, v = rfV (headJ n j) (.slice p k c) (.slice q l e) -> k = 0) :
  Calls Tryz.prog 39 #[v] w fun e w' => e = .returned (.bool true) /\ Below w.heap.size w w' := by
 obtain ⟨nm, l, rfl⟩ := rst_form hs
 obtain ⟨⟨p1, k1, c1, rfl⟩, p2, k2, c2, rfl⟩ := rst_sl hs
 have := hn _ _ _ _ _ _ rfl
 subst this
 exact plain_none _ _ _ _ _ _ w
theorem plain_ok : ∀ n, PlainOK n
 | 0 => fun av j v w hs => plain_empty hs (fun p k c q l e hv => by
   have h1 : v = rfV (headL j) (.slice none 0 0) (.slice none 0 0) := hs
   rw [h1] at hv
   have := (rfV_inj hv).1
   cases this
   rfl)
 | n + 1 => fun av j v w hs => by
  have ih := plain_ok n
  match j, hs with
  | Sum.inl l, hs =>
   refine plain_empty hs (fun p k c q l' e hv => ?_)
   obtain ⟨nm, l2, h2, g1, _⟩ := hs.open
   rw [h2] at hv
   obtain ⟨p', c', h3, _⟩ := g1.form
   have h4 := (rfV_inj hv).1
   rw [h3] at h4
   cases h4
   rfl
  | Sum.inr (Sum.inl xs), hs =>
   refine plain_empty hs (fun p k c q l' e hv => ?_)
   obtain ⟨nm, l2, h2, g1, _⟩ := hs.open
   rw [h2] at hv
   obtain ⟨p', c', h3, _⟩ := g1.form
   have h4 := (rfV_inj hv).1
   rw [h3] at h4
   cases h4
   rfl
  | Sum.inr (Sum.inr fs), hs =>
   obtain ⟨nm, l2, h2, g1, g2⟩ := hs.open
   subst h2
   exact plain_obj av n ih fs nm l2 w g1 g2
def TSl (w : World) (L : List Bs) (v : Value) : Prop :=
 (v = .slice none 0 0 /\ L = []) ∨ ∃ g o cap, v = .slice (some ⟨g, o, none⟩) L.length cap /\ ∀ (i : Nat) (s : Bs), L[i]? = some s -> g < w.heap.size /\ w.cell? ⟨g, o + i, none⟩ = some (.string ⟨s.toArray⟩)
theorem TSl.below {w w' : World} {L : List Bs} {v : Value} (h : TSl w L v) (b : Below w.heap.size w w') : TSl w' L v := by
 rcases h with h | ⟨g, o, cap, hv, hc⟩
 ·exact Or.inl h
 ·refine Or.inr ⟨g, o, cap, hv, fun i s hi => ?_⟩
  obtain ⟨h1, h2⟩ := hc i s hi
  exact ⟨Nat.lt_of_lt_of_le h1 b.size, by rw [b.cell (p := ⟨g, o + i, none⟩) h1]; exact h2⟩
theorem RStrs.tsl {av : Nat -> Prop} {w : World} {L : List Bs} {v : Value} (h : RStrs av w L v) : TSl w L v := by
 rcases h with ⟨h1, h2⟩ | ⟨g, cap, hv, _, _, _, hlt, hc⟩
 ·exact Or.inl ⟨h2, h1⟩
 ·exact Or.inr ⟨g, 0, cap, hv, fun i s hi => ⟨hlt, by rw [Nat.zero_add]; exact hc i s hi⟩⟩
theorem OwnT.tsl {N : Nat} {w : World} {L : List Bs} {v : Value} (h : OwnT N w L v) : TSl w L v := (h.strs (av := fun _ => False) (fun _ _ e => e)).tsl
theorem texts_get {L : List Bs} {j : Nat} {u : Value} (h : (L.map fun s => Value.string ⟨s.toArray⟩)[j]? = some u) : ∃ s, L[j]? = some s /\ u = .string ⟨s.toArray⟩ := by
 rw [List.getElem?_map] at h
 obtain ⟨s, h1, h2⟩ := Option.map_eq_some_iff.1 h
 exact ⟨s, h1, h2.symm⟩
theorem texts_one (L : List Bs) : ∀ u ∈ (L.map fun s => Value.string ⟨s.toArray⟩), u.oneCell' = true := fun u hu => by
 obtain ⟨s, _, rfl⟩ := List.mem_map.1 hu
 rfl
theorem texts_news {w : World} {L : List Bs} {g o : Nat} (h : ∀ (i : Nat) (s : Bs), L[i]? = some s -> g < w.heap.size /\ w.cell? ⟨g, o + i, none⟩ = some (.string ⟨s.toArray⟩)) : ∀ j u, (L.map fun s => Value.string ⟨s.toArray⟩)[j]? = some u -> w.cell? ((⟨g, o, none⟩ : Addr).add j) = some u := fun j u hu => by
 obtain ⟨s, h1, rfl⟩ := texts_get hu
 rw [Addr.add_lit]
 exact (h j s h1).2
set_option maxRecDepth 100000 in
set_option maxHeartbeats 2000000 in
theorem rfcopy_any (L : List Bs) (v : Value) (w : World) (h : TSl w L v) (hl : L.length <= 1000000) :
  Calls Tryz.prog 41 #[v] w fun e w' => ∃ u, e = .returned u /\ OwnT w.heap.size w' L u /\ Below w.heap.size w w' := by
 obtain ⟨i0, hi, hz0, hz1, hz2⟩ := info_parts info_text
 have HN : Hid (w.ownsRow w.heap.size 9 1 (.slice none 0 0) 0 []) := World.ownsRow_nil _ _ _ _
 rcases h with ⟨rfl, rfl⟩ | ⟨g, o, cap, rfl, hc⟩
 ·go_enter Tryz.func41, Tryz.ntmps41
  go_wp2_with (at_builtin; refine wpList_append_own_none rfl _ _ 36 rfl w.heap.size 9 i0 1 Tryz.underlying36 hi _ _ _ rfl HN.out rfl ?_)
  go_ret
  exact ⟨_, rfl, OwnT.nil _ _, Below.refl _ _⟩
 ·have HW : Hid (∀ j u, (L.map fun s => Value.string ⟨s.toArray⟩)[j]? = some u -> w.cell? ((⟨g, o, none⟩ : Addr).add j) = some u) := texts_news hc
  have HLn : Hid ((L.map fun s => Value.string ⟨s.toArray⟩).length = L.length * 1) := by show _ = _; simp
  have H1 : Hid (∀ u ∈ (L.map fun s => Value.string ⟨s.toArray⟩), u.oneCell' = true) := texts_one L
  have HLd : Hid (L.map (fun s => Value.string ⟨s.toArray⟩) = L.map (fun s => Value.string ⟨s.toArray⟩)) := rfl
  generalize hnw : (L.map fun s => Value.string ⟨s.toArray⟩) = news at *
  clear hc
  go_enter Tryz.func41, Tryz.ntmps41
  go_wp2_with (at_builtin; refine wpList_append_own _ rfl _ _ 36 rfl w.heap.size 9 i0 (Value.string ⟨#[]⟩) 1 16 Tryz.underlying36 hi hz0 hz1 hz2 rfl (by decide) _ _ _ rfl HN.out ⟨g, o, none⟩ L.length cap news rfl HLn.out HW.out H1.out (by unfold maxLen; omega) (by omega) (Nat.le_refl _) ?_)
  intro v' w3 hown hgrow _
  have HO : Hid (OwnT w.heap.size w3 L v') := by
   show w3.ownsRow _ _ _ _ _ _
   rw [hnw]
   exact hown
  have HB : Hid (Below w.heap.size w w3) := (Below.refl _ _).grown hgrow (Nat.le_refl _) (fun k e => by simp [Value.ownBlock] at e)
  clear hown hgrow
  go_wp2_with fail
  go_ret
  exact ⟨_, rfl, HO.out, HB.out⟩
end Go.Proofs.YtjcdklbimaclkaaGreatDoor
