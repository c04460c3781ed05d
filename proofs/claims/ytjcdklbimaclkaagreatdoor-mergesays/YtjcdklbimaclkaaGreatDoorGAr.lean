import Derived.Test.YtjcdklbimaclkaaGreatDoorGAq
namespace Go.Proofs.YtjcdklbimaclkaaGreatDoor
open Go.RowKit
set_option linter.unusedVariables false
set_option linter.unusedSimpArgs false
def BLoop (av : Nat -> Prop) (w : World) (dh : Hd) (dn dl vn vl : Value) {n : Nat} (P : List (Bs × J n) -> Nat -> Prop) (L : List Bs) (vL i : Value) (wr : World) : Prop :=
 ∃ (k : Nat) (s : List (Bs × J n)) (un ul : Value), k <= L.length /\ i = .int .i64 k /\ P s k /\ s.length <= k /\ OwnT (w.heap.size + 4) wr L vL /\ IntoAt av w dh dn dl vn vl s un ul wr
theorem OwnT.belowR {N : Nat} {w w' : World} {L : List Bs} {v : Value} (h : OwnT N w L v) (b : Below w.heap.size w w') : OwnT N w' L v := h.kept (below_grownR b) (own_none v)
theorem OwnT.at {N : Nat} {w : World} {L : List Bs} {v : Value} (h : OwnT N w L v) {i : Nat} {s : Bs} (hi : L[i]? = some s) : ∃ g c, v = .slice (some ⟨g, 0, none⟩) L.length c /\ w.cell? ⟨g, i, none⟩ = some (.string ⟨s.toArray⟩) := by
 rcases (h.strs (av := fun _ => False) (fun _ _ e => e)) with ⟨e1, _⟩ | ⟨g, cap', hv, _, _, _, hlt', hcell⟩
 ·rw [e1] at hi; simp at hi
 ·exact ⟨g, cap', hv, hcell i s hi⟩
set_option maxRecDepth 100000 in
set_option maxHeartbeats 16000000 in
theorem bet_obj (av : Nat -> Prop) (n : Nat) (ih : BetOK n) (ps qs : List (Bs × J n)) (dn dl vn vl : Value) (w : World) (hav : ∀ c, w.heap.size <= c -> ¬ av c) (hD : RStrs av w (ps.map fun f => f.1) dn) (hE : RVals av w n (ps.map fun f => f.2) dl) (hN : RStrs av w (qs.map fun f => f.1) vn) (hL : RVals av w n (qs.map fun f => f.2) vl)
  (hdl : ps.length <= 1000) (hdm : ∀ f ∈ ps, Told20 n f.2) (hfl : qs.length <= 1000) (hfm : ∀ f ∈ qs, Told20 n f.2) :
  Calls Tryz.prog 21 #[rfV ⟨6, false, 0, []⟩ dn dl, rfV ⟨6, false, 0, []⟩ vn vl] w (RAns av (n + 1) (objE (goNames (ofDz (some (leaf n none)) (betweenR n)) ps qs (sortR (ps.map (fun f => f.1) ++ qs.map (fun f => f.1))) [])) w) := by
 have HTp : Hid (TSl w (ps.map fun f => f.1) dn) := hD.tsl
 have HTq : Hid (TSl w (qs.map fun f => f.1) vn) := hN.tsl
 obtain ⟨pd, cd, hdn, hd1, hd2, _⟩ := hD.form
 obtain ⟨pe, ce, hdlv, he1, he2, _⟩ := hE.form
 obtain ⟨pn, cn, hvn, hn1, hn2, _⟩ := hN.form
 obtain ⟨pl, cl, hvl, hl1, hl2, _⟩ := hL.form
 rw [List.length_map] at hdn hd1 hdlv he1 hvn hn1 hvl hl1
 subst hdn hdlv hvn hvl
 unfold maxLen at hd2 he2 hn2 hl2
 have HFd : Hid (∀ (nm : ByteArray) (w1 : World), Below w.heap.size w w1 -> Calls Tryz.prog 33 #[rfV ⟨6, false, 0, []⟩ (.slice pd ps.length cd) (.slice pe ps.length ce), .string nm] w1 fun e w' => Below w1.heap.size w1 w' /\ ∃ v b, e = .returned (.tuple #[v, .bool b]) /\ b = (findF ps nm.data.toList).isSome /\ ROpt (Loc av w.heap.size (w.heap.size + 4)) w1 n (findF ps nm.data.toList) v) := fun nm w1 b => rffind_at nm w1 ⟨hD.loc b, Or.inl ⟨rfl, hE.loc b⟩, ⟨_, _, _, rfl⟩⟩
 have HFq : Hid (∀ (nm : ByteArray) (w1 : World), Below w.heap.size w w1 -> Calls Tryz.prog 33 #[rfV ⟨6, false, 0, []⟩ (.slice pn qs.length cn) (.slice pl qs.length cl), .string nm] w1 fun e w' => Below w1.heap.size w1 w' /\ ∃ v b, e = .returned (.tuple #[v, .bool b]) /\ b = (findF qs nm.data.toList).isSome /\ ROpt (Loc av w.heap.size (w.heap.size + 4)) w1 n (findF qs nm.data.toList) v) := fun nm w1 b => rffind_at nm w1 ⟨hN.loc b, Or.inl ⟨rfl, hL.loc b⟩, ⟨_, _, _, rfl⟩⟩
 have HDm : Hid (∀ s x, findF ps s = some x -> Told20 n x) := fun s x h => by
  rw [find_look] at h
  exact hdm _ (look_mem h)
 have HQm : Hid (∀ s x, findF qs s = some x -> Told20 n x) := fun s x h => by
  rw [find_look] at h
  exact hfm _ (look_mem h)
 have HIh : Hid (BetOK n) := ih
 obtain ⟨L, hLe⟩ : ∃ L, L = sortR (ps.map (fun f => f.1) ++ qs.map (fun f => f.1)) := ⟨_, rfl⟩
 have hLl : L.length <= 2000 := by rw [hLe, sort_len, List.length_append, List.length_map, List.length_map]; omega
 have HLe : Hid (L = sortR (ps.map (fun f => f.1) ++ qs.map (fun f => f.1))) := hLe
 rw [<- hLe]
 obtain ⟨w0, hw0⟩ : ∃ w0, w0 = (((w.alloc (.cells #[.int .i64 6, .bool false, .int .i64 0, .string ⟨#[]⟩, (.slice pd ps.length cd), (.slice pe ps.length ce)] 38)).alloc (.cells #[.int .i64 6, .bool false, .int .i64 0, .string ⟨#[]⟩, (.slice pn qs.length cn), (.slice pl qs.length cl)] 38)).alloc (.cells #[.int .i64 0, .bool false, .int .i64 0, .string ⟨#[]⟩, .slice none 0 0, .slice none 0 0] 38)).alloc (.cells #[.int .i64 6, .bool false, .int .i64 0, .string ⟨#[]⟩, .slice none 0 0, .slice none 0 0] 38) := ⟨_, rfl⟩
 have HI0 : Hid (IntoAt av w ⟨6, false, 0, []⟩ (.slice pd ps.length cd) (.slice pe ps.length ce) (.slice pn qs.length cn) (.slice pl qs.length cl) ([] : List (Bs × J n)) (.slice none 0 0) (.slice none 0 0) w0) := by
  have x0 := ((box_new w ⟨6, false, 0, []⟩ (.slice pd ps.length cd) (.slice pe ps.length ce)).alloc (.cells #[.int .i64 6, .bool false, .int .i64 0, .string ⟨#[]⟩, (.slice pn qs.length cn), (.slice pl qs.length cl)] 38)).alloc (.cells #[.int .i64 0, .bool false, .int .i64 0, .string ⟨#[]⟩, .slice none 0 0, .slice none 0 0] 38) |>.alloc (.cells #[.int .i64 6, .bool false, .int .i64 0, .string ⟨#[]⟩, .slice none 0 0, .slice none 0 0] 38)
  have x1 := ((box_new (w.alloc (.cells #[.int .i64 6, .bool false, .int .i64 0, .string ⟨#[]⟩, (.slice pd ps.length cd), (.slice pe ps.length ce)] 38)) ⟨6, false, 0, []⟩ (.slice pn qs.length cn) (.slice pl qs.length cl)).alloc (.cells #[.int .i64 0, .bool false, .int .i64 0, .string ⟨#[]⟩, .slice none 0 0, .slice none 0 0] 38)).alloc (.cells #[.int .i64 6, .bool false, .int .i64 0, .string ⟨#[]⟩, .slice none 0 0, .slice none 0 0] 38)
  have x2 := (box_new ((w.alloc (.cells #[.int .i64 6, .bool false, .int .i64 0, .string ⟨#[]⟩, (.slice pd ps.length cd), (.slice pe ps.length ce)] 38)).alloc (.cells #[.int .i64 6, .bool false, .int .i64 0, .string ⟨#[]⟩, (.slice pn qs.length cn), (.slice pl qs.length cl)] 38)) ⟨0, false, 0, []⟩ (.slice none 0 0) (.slice none 0 0)).alloc (.cells #[.int .i64 6, .bool false, .int .i64 0, .string ⟨#[]⟩, .slice none 0 0, .slice none 0 0] 38)
  have x3 := box_new (((w.alloc (.cells #[.int .i64 6, .bool false, .int .i64 0, .string ⟨#[]⟩, (.slice pd ps.length cd), (.slice pe ps.length ce)] 38)).alloc (.cells #[.int .i64 6, .bool false, .int .i64 0, .string ⟨#[]⟩, (.slice pn qs.length cn), (.slice pl qs.length cl)] 38)).alloc (.cells #[.int .i64 0, .bool false, .int .i64 0, .string ⟨#[]⟩, .slice none 0 0, .slice none 0 0] 38)) ⟨6, false, 0, []⟩ (.slice none 0 0) (.slice none 0 0)
  show IntoAt _ _ _ _ _ _ _ _ _ _ _
  rw [hw0]
  refine ⟨⟨Or.inl ⟨rfl, rfl⟩, Or.inl ⟨rfl, rfl⟩, by simpa using x3, Or.inr ⟨by omega, by omega⟩, fun c hc e => by
   simp at hc
   rcases e with e | e
   ·exact hav c (by omega) e
   ·omega⟩, ?_, by simpa using x0, by simpa using x1, by simpa using x2⟩
  exact ((((Below.refl _ _).alloc (Nat.le_refl _) _).alloc (by simp) _).alloc (by simp; omega) _).alloc (by simp; omega) _
 have HSz : Hid (w.heap.size + 4 <= w0.heap.size) := by
  show _ <= _
  rw [hw0]
  simp
 have HW0 : Hid (w0 = (((w.alloc (.cells #[.int .i64 6, .bool false, .int .i64 0, .string ⟨#[]⟩, (.slice pd ps.length cd), (.slice pe ps.length ce)] 38)).alloc (.cells #[.int .i64 6, .bool false, .int .i64 0, .string ⟨#[]⟩, (.slice pn qs.length cn), (.slice pl qs.length cl)] 38)).alloc (.cells #[.int .i64 0, .bool false, .int .i64 0, .string ⟨#[]⟩, .slice none 0 0, .slice none 0 0] 38)).alloc (.cells #[.int .i64 6, .bool false, .int .i64 0, .string ⟨#[]⟩, .slice none 0 0, .slice none 0 0] 38)) := hw0
 clear hw0 hD hE hN hL hdm hfm ih hLe
 unfold rfV
 go_enter Tryz.func21, Tryz.ntmps21
 go_wp2_with fail
 rw [<- HW0.out]
 have hHeld : Below w0.heap.size w0 w0.drew := (Below.refl _ _).drew
 refine M_begin 9 9 (fun w' => Below w0.heap.size w0 w') (by kernel_rfl) rfl ?_
 refine N_take 0 (oi := { dst := some 28, op := Op.fieldAddr 38 (Operand.tmp 2) 4, type := 0, pos := "docs.go:61", after := #[], guard := none }) (v := ?vv1) rfl (by kernel_rfl) (by kernel_rfl) (by kernel_rfl) rfl (fun _ _ _ h => h) hHeld (Or.inl ⟨by rfl, ?hy1⟩) ?_
 case hy1 => (intro w' hSw; have hI := HI0.out.below hSw; have a4 := hI.d.c4; have b4 := hI.v.c4; go_simp; try (with_reducible rfl))
 try simp only [Act.put, List.setIfInBounds_toArray, List.set_cons_zero, List.set_cons_succ]
 refine N_take 1 (oi := { dst := some 29, op := Op.load 36 (Operand.tmp 28), type := 36, pos := "docs.go:61", after := #[{ on := 0, ground := Ground.data }], guard := none }) (v := ?vv2) rfl (by kernel_rfl) (by kernel_rfl) (by kernel_rfl) rfl (fun _ _ _ h => h) hHeld (Or.inl ⟨by rfl, ?hy2⟩) ?_
 case hy2 => (intro w' hSw; have hI := HI0.out.below hSw; have a4 := hI.d.c4; have b4 := hI.v.c4; go_simp; try (with_reducible rfl))
 try simp only [Act.put, List.setIfInBounds_toArray, List.set_cons_zero, List.set_cons_succ]
 refine N_take 3 (oi := { dst := some 31, op := Op.fieldAddr 38 (Operand.tmp 3) 4, type := 0, pos := "docs.go:61", after := #[], guard := none }) (v := ?vv3) rfl (by kernel_rfl) (by kernel_rfl) (by kernel_rfl) rfl (fun _ _ _ h => h) hHeld (Or.inl ⟨by rfl, ?hy3⟩) ?_
 case hy3 => (intro w' hSw; have hI := HI0.out.below hSw; have a4 := hI.d.c4; have b4 := hI.v.c4; go_simp; try (with_reducible rfl))
 try simp only [Act.put, List.setIfInBounds_toArray, List.set_cons_zero, List.set_cons_succ]
 refine N_take 4 (oi := { dst := some 32, op := Op.load 36 (Operand.tmp 31), type := 36, pos := "docs.go:61", after := #[{ on := 3, ground := Ground.data }], guard := none }) (v := ?vv4) rfl (by kernel_rfl) (by kernel_rfl) (by kernel_rfl) rfl (fun _ _ _ h => h) hHeld (Or.inl ⟨by rfl, ?hy4⟩) ?_
 case hy4 => (intro w' hSw; have hI := HI0.out.below hSw; have a4 := hI.d.c4; have b4 := hI.v.c4; go_simp; try (with_reducible rfl))
 try simp only [Act.put, List.setIfInBounds_toArray, List.set_cons_zero, List.set_cons_succ]
 refine N_take 8 (oi := { dst := some 36, op := Op.move (Operand.const (Value.int IntKind.i64 0)), type := 3, pos := "docs.go:61", after := #[], guard := none }) (v := ?vv5) rfl (by kernel_rfl) (by kernel_rfl) (by kernel_rfl) rfl (fun _ _ _ h => h) hHeld (Or.inl ⟨by rfl, ?hy5⟩) ?_
 case hy5 => (intro w' hSw; have hI := HI0.out.below hSw; have a4 := hI.d.c4; have b4 := hI.v.c4; go_simp; try (with_reducible rfl))
 try simp only [Act.put, List.setIfInBounds_toArray, List.set_cons_zero, List.set_cons_succ]
 refine M_ready [2] (by kernel_rfl) (by decide) ?_
 refine AllM.cons (i := 2) (o := { dst := some 30, op := Op.call { callee := Callee.value (Operand.func 41), args := #[Operand.tmp 29], argTypes := #[36] }, type := 36, pos := "docs.go:61", after := #[{ on := 1, ground := Ground.data }], guard := none }) rfl (fun K hK => ?_) AllM.nil
 rw [if_pos (by rfl)]
 go_wp2_with fail
 refine Calls.mono (rfcopy_any (ps.map fun f => f.1) _ _ ((HTp.out.below HI0.out.bel).below hHeld) (by rw [List.length_map]; omega)) ?_
 rintro e x1 ⟨u, rfl, hu, b1⟩
 dsimp only
 refine hK.out _ _ (hHeld.trans (b1.mono hHeld.size)) (fun hHeld => ?_)
 clear hK K
 try simp only [Act.put, List.setIfInBounds_toArray, List.set_cons_zero, List.set_cons_succ]
 refine M_ready [5] (by kernel_rfl) (by decide) ?_
 refine AllM.cons (i := 5) (o := { dst := some 33, op := Op.call { callee := Callee.builtin Builtin.append, args := #[Operand.tmp 30, Operand.tmp 32], argTypes := #[36, 36] }, type := 36, pos := "docs.go:61", after := #[{ on := 2, ground := Ground.data }, { on := 4, ground := Ground.data }, { on := 2, ground := Ground.chain }], guard := none }) rfl (fun K hK => ?_) AllM.nil
 rw [if_pos (by rfl)]
 have hU1 : OwnT w0.heap.size x1 (ps.map fun f => f.1) u := hu
 refine wp_append_rs (.tmp 30) (.tmp 32) rfl w0.heap.size (ps.map fun f => f.1) (qs.map fun f => f.1) u _ rfl hU1 rfl ((HTq.out.below HI0.out.bel).below hHeld) (by rw [List.length_map, List.length_map]; omega) hHeld.size ?_
 intro v2 x2 hown2 hgrow2
 have hH2 : Below w0.heap.size w0 x2 := hHeld.grown hgrow2 hHeld.size (fun k e => (OwnT.row hU1 k e).1)
 refine hK.out _ _ hH2 (fun hHeld => ?_)
 clear hK K
 try simp only [Act.put, List.setIfInBounds_toArray, List.set_cons_zero, List.set_cons_succ]
 refine M_ready [6] (by kernel_rfl) (by decide) ?_
 refine AllM.cons (i := 6) (o := { dst := some 34, op := Op.call { callee := Callee.value (Operand.func 40), args := #[Operand.tmp 33], argTypes := #[36] }, type := 36, pos := "docs.go:61", after := #[{ on := 5, ground := Ground.data }, { on := 5, ground := Ground.chain }], guard := none }) rfl (fun K hK => ?_) AllM.nil
 rw [if_pos (by rfl)]
 go_wp2_with fail
 refine Calls.mono (rfsort_any _ v2 x2 hown2.tsl (by rw [List.length_append, List.length_map, List.length_map]; omega)) ?_
 rintro e x3 ⟨vL, rfl, hL3, b3⟩
 rw [<- HLe.out] at hL3
 obtain ⟨pL, cL, rfl⟩ := OwnT.shape hL3
 dsimp only
 refine hK.out _ _ (hHeld.trans (b3.mono hHeld.size)) (fun hHeld => ?_)
 clear hK K
 try simp only [Act.put, List.setIfInBounds_toArray, List.set_cons_zero, List.set_cons_succ]
 refine N_take 7 (oi := { dst := some 35, op := Op.call { callee := Callee.builtin Builtin.len, args := #[Operand.tmp 34], argTypes := #[36] }, type := 3, pos := "docs.go:61", after := #[{ on := 6, ground := Ground.data }], guard := none }) (v := .int .i64 (L.length : Int)) rfl (by kernel_rfl) (by kernel_rfl) (by kernel_rfl) rfl (fun _ _ _ h => h) hHeld (Or.inl ⟨by rfl, ?hy6⟩) ?_
 case hy6 => (intro w' hSw; go_simp; try (with_reducible rfl))
 try simp only [Act.put, List.setIfInBounds_toArray, List.set_cons_zero, List.set_cons_succ]
 refine ⟨by kernel_rfl, ?_⟩
 have HI3 : Hid _ := HI0.out.below hHeld
 have HO3 : Hid (OwnT (w.heap.size + 4) x3 L (.slice pL L.length cL)) := OwnT.low hL3 (Nat.le_trans HSz.out (Nat.le_trans hH2.size (Nat.le_refl _)))
 clear hL3 b3 hHeld hown2 hgrow2 hU1 hu b1 hH2
 go_wp2_with fail
 go_loopw [36] (fun i wr => BLoop av w ⟨6, false, 0, []⟩ (.slice pd ps.length cd) (.slice pe ps.length ce) (.slice pn qs.length cn) (.slice pl qs.length cl) (fun s k => goNames (ofDz (some (leaf n none)) (betweenR n)) ps qs L [] = goNames (ofDz (some (leaf n none)) (betweenR n)) ps qs (L.drop k) s) L (.slice pL L.length cL) i wr) (fun i _ => L.length - (intOf i).toNat)
 case atStart => exact ⟨0, [], _, _, Nat.zero_le _, rfl, rfl, Nat.zero_le _, HO3.out, HI3.out⟩
 case round =>
  obtain ⟨k, s, un, ul, hk, rfl, hP, hsl, hO, hI⟩ := hrel
  obtain ⟨⟨pu, cu, rfl⟩, pq, cq, rfl⟩ := hI.out.shape
  have HP : Hid (goNames (ofDz (some (leaf n none)) (betweenR n)) ps qs L [] = goNames (ofDz (some (leaf n none)) (betweenR n)) ps qs (L.drop k) s) := hP
  have HI : Hid (IntoAt av w ⟨6, false, 0, []⟩ (.slice pd ps.length cd) (.slice pe ps.length ce) (.slice pn qs.length cn) (.slice pl qs.length cl) s (.slice pu s.length cu) (.slice pq s.length cq) wr) := hI
  have HO : Hid (OwnT (w.heap.size + 4) wr L (.slice pL L.length cL)) := hO
  clear hP hI hO HI0 HW0 HI3 HO3
  by_cases hlt : k < L.length
  ·obtain ⟨nm, hfk⟩ : ∃ nm, L[k]? = some nm := ⟨L[k], List.getElem?_eq_getElem hlt⟩
   obtain ⟨g, c9, hg9, hgc⟩ := HO.out.at hfk
   cases hg9
   obtain ⟨nb, hnb⟩ : ∃ nb : ByteArray, nb = ⟨nm.toArray⟩ := ⟨_, rfl⟩
   have hnl : nb.data.toList = nm := by rw [hnb]
   have n1 : wr.cell? ⟨g, k, none⟩ = some (.string nb) := by rw [hnb]; exact hgc
   have hkI : (k : Int) < (L.length : Int) := by omega
   have HCons : Hid (goNames (ofDz (some (leaf n none)) (betweenR n)) ps qs L [] = match (ofDz (some (leaf n none)) (betweenR n)) (findF ps nm) (findF qs nm) with
     | .error e => .error e
     | .ok none => goNames (ofDz (some (leaf n none)) (betweenR n)) ps qs (L.drop (k + 1)) s
     | .ok (some z) => goNames (ofDz (some (leaf n none)) (betweenR n)) ps qs (L.drop (k + 1)) (setF s nm z)) := by
    show _ = _
    rw [HP.out, drop_at hfk, find_look, find_look]
    simp only [goNames]
    rcases (ofDz (some (leaf n none)) (betweenR n)) (look ps nm) (look qs nm) with e | _ | z <;> rfl
   have HSet : Hid (∀ (W : World) (c : J n) (uv : Value), IntoAt av w ⟨6, false, 0, []⟩ (.slice pd ps.length cd) (.slice pe ps.length ce) (.slice pn qs.length cn) (.slice pl qs.length cl) s (.slice pu s.length cu) (.slice pq s.length cq) W -> RSt (Loc av w.heap.size (w.heap.size + 4)) W n c uv -> Calls Tryz.prog 34 #[rfV ⟨6, false, 0, []⟩ (.slice pu s.length cu) (.slice pq s.length cq), .string nb, uv] W (SetPost (Loc av w.heap.size (w.heap.size + 4)) s nm c W)) := fun W c uv hW hu => by
    have h9 := rfset_any (Loc av w.heap.size (w.heap.size + 4)) s nb c _ _ uv W hW.out.names hW.out.vals hu hW.out.free (by omega)
    rw [hnl] at h9
    exact h9
   have HF1 : Hid _ := HFd.out nb
   have HF2 : Hid _ := HFq.out nb
   rw [hnl] at HF1 HF2
   have d0 := HI.out.d.c0
   have d1 := HI.out.d.c1
   have d2 := HI.out.d.c2
   have d3 := HI.out.d.c3
   have d4 := HI.out.d.c4
   have d5 := HI.out.d.c5
   clear hgc hnb hfk
   unfold rfV at HF1 HF2 HSet
   go_wp2_with fail
   clear d0 d1 d2 d3 d4 d5 n1
   refine Calls.mono (HF1.out wr HI.out.bel) ?_
   rintro e w5 ⟨b5, v, b, rfl, hb, hv⟩
   obtain ⟨xh, p1, k1, c1, p2, k2, c2, rfl⟩ := hv.form
   have HB6 : Hid (Below wr.heap.size wr (w5.alloc (.cells #[.int .i64 xh.k, .bool xh.b, .int .i64 xh.i, .string ⟨xh.s.toArray⟩, .slice p1 k1 c1, .slice p2 k2 c2] 38))) := b5.alloc b5.size _
   have HX6 : Hid (Box (w5.alloc (.cells #[.int .i64 xh.k, .bool xh.b, .int .i64 xh.i, .string ⟨xh.s.toArray⟩, .slice p1 k1 c1, .slice p2 k2 c2] 38)) w5.heap.size xh (.slice p1 k1 c1) (.slice p2 k2 c2)) := box_new w5 xh _ _
   have HO6 : Hid (ROpt (Loc av w.heap.size (w.heap.size + 4)) (w5.alloc (.cells #[.int .i64 xh.k, .bool xh.b, .int .i64 xh.i, .string ⟨xh.s.toArray⟩, .slice p1 k1 c1, .slice p2 k2 c2] 38)) n (findF ps nm) (rfV xh (.slice p1 k1 c1) (.slice p2 k2 c2))) := hv.below HB6.out
   have HI6 : Hid _ := HI.out.below HB6.out
   have d0 := HI6.out.v.c0
   have d1 := HI6.out.v.c1
   have d2 := HI6.out.v.c2
   have d3 := HI6.out.v.c3
   have d4 := HI6.out.v.c4
   have d5 := HI6.out.v.c5
   clear hv b5
   unfold rfV
   go_wp2_with fail
   clear d0 d1 d2 d3 d4 d5
   generalize w5.heap.size = bx at *
   generalize w5.alloc (.cells #[.int .i64 xh.k, .bool xh.b, .int .i64 xh.i, .string ⟨xh.s.toArray⟩, .slice p1 k1 c1, .slice p2 k2 c2] 38) = w6 at *
   refine Calls.mono (HF2.out w6 HI6.out.bel) ?_
   rintro e w7 ⟨b7, v7, b', rfl, hb', hv7⟩
   obtain ⟨yh, p3, k3, c3, p4, k4, c4, rfl⟩ := hv7.form
   have HB8 : Hid (Below w6.heap.size w6 (w7.alloc (.cells #[.int .i64 yh.k, .bool yh.b, .int .i64 yh.i, .string ⟨yh.s.toArray⟩, .slice p3 k3 c3, .slice p4 k4 c4] 38))) := b7.alloc b7.size _
   have HY8 : Hid (Box (w7.alloc (.cells #[.int .i64 yh.k, .bool yh.b, .int .i64 yh.i, .string ⟨yh.s.toArray⟩, .slice p3 k3 c3, .slice p4 k4 c4] 38)) w7.heap.size yh (.slice p3 k3 c3) (.slice p4 k4 c4)) := box_new w7 yh _ _
   have HX8 : Hid (Box (w7.alloc (.cells #[.int .i64 yh.k, .bool yh.b, .int .i64 yh.i, .string ⟨yh.s.toArray⟩, .slice p3 k3 c3, .slice p4 k4 c4] 38)) bx xh (.slice p1 k1 c1) (.slice p2 k2 c2)) := HX6.out.below HB8.out
   have HO8 : Hid (ROpt (Loc av w.heap.size (w.heap.size + 4)) (w7.alloc (.cells #[.int .i64 yh.k, .bool yh.b, .int .i64 yh.i, .string ⟨yh.s.toArray⟩, .slice p3 k3 c3, .slice p4 k4 c4] 38)) n (findF ps nm) (rfV xh (.slice p1 k1 c1) (.slice p2 k2 c2))) := HO6.out.below HB8.out
   have HQ8 : Hid (ROpt (Loc av w.heap.size (w.heap.size + 4)) (w7.alloc (.cells #[.int .i64 yh.k, .bool yh.b, .int .i64 yh.i, .string ⟨yh.s.toArray⟩, .slice p3 k3 c3, .slice p4 k4 c4] 38)) n (findF qs nm) (rfV yh (.slice p3 k3 c3) (.slice p4 k4 c4))) := hv7.below HB8.out
   have HI8 : Hid _ := HI6.out.below HB8.out
   have HBr : Hid (Below wr.heap.size wr (w7.alloc (.cells #[.int .i64 yh.k, .bool yh.b, .int .i64 yh.i, .string ⟨yh.s.toArray⟩, .slice p3 k3 c3, .slice p4 k4 c4] 38))) := HB6.out.trans (HB8.out.mono HB6.out.size)
   have HOr : Hid (OwnT (w.heap.size + 4) (w7.alloc (.cells #[.int .i64 yh.k, .bool yh.b, .int .i64 yh.i, .string ⟨yh.s.toArray⟩, .slice p3 k3 c3, .slice p4 k4 c4] 38)) L (.slice (some ⟨g, 0, none⟩) L.length cL)) := HO.out.belowR HBr.out
   clear hv7 b7 HF1 HF2 HI6 HO6 HX6 HB6 HB8
   unfold rfV
   cases hfq : findF qs nm with
   | none =>
    rw [hfq] at hb' HCons
    subst hb'
    have HPn : Hid (goNames (ofDz (some (leaf n none)) (betweenR n)) ps qs L [] = goNames (ofDz (some (leaf n none)) (betweenR n)) ps qs (L.drop (k + 1)) (setF s nm (leaf n none))) := by
     show _ = _
     rw [HCons.out]
     cases findF ps nm <;> rfl
    have HSe : Hid _ := HSet.out _ (leaf n none) _ HI8.out (rst_leaf _ _ n none)
    have o0 := HI8.out.out.o.c0
    have o1 := HI8.out.out.o.c1
    have o2 := HI8.out.out.o.c2
    have o3 := HI8.out.out.o.c3
    have o4 := HI8.out.out.o.c4
    have o5 := HI8.out.out.o.c5
    go_wp2_with fail
    generalize w7.alloc (.cells #[.int .i64 yh.k, .bool yh.b, .int .i64 yh.i, .string ⟨yh.s.toArray⟩, .slice p3 k3 c3, .slice p4 k4 c4] 38) = w8 at *
    refine Calls.mono HSe.out ?_
    rintro e x2 ⟨b2, un2, ul2, rfl, hn2, hl2⟩
    obtain ⟨pu2, cu2, hpu, _⟩ := hn2.form
    obtain ⟨pq2, cq2, hpq, _⟩ := hl2.form
    rw [List.length_map] at hpu hpq
    subst hpu hpq
    unfold rfV
    have hIx := HI8.out.below b2
    have hOx := HOr.out.belowR b2
    have z0 := hIx.out.o.c0
    have z1 := hIx.out.o.c1
    have z2 := hIx.out.o.c2
    have z3 := hIx.out.o.c3
    have z4 := hIx.out.o.c4
    have z5 := hIx.out.o.c5
    have g0 := hIx.out.o.free 0
    have g1 := hIx.out.o.free 1
    have g2 := hIx.out.o.free 2
    have g3 := hIx.out.o.free 3
    have g4 := hIx.out.o.free 4
    have g5 := hIx.out.o.free 5
    have HPut : Hid _ := hIx.put hn2 hl2
    have HOp : Hid _ := OwnT.far hOx (put6_grown x2 (w.heap.size + 1 + 1 + 1) (.int .i64 6) (.bool false) (.int .i64 0) (.string ⟨#[]⟩) (.slice pu2 (setF s nm (leaf n none)).length cu2) (.slice pq2 (setF s nm (leaf n none)).length cq2)) (fun k e => by cases e; omega)
    have hsl2 := setF_len s nm (leaf n none)
    clear hIx hOx hn2 hl2 b2 o0 o1 o2 o3 o4 o5
    go_wp2_with fail
    go_roundw
    case rel =>
     have hrelN : BLoop av w ⟨6, false, 0, []⟩ (.slice pd ps.length cd) (.slice pe ps.length ce) (.slice pn qs.length cn) (.slice pl qs.length cl) (fun s k => goNames (ofDz (some (leaf n none)) (betweenR n)) ps qs L [] = goNames (ofDz (some (leaf n none)) (betweenR n)) ps qs (L.drop k) s) L (.slice (some ⟨g, 0, none⟩) L.length cL) (.int .i64 ((k : Int) + 1)) _ := ⟨k + 1, setF s nm (leaf n none), _, _, by omega, by go_num, HPn.out, by omega, HOp.out, HPut.out⟩
     first | exact hrelN | ((repeat apply Exists.intro); refine ⟨hrelN, ?_⟩; first | rfl | exact ⟨rfl, rfl⟩ | exact ⟨rfl, rfl, rfl⟩ | exact ⟨rfl, rfl, rfl, rfl⟩ | exact ⟨rfl, rfl, rfl, rfl, rfl⟩)
    case measure => (simp [intOf]; omega)
   | some y =>
    rw [hfq] at hb' HCons HQ8
    subst hb'
    have hty := HQm.out nm y hfq
    have hsy : RSt (Loc av w.heap.size (w.heap.size + 4)) (w7.alloc (.cells #[.int .i64 yh.k, .bool yh.b, .int .i64 yh.i, .string ⟨yh.s.toArray⟩, .slice p3 k3 c3, .slice p4 k4 c4] 38)) n y (rfV yh (.slice p3 k3 c3) (.slice p4 k4 c4)) := HQ8.out
    obtain ⟨nm8, l8, he8⟩ := rst_form hsy
    have hyh : yh.k = (headJ n y).k := by
     unfold rfV at he8
     injection he8 with he9
     have := congrArg Array.toList he9
     simp at this
     have h := this.1
     omega
    have hnul := null_head n y
    rw [<- hyh] at hnul
    have HSy : Hid (RSt (Loc av w.heap.size (w.heap.size + 4)) (w7.alloc (.cells #[.int .i64 yh.k, .bool yh.b, .int .i64 yh.i, .string ⟨yh.s.toArray⟩, .slice p3 k3 c3, .slice p4 k4 c4] 38)) n y (rfV yh (.slice p3 k3 c3) (.slice p4 k4 c4))) := hsy
    clear hfq HQ8 hsy he8 hyh
    have y0 := HY8.out.c0
    have y1 := HY8.out.c1
    have y2 := HY8.out.c2
    have y3 := HY8.out.c3
    have y4 := HY8.out.c4
    have y5 := HY8.out.c5
    cases hfp : findF ps nm with
    | none =>
     rw [hfp] at hb HCons HO8
     subst hb
     have HSo : Hid (sameO (none : Option (J n)) y = false) := rfl
     cases hnull : isNullJ n y with
     | true =>
      rw [hnull] at hnul
      have hz : ((yh.k : Int) == 1) = true := by
       have := of_decide_eq_true hnul.symm
       rw [this]
       rfl
      have HRes : Hid (goNames (ofDz (some (leaf n none)) (betweenR n)) ps qs L [] = .error 9) := by
       show _ = _
       rw [HCons.out]
       simp only [ofDz]
       rw [HSo.out, if_neg (by simp), hnull, if_pos rfl]
      have HZ : Hid (Box (w7.alloc (.cells #[.int .i64 yh.k, .bool yh.b, .int .i64 yh.i, .string ⟨yh.s.toArray⟩, .slice p3 k3 c3, .slice p4 k4 c4] 38)) (w.heap.size + 1 + 1) ⟨0, false, 0, []⟩ (.slice none 0 0) (.slice none 0 0)) := HI8.out.r
      have HIe : Hid _ := HI8.out
      clear hnul
      have f0 := HZ.out.free 0
      have f1 := HZ.out.free 1
      have f2 := HZ.out.free 2
      have f3 := HZ.out.free 3
      have f4 := HZ.out.free 4
      have f5 := HZ.out.free 5
      have z0 := HZ.out.c0
      have z1 := HZ.out.c1
      have z2 := HZ.out.c2
      have z3 := HZ.out.c3
      have z4 := HZ.out.c4
      have z5 := HZ.out.c5
      go_wp2_with fail
      generalize w7.alloc (.cells #[.int .i64 yh.k, .bool yh.b, .int .i64 yh.i, .string ⟨yh.s.toArray⟩, .slice p3 k3 c3, .slice p4 k4 c4] 38) = w8 at *
      have e6 : Box (put6 w8 (w.heap.size + 1 + 1) (.int .i64 0) (.bool false) (.int .i64 0) (.string ⟨#[]⟩) (.slice none 0 0) (.slice none 0 0)) (w.heap.size + 1 + 1) ⟨0, false, 0, []⟩ (.slice none 0 0) (.slice none 0 0) := put6_box HZ.out ⟨0, false, 0, []⟩ (.slice none 0 0) (.slice none 0 0)
      have g6 := put6_grown w8 (w.heap.size + 1 + 1) (.int .i64 0) (.bool false) (.int .i64 0) (.string ⟨#[]⟩) (.slice none 0 0) (.slice none 0 0)
      change bodyPost _ _ _ _ _ (put6 w8 (w.heap.size + 1 + 1) _ _ _ _ _ _)
      generalize put6 w8 (w.heap.size + 1 + 1) (.int .i64 0) (.bool false) (.int .i64 0) (.string ⟨#[]⟩) (.slice none 0 0) (.slice none 0 0) = W at *
      exact bodyPost_ret (v := .tuple #[rfV ⟨0, false, 0, []⟩ (.slice none 0 0) (.slice none 0 0), .int .i64 9]) (by simp [results, Tryz.results21, go_sem, rfV, e6.c0, e6.c1, e6.c2, e6.c3, e6.c4, e6.c5]) rfl ⟨HIe.out.bel.grown g6 HIe.out.bel.size (fun k e => by cases e; omega), by rw [HRes.out]; exact ⟨by decide, by decide, rfl⟩⟩
     | false =>
      rw [hnull] at hnul
      have hz : ((yh.k : Int) == 1) = false := by
       have := of_decide_eq_false hnul.symm
       rw [beq_eq_false_iff_ne]
       omega
      have HRec : Hid (Calls Tryz.prog 21 #[(.agg #[.int .i64 xh.k, .bool xh.b, .int .i64 xh.i, .string ⟨xh.s.toArray⟩, .slice p1 k1 c1, .slice p2 k2 c2]), (.agg #[.int .i64 yh.k, .bool yh.b, .int .i64 yh.i, .string ⟨yh.s.toArray⟩, .slice p3 k3 c3, .slice p4 k4 c4])] (w7.alloc (.cells #[.int .i64 yh.k, .bool yh.b, .int .i64 yh.i, .string ⟨yh.s.toArray⟩, .slice p3 k3 c3, .slice p4 k4 c4] 38)) (RAns (Loc av w.heap.size (w.heap.size + 4)) n (betweenR n none y) (w7.alloc (.cells #[.int .i64 yh.k, .bool yh.b, .int .i64 yh.i, .string ⟨yh.s.toArray⟩, .slice p3 k3 c3, .slice p4 k4 c4] 38)))) := HIh.out (Loc av w.heap.size (w.heap.size + 4)) none y _ _ (w7.alloc (.cells #[.int .i64 yh.k, .bool yh.b, .int .i64 yh.i, .string ⟨yh.s.toArray⟩, .slice p3 k3 c3, .slice p4 k4 c4] 38)) HI8.out.out.free HO8.out HSy.out (fun x h => by cases h) hty
      clear hnul
      have x0 := HX8.out.c0
      have x1 := HX8.out.c1
      have x2 := HX8.out.c2
      have x3 := HX8.out.c3
      have x4 := HX8.out.c4
      have x5 := HX8.out.c5
      go_wp2_with fail
      generalize w7.alloc (.cells #[.int .i64 yh.k, .bool yh.b, .int .i64 yh.i, .string ⟨yh.s.toArray⟩, .slice p3 k3 c3, .slice p4 k4 c4] 38) = w8 at *
      refine Calls.mono HRec.out ?_
      rintro e w9 ⟨b9, h9⟩
      have HI9 : Hid _ := HI8.out.below b9
      have HO9 : Hid _ := HOr.out.belowR b9
      clear b9 x0 x1 x2 x3 x4 x5 y0 y1 y2 y3 y4 y5
      cases hbo : betweenR n none y with
      | error er =>
       rw [hbo] at h9
       obtain ⟨her, her2, rfl⟩ := h9
       have hbe : ((er : Int) != 0) = true := by rw [bne_iff_ne]; omega
       have HRes : Hid (goNames (ofDz (some (leaf n none)) (betweenR n)) ps qs L [] = .error er) := by
        show _ = _
        rw [HCons.out]
        simp only [ofDz]
        rw [HSo.out, if_neg (by simp), hnull, if_neg (by simp), hbo]
       have HZ : Hid (Box (w9.alloc (.cells #[.int .i64 0, .bool false, .int .i64 0, .string ⟨#[]⟩, .slice none 0 0, .slice none 0 0] 38)) (w.heap.size + 1 + 1) ⟨0, false, 0, []⟩ (.slice none 0 0) (.slice none 0 0)) := HI9.out.r.alloc _
       have HIe : Hid _ := HI9.out.alloc (.cells #[.int .i64 0, .bool false, .int .i64 0, .string ⟨#[]⟩, .slice none 0 0, .slice none 0 0] 38)
       unfold rfV
       clear hbo
       have f0 := HZ.out.free 0
       have f1 := HZ.out.free 1
       have f2 := HZ.out.free 2
       have f3 := HZ.out.free 3
       have f4 := HZ.out.free 4
       have f5 := HZ.out.free 5
       have z0 := HZ.out.c0
       have z1 := HZ.out.c1
       have z2 := HZ.out.c2
       have z3 := HZ.out.c3
       have z4 := HZ.out.c4
       have z5 := HZ.out.c5
       go_wp2_with fail
       generalize w9.alloc (.cells #[.int .i64 0, .bool false, .int .i64 0, .string ⟨#[]⟩, .slice none 0 0, .slice none 0 0] 38) = w10 at *
       have e6 : Box (put6 w10 (w.heap.size + 1 + 1) (.int .i64 0) (.bool false) (.int .i64 0) (.string ⟨#[]⟩) (.slice none 0 0) (.slice none 0 0)) (w.heap.size + 1 + 1) ⟨0, false, 0, []⟩ (.slice none 0 0) (.slice none 0 0) := put6_box HZ.out ⟨0, false, 0, []⟩ (.slice none 0 0) (.slice none 0 0)
       have g6 := put6_grown w10 (w.heap.size + 1 + 1) (.int .i64 0) (.bool false) (.int .i64 0) (.string ⟨#[]⟩) (.slice none 0 0) (.slice none 0 0)
       change bodyPost _ _ _ _ _ (put6 w10 (w.heap.size + 1 + 1) _ _ _ _ _ _)
       generalize put6 w10 (w.heap.size + 1 + 1) (.int .i64 0) (.bool false) (.int .i64 0) (.string ⟨#[]⟩) (.slice none 0 0) (.slice none 0 0) = W at *
       exact bodyPost_ret (v := .tuple #[rfV ⟨0, false, 0, []⟩ (.slice none 0 0) (.slice none 0 0), .int .i64 er]) (by simp [results, Tryz.results21, go_sem, rfV, e6.c0, e6.c1, e6.c2, e6.c3, e6.c4, e6.c5]) rfl ⟨HIe.out.bel.grown g6 HIe.out.bel.size (fun k e => by cases e; omega), by rw [HRes.out]; exact ⟨her, her2, rfl⟩⟩
      | ok c =>
       rw [hbo] at h9
       obtain ⟨u, rfl, hu⟩ := h9
       obtain ⟨un1, ul1, rfl⟩ := rst_form hu
       obtain ⟨⟨r1, i1, j1, rfl⟩, r2, i2, j2, rfl⟩ := rst_sl hu
       have HPn : Hid (goNames (ofDz (some (leaf n none)) (betweenR n)) ps qs L [] = goNames (ofDz (some (leaf n none)) (betweenR n)) ps qs (L.drop (k + 1)) (setF s nm c)) := by
        show _ = _
        rw [HCons.out]
        simp only [ofDz]
        rw [HSo.out, if_neg (by simp), hnull, if_neg (by simp), hbo]
       have HIc : Hid _ := HI9.out.alloc (.cells #[.int .i64 (headJ n c).k, .bool (headJ n c).b, .int .i64 (headJ n c).i, .string ⟨(headJ n c).s.toArray⟩, .slice r1 i1 j1, .slice r2 i2 j2] 38)
       have HOc : Hid (OwnT (w.heap.size + 4) (w9.alloc (.cells #[.int .i64 (headJ n c).k, .bool (headJ n c).b, .int .i64 (headJ n c).i, .string ⟨(headJ n c).s.toArray⟩, .slice r1 i1 j1, .slice r2 i2 j2] 38)) L (.slice (some ⟨g, 0, none⟩) L.length cL)) := OwnT.alloc HO9.out _
       have HCb : Hid (Box (w9.alloc (.cells #[.int .i64 (headJ n c).k, .bool (headJ n c).b, .int .i64 (headJ n c).i, .string ⟨(headJ n c).s.toArray⟩, .slice r1 i1 j1, .slice r2 i2 j2] 38)) w9.heap.size (headJ n c) (.slice r1 i1 j1) (.slice r2 i2 j2)) := box_new w9 (headJ n c) _ _
       have HSe : Hid _ := HSet.out _ c _ HIc.out (RSt.alloc hu _)
       unfold rfV
       clear hbo hu
       have o0 := HIc.out.out.o.c0
       have o1 := HIc.out.out.o.c1
       have o2 := HIc.out.out.o.c2
       have o3 := HIc.out.out.o.c3
       have o4 := HIc.out.out.o.c4
       have o5 := HIc.out.out.o.c5
       have t0 := HCb.out.c0
       have t1 := HCb.out.c1
       have t2 := HCb.out.c2
       have t3 := HCb.out.c3
       have t4 := HCb.out.c4
       have t5 := HCb.out.c5
       go_wp2_with fail
       generalize w9.alloc (.cells #[.int .i64 (headJ n c).k, .bool (headJ n c).b, .int .i64 (headJ n c).i, .string ⟨(headJ n c).s.toArray⟩, .slice r1 i1 j1, .slice r2 i2 j2] 38) = w10 at *
       refine Calls.mono HSe.out ?_
       rintro e x2 ⟨b2, un2, ul2, rfl, hn2, hl2⟩
       obtain ⟨pu2, cu2, hpu, _⟩ := hn2.form
       obtain ⟨pq2, cq2, hpq, _⟩ := hl2.form
       rw [List.length_map] at hpu hpq
       subst hpu hpq
       unfold rfV
       have hIx := HIc.out.below b2
       have hOx := HOc.out.belowR b2
       have z0 := hIx.out.o.c0
       have z1 := hIx.out.o.c1
       have z2 := hIx.out.o.c2
       have z3 := hIx.out.o.c3
       have z4 := hIx.out.o.c4
       have z5 := hIx.out.o.c5
       have g0 := hIx.out.o.free 0
       have g1 := hIx.out.o.free 1
       have g2 := hIx.out.o.free 2
       have g3 := hIx.out.o.free 3
       have g4 := hIx.out.o.free 4
       have g5 := hIx.out.o.free 5
       have HPut : Hid _ := hIx.put hn2 hl2
       have HOp : Hid _ := OwnT.far hOx (put6_grown x2 (w.heap.size + 1 + 1 + 1) (.int .i64 6) (.bool false) (.int .i64 0) (.string ⟨#[]⟩) (.slice pu2 (setF s nm c).length cu2) (.slice pq2 (setF s nm c).length cq2)) (fun k e => by cases e; omega)
       have hsl2 := setF_len s nm c
       clear hIx hOx hn2 hl2 b2 o0 o1 o2 o3 o4 o5
       go_wp2_with fail
       go_roundw
       case rel =>
        have hrelN : BLoop av w ⟨6, false, 0, []⟩ (.slice pd ps.length cd) (.slice pe ps.length ce) (.slice pn qs.length cn) (.slice pl qs.length cl) (fun s k => goNames (ofDz (some (leaf n none)) (betweenR n)) ps qs L [] = goNames (ofDz (some (leaf n none)) (betweenR n)) ps qs (L.drop k) s) L (.slice (some ⟨g, 0, none⟩) L.length cL) (.int .i64 ((k : Int) + 1)) _ := ⟨k + 1, setF s nm c, _, _, by omega, by go_num, HPn.out, by omega, HOp.out, HPut.out⟩
        first | exact hrelN | ((repeat apply Exists.intro); refine ⟨hrelN, ?_⟩; first | rfl | exact ⟨rfl, rfl⟩ | exact ⟨rfl, rfl, rfl⟩ | exact ⟨rfl, rfl, rfl, rfl⟩ | exact ⟨rfl, rfl, rfl, rfl, rfl⟩)
       case measure => (simp [intOf]; omega)
    | some x =>
     rw [hfp] at hb HCons HO8
     subst hb
     have htx := HDm.out nm x hfp
     have HSr : Hid (sameO (some x) y = sameR n x y) := same_rel htx hty
     have HSC : Hid (Calls Tryz.prog 42 #[(.agg #[.int .i64 xh.k, .bool xh.b, .int .i64 xh.i, .string ⟨xh.s.toArray⟩, .slice p1 k1 c1, .slice p2 k2 c2]), (.agg #[.int .i64 yh.k, .bool yh.b, .int .i64 yh.i, .string ⟨yh.s.toArray⟩, .slice p3 k3 c3, .slice p4 k4 c4])] (w7.alloc (.cells #[.int .i64 yh.k, .bool yh.b, .int .i64 yh.i, .string ⟨yh.s.toArray⟩, .slice p3 k3 c3, .slice p4 k4 c4] 38)) fun e w' => e = .returned (.bool (sameR n x y)) /\ Below (w7.alloc (.cells #[.int .i64 yh.k, .bool yh.b, .int .i64 yh.i, .string ⟨yh.s.toArray⟩, .slice p3 k3 c3, .slice p4 k4 c4] 38)).heap.size (w7.alloc (.cells #[.int .i64 yh.k, .bool yh.b, .int .i64 yh.i, .string ⟨yh.s.toArray⟩, .slice p3 k3 c3, .slice p4 k4 c4] 38)) w') := rfsame_ok n (Loc av w.heap.size (w.heap.size + 4)) (Loc av w.heap.size (w.heap.size + 4)) x y _ _ _ HO8.out HSy.out
     cases hss : sameR n x y with
     | true =>
      rw [hss] at HSC HSr
      have HPn : Hid (goNames (ofDz (some (leaf n none)) (betweenR n)) ps qs L [] = goNames (ofDz (some (leaf n none)) (betweenR n)) ps qs (L.drop (k + 1)) s) := by
       show _ = _
       rw [HCons.out]
       simp only [ofDz]
       rw [HSr.out, if_pos rfl]
      have x0 := HX8.out.c0
      have x1 := HX8.out.c1
      have x2 := HX8.out.c2
      have x3 := HX8.out.c3
      have x4 := HX8.out.c4
      have x5 := HX8.out.c5
      go_wp2_with fail
      refine Calls.mono HSC.out ?_
      rintro e wS ⟨rfl, bS⟩
      have HIS : Hid _ := HI8.out.below bS
      have HOS : Hid _ := HOr.out.belowR bS
      clear bS HSC
      go_wp2_with fail
      go_roundw
      case rel =>
       have hrelN : BLoop av w ⟨6, false, 0, []⟩ (.slice pd ps.length cd) (.slice pe ps.length ce) (.slice pn qs.length cn) (.slice pl qs.length cl) (fun s k => goNames (ofDz (some (leaf n none)) (betweenR n)) ps qs L [] = goNames (ofDz (some (leaf n none)) (betweenR n)) ps qs (L.drop k) s) L (.slice (some ⟨g, 0, none⟩) L.length cL) (.int .i64 ((k : Int) + 1)) wS := ⟨k + 1, s, _, _, by omega, by go_num, HPn.out, by omega, HOS.out, HIS.out⟩
       first | exact hrelN | ((repeat apply Exists.intro); refine ⟨hrelN, ?_⟩; first | rfl | exact ⟨rfl, rfl⟩ | exact ⟨rfl, rfl, rfl⟩ | exact ⟨rfl, rfl, rfl, rfl⟩ | exact ⟨rfl, rfl, rfl, rfl, rfl⟩)
      case measure => (simp [intOf]; omega)
     | false =>
      rw [hss] at HSC HSr
      have HSo : Hid (sameO (some x) y = false) := HSr.out
      have x0 := HX8.out.c0
      have x1 := HX8.out.c1
      have x2 := HX8.out.c2
      have x3 := HX8.out.c3
      have x4 := HX8.out.c4
      have x5 := HX8.out.c5
      go_wp2_with fail
      refine Calls.mono HSC.out ?_
      rintro e wS ⟨rfl, bS⟩
      have HIS : Hid _ := HI8.out.below bS
      have HOS : Hid (OwnT (w.heap.size + 4) wS L (.slice (some ⟨g, 0, none⟩) L.length cL)) := HOr.out.belowR bS
      have HYS : Hid (Box wS w7.heap.size yh (.slice p3 k3 c3) (.slice p4 k4 c4)) := HY8.out.below bS
      have HXS : Hid (Box wS bx xh (.slice p1 k1 c1) (.slice p2 k2 c2)) := HX8.out.below bS
      have HSyS : Hid _ := RSt.below HSy.out bS
      have HOpS : Hid _ := ROpt.below (d := some x) HO8.out bS
      clear bS HSC y0 y1 y2 y3 y4 y5 x0 x1 x2 x3 x4 x5
      generalize w7.heap.size = byb at *
      cases hnull : isNullJ n y with
      | true =>
       rw [hnull] at hnul
       have hz : ((yh.k : Int) == 1) = true := by
        have := of_decide_eq_true hnul.symm
        rw [this]
        rfl
       have HRes : Hid (goNames (ofDz (some (leaf n none)) (betweenR n)) ps qs L [] = .error 9) := by
        show _ = _
        rw [HCons.out]
        simp only [ofDz]
        rw [HSo.out, if_neg (by simp), hnull, if_pos rfl]
       have HZ : Hid (Box (wS) (w.heap.size + 1 + 1) ⟨0, false, 0, []⟩ (.slice none 0 0) (.slice none 0 0)) := HIS.out.r
       have HIe : Hid _ := HIS.out
       clear hnul
       have f0 := HZ.out.free 0
       have f1 := HZ.out.free 1
       have f2 := HZ.out.free 2
       have f3 := HZ.out.free 3
       have f4 := HZ.out.free 4
       have f5 := HZ.out.free 5
       have z0 := HZ.out.c0
       have z1 := HZ.out.c1
       have z2 := HZ.out.c2
       have z3 := HZ.out.c3
       have z4 := HZ.out.c4
       have z5 := HZ.out.c5
       have y0 := HYS.out.c0
       have y1 := HYS.out.c1
       have y2 := HYS.out.c2
       have y3 := HYS.out.c3
       have y4 := HYS.out.c4
       have y5 := HYS.out.c5
       go_wp2_with fail
       have e6 : Box (put6 wS (w.heap.size + 1 + 1) (.int .i64 0) (.bool false) (.int .i64 0) (.string ⟨#[]⟩) (.slice none 0 0) (.slice none 0 0)) (w.heap.size + 1 + 1) ⟨0, false, 0, []⟩ (.slice none 0 0) (.slice none 0 0) := put6_box HZ.out ⟨0, false, 0, []⟩ (.slice none 0 0) (.slice none 0 0)
       have g6 := put6_grown wS (w.heap.size + 1 + 1) (.int .i64 0) (.bool false) (.int .i64 0) (.string ⟨#[]⟩) (.slice none 0 0) (.slice none 0 0)
       change bodyPost _ _ _ _ _ (put6 wS (w.heap.size + 1 + 1) _ _ _ _ _ _)
       generalize put6 wS (w.heap.size + 1 + 1) (.int .i64 0) (.bool false) (.int .i64 0) (.string ⟨#[]⟩) (.slice none 0 0) (.slice none 0 0) = W at *
       exact bodyPost_ret (v := .tuple #[rfV ⟨0, false, 0, []⟩ (.slice none 0 0) (.slice none 0 0), .int .i64 9]) (by simp [results, Tryz.results21, go_sem, rfV, e6.c0, e6.c1, e6.c2, e6.c3, e6.c4, e6.c5]) rfl ⟨HIe.out.bel.grown g6 HIe.out.bel.size (fun k e => by cases e; omega), by rw [HRes.out]; exact ⟨by decide, by decide, rfl⟩⟩
      | false =>
       rw [hnull] at hnul
       have hz : ((yh.k : Int) == 1) = false := by
        have := of_decide_eq_false hnul.symm
        rw [beq_eq_false_iff_ne]
        omega
       have HRec : Hid (Calls Tryz.prog 21 #[(.agg #[.int .i64 xh.k, .bool xh.b, .int .i64 xh.i, .string ⟨xh.s.toArray⟩, .slice p1 k1 c1, .slice p2 k2 c2]), (.agg #[.int .i64 yh.k, .bool yh.b, .int .i64 yh.i, .string ⟨yh.s.toArray⟩, .slice p3 k3 c3, .slice p4 k4 c4])] (wS) (RAns (Loc av w.heap.size (w.heap.size + 4)) n (betweenR n (some x) y) (wS))) := HIh.out (Loc av w.heap.size (w.heap.size + 4)) (some x) y _ _ (wS) HIS.out.out.free HOpS.out HSyS.out (fun x h => by cases h; exact htx) hty
       clear hnul
       have x0 := HXS.out.c0
       have x1 := HXS.out.c1
       have x2 := HXS.out.c2
       have x3 := HXS.out.c3
       have x4 := HXS.out.c4
       have x5 := HXS.out.c5
       have y0 := HYS.out.c0
       have y1 := HYS.out.c1
       have y2 := HYS.out.c2
       have y3 := HYS.out.c3
       have y4 := HYS.out.c4
       have y5 := HYS.out.c5
       go_wp2_with fail
       refine Calls.mono HRec.out ?_
       rintro e w9 ⟨b9, h9⟩
       have HI9 : Hid _ := HIS.out.below b9
       have HO9 : Hid _ := HOS.out.belowR b9
       clear b9 x0 x1 x2 x3 x4 x5 y0 y1 y2 y3 y4 y5
       cases hbo : betweenR n (some x) y with
       | error er =>
        rw [hbo] at h9
        obtain ⟨her, her2, rfl⟩ := h9
        have hbe : ((er : Int) != 0) = true := by rw [bne_iff_ne]; omega
        have HRes : Hid (goNames (ofDz (some (leaf n none)) (betweenR n)) ps qs L [] = .error er) := by
         show _ = _
         rw [HCons.out]
         simp only [ofDz]
         rw [HSo.out, if_neg (by simp), hnull, if_neg (by simp), hbo]
        have HZ : Hid (Box (w9.alloc (.cells #[.int .i64 0, .bool false, .int .i64 0, .string ⟨#[]⟩, .slice none 0 0, .slice none 0 0] 38)) (w.heap.size + 1 + 1) ⟨0, false, 0, []⟩ (.slice none 0 0) (.slice none 0 0)) := HI9.out.r.alloc _
        have HIe : Hid _ := HI9.out.alloc (.cells #[.int .i64 0, .bool false, .int .i64 0, .string ⟨#[]⟩, .slice none 0 0, .slice none 0 0] 38)
        unfold rfV
        clear hbo
        have f0 := HZ.out.free 0
        have f1 := HZ.out.free 1
        have f2 := HZ.out.free 2
        have f3 := HZ.out.free 3
        have f4 := HZ.out.free 4
        have f5 := HZ.out.free 5
        have z0 := HZ.out.c0
        have z1 := HZ.out.c1
        have z2 := HZ.out.c2
        have z3 := HZ.out.c3
        have z4 := HZ.out.c4
        have z5 := HZ.out.c5
        go_wp2_with fail
        generalize w9.alloc (.cells #[.int .i64 0, .bool false, .int .i64 0, .string ⟨#[]⟩, .slice none 0 0, .slice none 0 0] 38) = w10 at *
        have e6 : Box (put6 w10 (w.heap.size + 1 + 1) (.int .i64 0) (.bool false) (.int .i64 0) (.string ⟨#[]⟩) (.slice none 0 0) (.slice none 0 0)) (w.heap.size + 1 + 1) ⟨0, false, 0, []⟩ (.slice none 0 0) (.slice none 0 0) := put6_box HZ.out ⟨0, false, 0, []⟩ (.slice none 0 0) (.slice none 0 0)
        have g6 := put6_grown w10 (w.heap.size + 1 + 1) (.int .i64 0) (.bool false) (.int .i64 0) (.string ⟨#[]⟩) (.slice none 0 0) (.slice none 0 0)
        change bodyPost _ _ _ _ _ (put6 w10 (w.heap.size + 1 + 1) _ _ _ _ _ _)
        generalize put6 w10 (w.heap.size + 1 + 1) (.int .i64 0) (.bool false) (.int .i64 0) (.string ⟨#[]⟩) (.slice none 0 0) (.slice none 0 0) = W at *
        exact bodyPost_ret (v := .tuple #[rfV ⟨0, false, 0, []⟩ (.slice none 0 0) (.slice none 0 0), .int .i64 er]) (by simp [results, Tryz.results21, go_sem, rfV, e6.c0, e6.c1, e6.c2, e6.c3, e6.c4, e6.c5]) rfl ⟨HIe.out.bel.grown g6 HIe.out.bel.size (fun k e => by cases e; omega), by rw [HRes.out]; exact ⟨her, her2, rfl⟩⟩
       | ok c =>
        rw [hbo] at h9
        obtain ⟨u, rfl, hu⟩ := h9
        obtain ⟨un1, ul1, rfl⟩ := rst_form hu
        obtain ⟨⟨r1, i1, j1, rfl⟩, r2, i2, j2, rfl⟩ := rst_sl hu
        have HPn : Hid (goNames (ofDz (some (leaf n none)) (betweenR n)) ps qs L [] = goNames (ofDz (some (leaf n none)) (betweenR n)) ps qs (L.drop (k + 1)) (setF s nm c)) := by
         show _ = _
         rw [HCons.out]
         simp only [ofDz]
         rw [HSo.out, if_neg (by simp), hnull, if_neg (by simp), hbo]
        have HIc : Hid _ := HI9.out.alloc (.cells #[.int .i64 (headJ n c).k, .bool (headJ n c).b, .int .i64 (headJ n c).i, .string ⟨(headJ n c).s.toArray⟩, .slice r1 i1 j1, .slice r2 i2 j2] 38)
        have HOc : Hid (OwnT (w.heap.size + 4) (w9.alloc (.cells #[.int .i64 (headJ n c).k, .bool (headJ n c).b, .int .i64 (headJ n c).i, .string ⟨(headJ n c).s.toArray⟩, .slice r1 i1 j1, .slice r2 i2 j2] 38)) L (.slice (some ⟨g, 0, none⟩) L.length cL)) := OwnT.alloc HO9.out _
        have HCb : Hid (Box (w9.alloc (.cells #[.int .i64 (headJ n c).k, .bool (headJ n c).b, .int .i64 (headJ n c).i, .string ⟨(headJ n c).s.toArray⟩, .slice r1 i1 j1, .slice r2 i2 j2] 38)) w9.heap.size (headJ n c) (.slice r1 i1 j1) (.slice r2 i2 j2)) := box_new w9 (headJ n c) _ _
        have HSe : Hid _ := HSet.out _ c _ HIc.out (RSt.alloc hu _)
        unfold rfV
        clear hbo hu
        have o0 := HIc.out.out.o.c0
        have o1 := HIc.out.out.o.c1
        have o2 := HIc.out.out.o.c2
        have o3 := HIc.out.out.o.c3
        have o4 := HIc.out.out.o.c4
        have o5 := HIc.out.out.o.c5
        have t0 := HCb.out.c0
        have t1 := HCb.out.c1
        have t2 := HCb.out.c2
        have t3 := HCb.out.c3
        have t4 := HCb.out.c4
        have t5 := HCb.out.c5
        go_wp2_with fail
        generalize w9.alloc (.cells #[.int .i64 (headJ n c).k, .bool (headJ n c).b, .int .i64 (headJ n c).i, .string ⟨(headJ n c).s.toArray⟩, .slice r1 i1 j1, .slice r2 i2 j2] 38) = w10 at *
        refine Calls.mono HSe.out ?_
        rintro e x2 ⟨b2, un2, ul2, rfl, hn2, hl2⟩
        obtain ⟨pu2, cu2, hpu, _⟩ := hn2.form
        obtain ⟨pq2, cq2, hpq, _⟩ := hl2.form
        rw [List.length_map] at hpu hpq
        subst hpu hpq
        unfold rfV
        have hIx := HIc.out.below b2
        have hOx := HOc.out.belowR b2
        have z0 := hIx.out.o.c0
        have z1 := hIx.out.o.c1
        have z2 := hIx.out.o.c2
        have z3 := hIx.out.o.c3
        have z4 := hIx.out.o.c4
        have z5 := hIx.out.o.c5
        have g0 := hIx.out.o.free 0
        have g1 := hIx.out.o.free 1
        have g2 := hIx.out.o.free 2
        have g3 := hIx.out.o.free 3
        have g4 := hIx.out.o.free 4
        have g5 := hIx.out.o.free 5
        have HPut : Hid _ := hIx.put hn2 hl2
        have HOp : Hid _ := OwnT.far hOx (put6_grown x2 (w.heap.size + 1 + 1 + 1) (.int .i64 6) (.bool false) (.int .i64 0) (.string ⟨#[]⟩) (.slice pu2 (setF s nm c).length cu2) (.slice pq2 (setF s nm c).length cq2)) (fun k e => by cases e; omega)
        have hsl2 := setF_len s nm c
        clear hIx hOx hn2 hl2 b2 o0 o1 o2 o3 o4 o5
        go_wp2_with fail
        go_roundw
        case rel =>
         have hrelN : BLoop av w ⟨6, false, 0, []⟩ (.slice pd ps.length cd) (.slice pe ps.length ce) (.slice pn qs.length cn) (.slice pl qs.length cl) (fun s k => goNames (ofDz (some (leaf n none)) (betweenR n)) ps qs L [] = goNames (ofDz (some (leaf n none)) (betweenR n)) ps qs (L.drop k) s) L (.slice (some ⟨g, 0, none⟩) L.length cL) (.int .i64 ((k : Int) + 1)) _ := ⟨k + 1, setF s nm c, _, _, by omega, by go_num, HPn.out, by omega, HOp.out, HPut.out⟩
         first | exact hrelN | ((repeat apply Exists.intro); refine ⟨hrelN, ?_⟩; first | rfl | exact ⟨rfl, rfl⟩ | exact ⟨rfl, rfl, rfl⟩ | exact ⟨rfl, rfl, rfl, rfl⟩ | exact ⟨rfl, rfl, rfl, rfl, rfl⟩)
        case measure => (simp [intOf]; omega)
  ·have HRes : Hid (goNames (ofDz (some (leaf n none)) (betweenR n)) ps qs L [] = .ok s) := by
    show _ = _
    rw [HP.out, List.drop_eq_nil_of_le (by omega)]
    rfl
   have HZ : Hid (Box wr (w.heap.size + 1 + 1) ⟨0, false, 0, []⟩ (.slice none 0 0) (.slice none 0 0)) := HI.out.r
   have HO' : Hid (Box wr (w.heap.size + 1 + 1 + 1) ⟨6, false, 0, []⟩ (.slice pu s.length cu) (.slice pq s.length cq)) := HI.out.out.o
   have o0 := HO'.out.c0
   have o1 := HO'.out.c1
   have o2 := HO'.out.c2
   have o3 := HO'.out.c3
   have o4 := HO'.out.c4
   have o5 := HO'.out.c5
   have f0 := HZ.out.free 0
   have f1 := HZ.out.free 1
   have f2 := HZ.out.free 2
   have f3 := HZ.out.free 3
   have f4 := HZ.out.free 4
   have f5 := HZ.out.free 5
   have z0 := HZ.out.c0
   have z1 := HZ.out.c1
   have z2 := HZ.out.c2
   have z3 := HZ.out.c3
   have z4 := HZ.out.c4
   have z5 := HZ.out.c5
   go_wp2_with fail
   have e6 : Box (put6 wr (w.heap.size + 1 + 1) (.int .i64 6) (.bool false) (.int .i64 0) (.string ⟨#[]⟩) (.slice pu s.length cu) (.slice pq s.length cq)) (w.heap.size + 1 + 1) ⟨6, false, 0, []⟩ (.slice pu s.length cu) (.slice pq s.length cq) := put6_box HZ.out ⟨6, false, 0, []⟩ (.slice pu s.length cu) (.slice pq s.length cq)
   have g6 := put6_grown wr (w.heap.size + 1 + 1) (.int .i64 6) (.bool false) (.int .i64 0) (.string ⟨#[]⟩) (.slice pu s.length cu) (.slice pq s.length cq)
   change bodyPost _ _ _ _ _ (put6 wr (w.heap.size + 1 + 1) _ _ _ _ _ _)
   generalize put6 wr (w.heap.size + 1 + 1) (.int .i64 6) (.bool false) (.int .i64 0) (.string ⟨#[]⟩) (.slice pu s.length cu) (.slice pq s.length cq) = W at *
   exact bodyPost_ret (v := .tuple #[rfV ⟨6, false, 0, []⟩ (.slice pu s.length cu) (.slice pq s.length cq), .int .i64 0]) (by simp [results, Tryz.results21, go_sem, rfV, e6.c0, e6.c1, e6.c2, e6.c3, e6.c4, e6.c5]) rfl ⟨HI.out.bel.grown g6 HI.out.bel.size (fun k e => by cases e; omega), by rw [HRes.out]; exact ⟨_, rfl, rst_mk (j := (Sum.inr (Sum.inr s) : J (n + 1))) (HI.out.out.names.grown g6 (fun k e => by cases e; exact Or.inr ⟨by omega, by omega⟩)).unloc (HI.out.out.vals.grown g6 (fun k e => by cases e; exact Or.inr ⟨by omega, by omega⟩)).unloc⟩⟩
theorem bet_plain {n : Nat} {av : Nat -> Prop} {a : Option (J n)} {q : J n} {pv qv : Value} {w : World} (hp : ROpt av w n a pv) (hq : RSt av w n q qv) (hk : (headJ n q).k ≠ 6) (he : betweenR n a q = .ok q) :
  Calls Tryz.prog 21 #[pv, qv] w (RAns av n (betweenR n a q) w) := by
 obtain ⟨dh, p3, k3, c3, p4, k4, c4, rfl⟩ := hp.form
 obtain ⟨nm2, l2, rfl⟩ := rst_form hq
 obtain ⟨⟨p1, k1, c1, rfl⟩, p2, k2, c2, rfl⟩ := rst_sl hq
 refine (bet_else dh (headJ n q) hk p3 k3 c3 p4 k4 c4 p1 k1 c1 p2 k2 c2 w).mono ?_
 rintro e w' ⟨rfl, b⟩
 rw [he]
 exact ⟨b, _, rfl, hq.below b⟩
theorem bet_mixed {n : Nat} {av : Nat -> Prop} {a : Option (J (n + 1))} {fs : List (Bs × J n)} {dh : Hd} {dn dl qv : Value} {w : World} (hp : DAt av w (fieldsP a) dh dn dl) (hk : dh.k ≠ 6) (hq : RSt av w (n + 1) (Sum.inr (Sum.inr fs)) qv) (he : betweenR (n + 1) a (Sum.inr (Sum.inr fs)) = if plainP (n + 1) (Sum.inr (Sum.inr fs)) then .ok (Sum.inr (Sum.inr fs)) else .error 9) :
  Calls Tryz.prog 21 #[rfV dh dn dl, qv] w (RAns av (n + 1) (betweenR (n + 1) a (Sum.inr (Sum.inr fs))) w) := by
 obtain ⟨p3, c3, hdn, _⟩ := hp.names.form
 obtain ⟨p4, k4, c4, rfl⟩ := hp.shape
 subst hdn
 obtain ⟨nm2, l2, rfl⟩ := rst_form hq
 obtain ⟨⟨p1, k1, c1, rfl⟩, p2, k2, c2, rfl⟩ := rst_sl hq
 rw [he]
 exact bet_flat n fs av dh hk p3 _ c3 p4 k4 c4 p1 k1 c1 p2 k2 c2 w hq
theorem bet_ok : ∀ n, BetOK n
 | 0 => fun av a q pv qv w hav hp hq h1 h2 => bet_plain hp hq (headL_six q) rfl
 | n + 1 => fun av a q pv qv w hav hp hq h1 h2 => by
  have ih := bet_ok n
  match q, hq, h2 with
  | Sum.inl l, hq, h2 => exact bet_plain hp hq (headL_six l) rfl
  | Sum.inr (Sum.inl xs), hq, h2 => exact bet_plain hp hq (show (5 : Nat) ≠ 6 by decide) rfl
  | Sum.inr (Sum.inr fs), hq, h2 =>
   obtain ⟨dh, dn, dl, hv, hD⟩ := hp.dat
   subst hv
   match a, hp, h1, hD with
   | none, hp, h1, hD =>
    rcases hD.vals with ⟨e, _⟩ | ⟨hk, _⟩
    ·subst e
     have h9 : rfV ⟨6, false, 0, []⟩ dn dl = rfV ⟨0, false, 0, []⟩ (.slice none 0 0) (.slice none 0 0) := hp
     unfold rfV at h9
     injection h9 with h9
     have := congrArg Array.toList h9
     simp at this
    ·exact bet_mixed hD hk hq rfl
   | some (Sum.inl l), hp, h1, hD =>
    obtain ⟨nm, l', h9⟩ := rst_form (n := n + 1) (j := Sum.inl l) hp
    refine bet_mixed hD ?_ hq rfl
    unfold rfV at h9
    injection h9 with h9
    have := congrArg Array.toList h9
    simp at this
    have h8 := headL_six l
    have h7 := this.1
    have h6 : headJ (n + 1) (Sum.inl l) = headL l := rfl
    rw [h6] at h7
    omega
   | some (Sum.inr (Sum.inl xs)), hp, h1, hD =>
    obtain ⟨nm, l', h9⟩ := rst_form (n := n + 1) (j := Sum.inr (Sum.inl xs)) hp
    refine bet_mixed hD ?_ hq rfl
    unfold rfV at h9
    injection h9 with h9
    have := congrArg Array.toList h9
    simp at this
    have h7 := this.1
    have h6 : (headJ (n + 1) (Sum.inr (Sum.inl xs))).k = 5 := rfl
    rw [h6] at h7
    omega
   | some (Sum.inr (Sum.inr ps)), hp, h1, hD =>
    obtain ⟨nm, l, h9, g1, g2⟩ := RSt.open (n := n) (j := Sum.inr (Sum.inr ps)) hp
    rw [h9]
    obtain ⟨nm2, l2, hv2, g3, g4⟩ := hq.open
    subst hv2
    have t1 := h1 _ rfl
    have hb := obj_bound (m := 200) t1.nodes
    have hb2 := obj_bound (m := 200) h2.nodes
    exact bet_obj av n ih ps fs nm l nm2 l2 w hav g1 g2 g3 g4 (by have := hb.1; omega) (told_field t1) (by have := hb2.1; omega) (told_field h2)
end Go.Proofs.YtjcdklbimaclkaaGreatDoor
