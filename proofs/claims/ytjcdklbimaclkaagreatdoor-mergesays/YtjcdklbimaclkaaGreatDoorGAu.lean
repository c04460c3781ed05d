import Derived.Test.YtjcdklbimaclkaaGreatDoorGAr
import Derived.Test.YtjcdklbimaclkaaGreatDoorGAt
import Derived.Test.YtjcdklbimaclkaaGreatDoorGAs
import Derived.Test.YtjcdklbimaclkaaGreatDoorGAl
import Derived.Lib.LaidTab
import Derived.MakeChecks
import Derived.Test.YtjcdklbimaclkaaGreatDoorGAm
namespace Go.Proofs.YtjcdklbimaclkaaGreatDoor
open Go.RowKit
set_option linter.unusedVariables false
set_option linter.unusedSimpArgs false
theorem headJ_lift : ∀ (n m : Nat) (j : J n), n <= m -> headJ m (lift n m j) = headJ n j
 | 0, m, l, _ => headJ_leaf m l
 | _ + 1, m, Sum.inl l, _ => headJ_leaf m l
 | _ + 1, 0, Sum.inr _, h => absurd h (by omega)
 | _ + 1, _ + 1, Sum.inr (Sum.inl _), _ => rfl
 | _ + 1, _ + 1, Sum.inr (Sum.inr _), _ => rfl
theorem rvals_lift {av : Nat -> Prop} {w : World} {n m : Nat} {xs : List (J n)} {l : Value} (hnm : n <= m) (h : RVals av w n xs l) (ih : ∀ x ∈ xs, ∀ v, RSt av w n x v -> RSt av w m (lift n m x) v) : RVals av w m (xs.map (lift n m)) l := by
 rcases h with ⟨rfl, rfl⟩ | ⟨g, cap, hv, h1, h2, h3, h4, h5⟩
 ·exact Or.inl ⟨rfl, rfl⟩
 ·refine Or.inr ⟨g, cap, by rw [List.length_map]; exact hv, by rw [List.length_map]; exact h1, h2, h3, h4, fun i x hx => ?_⟩
  rw [List.getElem?_map] at hx
  obtain ⟨y, hy, rfl⟩ := Option.map_eq_some_iff.1 hx
  obtain ⟨nm', l', h6, h7⟩ := h5 i y hy
  exact ⟨nm', l', by rw [headJ_lift n m y hnm]; exact h6, by rw [headJ_lift n m y hnm]; exact ih y (List.mem_of_getElem? hy) _ h7⟩
theorem rst_lift {av : Nat -> Prop} {w : World} : ∀ (n m : Nat) (j : J n) (v : Value), n <= m -> RSt av w n j v -> RSt av w m (lift n m j) v
 | 0, m, l, v, _, h => by
  have e : v = rfV (headL l) (.slice none 0 0) (.slice none 0 0) := h
  subst e
  exact rst_leaf av w m l
 | _ + 1, 0, j, v, hnm, h => absurd hnm (by omega)
 | n + 1, m + 1, Sum.inl l, v, hnm, h => by
  obtain ⟨nm, l', rfl, h1, h2⟩ := h.open
  exact rst_mk (j := (Sum.inl l : J (m + 1))) h1 (rvals_lift (xs := ([] : List (J n))) (by omega) h2 (fun x hx => by cases hx))
 | n + 1, m + 1, Sum.inr (Sum.inl xs), v, hnm, h => by
  obtain ⟨nm, l', rfl, h1, h2⟩ := h.open
  exact rst_mk (j := (Sum.inr (Sum.inl (xs.map (lift n m))) : J (m + 1))) h1 (rvals_lift (by omega) h2 (fun x _ v hv => rst_lift n m x v (by omega) hv))
 | n + 1, m + 1, Sum.inr (Sum.inr fs), v, hnm, h => by
  obtain ⟨nm, l', rfl, h1, h2⟩ := h.open
  have e1 : (fs.map fun f => (f.1, lift n m f.2)).map (fun f => f.1) = fs.map fun f => f.1 := by rw [List.map_map]; rfl
  have e2 : (fs.map fun f => (f.1, lift n m f.2)).map (fun f => f.2) = (fs.map fun f => f.2).map (lift n m) := by rw [List.map_map, List.map_map]; rfl
  refine rst_mk (j := (Sum.inr (Sum.inr (fs.map fun f => (f.1, lift n m f.2))) : J (m + 1))) ?_ ?_
  ·show RStrs av w ((fs.map fun f => (f.1, lift n m f.2)).map fun f => f.1) nm
   rw [e1]
   exact h1
  ·show RVals av w m ((fs.map fun f => (f.1, lift n m f.2)).map fun f => f.2) l'
   rw [e2]
   exact rvals_lift (by omega) h2 (fun x _ v hv => rst_lift n m x v (by omega) hv)
theorem two_vals {w : World} {a b : J 10} {g c : Nat} (h : RVals (fun _ => False) w 10 [a, b] (.slice (some ⟨g, 0, none⟩) 2 c)) : g < w.heap.size /\ (∃ p1 k1 c1 p2 k2 c2, Six w g 0 (headJ 10 a) (.slice p1 k1 c1) (.slice p2 k2 c2) /\ RSt (fun _ => False) w 10 a (rfV (headJ 10 a) (.slice p1 k1 c1) (.slice p2 k2 c2))) /\ ∃ p1 k1 c1 p2 k2 c2, Six w g 6 (headJ 10 b) (.slice p1 k1 c1) (.slice p2 k2 c2) /\ RSt (fun _ => False) w 10 b (rfV (headJ 10 b) (.slice p1 k1 c1) (.slice p2 k2 c2)) := by
 rcases h with ⟨h, _⟩ | ⟨g', cap, hv, h1, h2, h3, h4, h5⟩
 ·cases h
 ·cases hv
  obtain ⟨n1, l1, x1, y1⟩ := h5 0 a rfl
  obtain ⟨n2, l2, x2, y2⟩ := h5 1 b rfl
  obtain ⟨⟨p1, k1, c1, rfl⟩, p2, k2, c2, rfl⟩ := rst_sl y1
  obtain ⟨⟨p3, k3, c3, rfl⟩, p4, k4, c4, rfl⟩ := rst_sl y2
  exact ⟨h4, ⟨_, _, _, _, _, _, x1, y1⟩, _, _, _, _, _, _, x2, y2⟩
set_option maxRecDepth 100000 in
set_option maxHeartbeats 2000000 in
theorem rtold_err (h : Hd) (p1 : Option Addr) (k1 c1 : Nat) (p2 : Option Addr) (k2 c2 er : Nat) (her : er ≠ 0) (her2 : er < 100) (w : World) :
  Calls Tryz.prog 20 #[rfV h (.slice p1 k1 c1) (.slice p2 k2 c2), .int .i64 er] w fun e w' => e = .returned (.tuple #[.string ByteArray.empty, .int .i64 er]) /\ Below w.heap.size w w' := by
 have hbe : ((er : Int) != 0) = true := by rw [bne_iff_ne]; omega
 unfold rfV
 go_enter Tryz.func20, Tryz.ntmps20
 go_wp2_with fail
 go_ret2
 exact ⟨rfl, (Below.refl _ _).alloc (Nat.le_refl _) _⟩
set_option maxRecDepth 100000 in
set_option maxHeartbeats 2000000 in
theorem rtold_ok (n : Nat) (j : J n) (v : Value) (w : World) (hst : RSt (fun _ => False) w n j v) (hf : Fit n j) (hn : nodes n j <= 1000000) (hn2 : n <= 1000) (hl : (tell n j).length <= 100000) (hR : Room w) :
  Calls Tryz.prog 20 #[v, .int .i64 0] w fun e w' => e = .returned (.tuple (toldE n j)) /\ Below w.heap.size w w' := by
 obtain ⟨nm, l, rfl⟩ := rst_form hst
 obtain ⟨⟨p1, k1, c1, rfl⟩, p2, k2, c2, rfl⟩ := rst_sl hst
 have HT : Hid (∀ w1, Below w.heap.size w w1 -> Calls Tryz.prog 18 #[rfV (headJ n j) (.slice p1 k1 c1) (.slice p2 k2 c2)] w1 fun e w' => e = .returned (.tuple (toldE n j)) /\ Below w1.heap.size w1 w') := fun w1 b => rftellv_any n _ j _ w1 (hst.below b) hf hn hn2 hl (hR.below b)
 obtain ⟨s, er, he⟩ := toldE_form n j
 rw [he] at HT
 rw [he]
 generalize headJ n j = h at *
 clear hst hf hR he
 unfold rfV at HT
 unfold rfV
 have HB : Hid (Below w.heap.size w (w.alloc (.cells #[.int .i64 h.k, .bool h.b, .int .i64 h.i, .string ⟨h.s.toArray⟩, .slice p1 k1 c1, .slice p2 k2 c2] 38))) := (Below.refl _ _).alloc (Nat.le_refl _) _
 go_enter Tryz.func20, Tryz.ntmps20
 go_wp2_with fail
 generalize w.alloc (.cells #[.int .i64 h.k, .bool h.b, .int .i64 h.i, .string ⟨h.s.toArray⟩, .slice p1 k1 c1, .slice p2 k2 c2] 38) = w1 at *
 refine Calls.mono (HT.out w1 HB.out) ?_
 rintro e w2 ⟨rfl, b2⟩
 have HB2 : Hid (Below w.heap.size w w2) := HB.out.trans (b2.mono HB.out.size)
 clear b2
 go_wp2_with fail
 go_ret2
 exact ⟨rfl, HB2.out⟩
set_option maxRecDepth 100000 in
set_option maxHeartbeats 8000000 in
theorem rapply_any {N : Nat} (hN : 20 <= N) (hN2 : N <= 1000) (x y : ByteArray) (w : World) (hR : Room w) :
  Calls Tryz.prog 7 #[.string x, .string y] w fun e w' => e = .returned (.tuple (bothA N (applyR N) x.data.toList y.data.toList)) /\ Below w.heap.size w w' := by
 have HRd : Hid (Calls Tryz.prog 16 #[.slice (some ⟨w.heap.size, 0, none⟩) 2 2] (w.alloc (.cells #[.string x, .string y] 9)) (ReadsPost x.data.toList y.data.toList (w.alloc (.cells #[.string x, .string y] 9)))) := rfreads_any x y w.heap.size (w.alloc (.cells #[.string x, .string y] 9)) (heap_alloc_new w _)
 have HB0 : Hid (Below w.heap.size w (w.alloc (.cells #[.string x, .string y] 9))) := (Below.refl _ _).alloc (Nat.le_refl _) _
 have HRm : Hid (Room w) := hR
 obtain ⟨res, hres⟩ : ∃ res, res = bothA N (applyR N) x.data.toList y.data.toList := ⟨_, rfl⟩
 have HRes : Hid (res = bothA N (applyR N) x.data.toList y.data.toList) := hres
 rw [<- hres]
 clear hR hres
 go_enter Tryz.func7, Tryz.ntmps7
 go_wp2_with fail
 generalize w.alloc (.cells #[.string x, .string y] 9) = w0 at *
 refine Calls.mono HRd.out ?_
 rintro e w1 ⟨b1, h1⟩
 have HB1 : Hid (Below w.heap.size w w1) := HB0.out.trans (b1.mono HB0.out.size)
 clear b1 HRd
 rcases h1 with ⟨er, hr, her, her2, p, k, c, rfl⟩ | ⟨a, b, g, c, hr, rfl, hv⟩
 ·have hbe : ((er : Int) != 0) = true := by rw [bne_iff_ne]; omega
  have HE : Hid (res = #[.string ByteArray.empty, .int .i64 er]) := by
   show res = _
   rw [HRes.out]
   unfold readsE at hr
   unfold bothA rd20
   cases hx : read x.data.toList with
   | error e =>
    rw [hx] at hr
    cases hr
    rfl
   | ok A =>
    rw [hx] at hr
    cases hy : read y.data.toList with
    | error e =>
     simp only [hy] at hr
     cases hr
     rfl
    | ok B =>
     simp only [hy] at hr
     cases hr
  clear hr
  go_wp2_with fail
  go_ret2
  exact ⟨by rw [HE.out]; rfl, HB1.out⟩
 ·obtain ⟨hg, ⟨p1, k1, c1, p2, k2, c2, hsA, hA⟩, p3, k3, c3, p4, k4, c4, hsB, hBv⟩ := two_vals hv
  obtain ⟨hx, hy⟩ : read x.data.toList = .ok a /\ read y.data.toList = .ok b := by
   unfold readsE at hr
   cases hx : read x.data.toList with
   | error e => rw [hx] at hr; cases hr
   | ok A =>
    rw [hx] at hr
    cases hy : read y.data.toList with
    | error e => simp only [hy] at hr; cases hr
    | ok B =>
     simp only [hy] at hr
     cases hr
     exact ⟨rfl, rfl⟩
  have hTa := rd20_told hN (rd20_ok (N := N) hx)
  have hTb := rd20_told hN (rd20_ok (N := N) hy)
  have HEq : Hid (res = match (applyR N) (lift 10 N a) (lift 10 N b) with
    | .error e => #[.string ByteArray.empty, .int .i64 e]
    | .ok j => toldE N j) := by
   show res = _
   rw [HRes.out]
   unfold bothA
   rw [rd20_ok hx, rd20_ok hy]
   show (match (applyR N) (lift 10 N a) (lift 10 N b) with | .error e => #[Value.string ByteArray.empty, .int .i64 e] | .ok j => toldE N j) = _
   cases (applyR N) (lift 10 N a) (lift 10 N b) <;> rfl
  have HSa : Hid (∀ w', Below w1.heap.size w1 w' -> RSt (fun _ => False) w' N (lift 10 N a) (rfV (headJ 10 a) (.slice p1 k1 c1) (.slice p2 k2 c2))) := fun w' b9 => (rst_lift 10 N a _ (by omega) hA).below b9
  have HSb : Hid (∀ w', Below w1.heap.size w1 w' -> RSt (fun _ => False) w' N (lift 10 N b) (rfV (headJ 10 b) (.slice p3 k3 c3) (.slice p4 k4 c4))) := fun w' b9 => (rst_lift 10 N b _ (by omega) hBv).below b9
  have HXa : Hid (∀ w', Below w1.heap.size w1 w' -> Six w' g 0 (headJ 10 a) (.slice p1 k1 c1) (.slice p2 k2 c2)) := fun w' b9 => hsA.keep (b9.block g hg)
  have HXb : Hid (∀ w', Below w1.heap.size w1 w' -> Six w' g 6 (headJ 10 b) (.slice p3 k3 c3) (.slice p4 k4 c4)) := fun w' b9 => hsB.keep (b9.block g hg)
  have HTA : Hid (Told20 N (lift 10 N a)) := hTa
  have HTB : Hid (Told20 N (lift 10 N b)) := hTb
  have HSmall : Hid (∀ j, (applyR N) (lift 10 N a) (lift 10 N b) = .ok j -> Fit N j /\ nodes N j <= 1000000 /\ (tell N j).length <= 100000) := fun j h => by
   have h1 := (apply_makes N).wgt _ _ j h
   have h2 := told_wgt hTa
   have h3 := told_wgt hTb
   have h4 := wgt_len N j
   exact ⟨(Makes.fine hN2 (apply_makes N) hTa hTb h).fit, by omega, by omega⟩
  have HCl : Hid (∀ w', Below w1.heap.size w1 w' -> Calls Tryz.prog 17 #[rfV (headJ 10 a) (.slice p1 k1 c1) (.slice p2 k2 c2), rfV (headJ 10 b) (.slice p3 k3 c3) (.slice p4 k4 c4)] w' fun e w'' => ∃ j u, (applyR N) (lift 10 N a) (lift 10 N b) = .ok j /\ e = .returned u /\ RSt (fun _ => False) w'' N j u /\ Below w'.heap.size w' w'') := fun w' b9 => by
   refine (into_ok N (fun _ => False) (some (lift 10 N a)) (lift 10 N b) _ _ w' (fun _ _ h => h) (HSa.out w' b9) (HSb.out w' b9) (fun x h => by cases h; have := hTa.nodes; omega) (by have := hTb.nodes; omega)).mono ?_
   rintro e w'' ⟨u, rfl, hu, b8⟩
   refine ⟨_, u, rfl, rfl, ?_, b8⟩
   rw [<- into_merged N (some (lift 10 N a)) (lift 10 N b) (fun x h => by cases h; exact hTa.good) hTb.good]
   exact hu
  generalize (applyR N) (lift 10 N a) (lift 10 N b) = rr at *
  clear hr hv hsA hsB hA hBv hx hy hTa hTb hg
  unfold rfV at HCl
  have hHeld : Below w1.heap.size w1 w1.drew := (Below.refl _ _).drew
  go_wp2_with fail
  refine M_begin 10 12 (fun w' => Below w1.heap.size w1 w') (by kernel_rfl) rfl ?_
  refine M_takeA 0 (v := ?vv1) rfl hHeld (Or.inl ⟨by rfl, ?hy1⟩) ?_
  case hy1 => (intro w' hSw; go_simp; try (with_reducible rfl))
  try simp only [Act.put, List.setIfInBounds_toArray, List.set_cons_zero, List.set_cons_succ]
  refine M_takeA 1 (v := ?vv2) rfl hHeld (Or.inl ⟨by rfl, ?hy2⟩) ?_
  case hy2 => (intro w' hSw; go_simp; try (with_reducible rfl))
  try simp only [Act.put, List.setIfInBounds_toArray, List.set_cons_zero, List.set_cons_succ]
  refine M_takeA 2 (v := ?vv3) rfl hHeld (Or.inl ⟨by rfl, ?hy3⟩) ?_
  case hy3 => (intro w' hSw; obtain ⟨x0, x1, x2, x3, x4, x5⟩ := HXa.out w' hSw; go_simp; try (with_reducible rfl))
  try simp only [Act.put, List.setIfInBounds_toArray, List.set_cons_zero, List.set_cons_succ]
  refine M_takeA 3 (v := ?vv4) rfl hHeld (Or.inl ⟨by rfl, ?hy4⟩) ?_
  case hy4 => (intro w' hSw; go_simp; try (with_reducible rfl))
  try simp only [Act.put, List.setIfInBounds_toArray, List.set_cons_zero, List.set_cons_succ]
  refine M_takeA 4 (v := ?vv5) rfl hHeld (Or.inl ⟨by rfl, ?hy5⟩) ?_
  case hy5 => (intro w' hSw; go_simp; try (with_reducible rfl))
  try simp only [Act.put, List.setIfInBounds_toArray, List.set_cons_zero, List.set_cons_succ]
  refine M_takeA 5 (v := ?vv6) rfl hHeld (Or.inl ⟨by rfl, ?hy6⟩) ?_
  case hy6 => (intro w' hSw; obtain ⟨x0, x1, x2, x3, x4, x5⟩ := HXb.out w' hSw; go_simp; try (with_reducible rfl))
  try simp only [Act.put, List.setIfInBounds_toArray, List.set_cons_zero, List.set_cons_succ]
  refine M_ready [6] (by kernel_rfl) (by decide) ?_
  refine AllM.cons (i := 6) rfl (fun K hK => ?_) AllM.nil
  rw [if_pos (by rfl)]
  go_wp2_with fail
  refine Calls.mono (HCl.out _ hHeld) ?_
  rintro e x1 ⟨j, u, hj, rfl, hu, b2⟩
  obtain ⟨hf, hn9, hl9⟩ := HSmall.out j hj
  rw [hj] at HEq
  have HTl : Hid (∀ w', Below x1.heap.size x1 w' -> Calls Tryz.prog 18 #[u] w' fun e w'' => e = .returned (.tuple (toldE N j)) /\ Below w'.heap.size w' w'') := fun w' b8 => rftellv_any N _ j u w' (hu.below b8) hf hn9 hN2 hl9 ((HRm.out.below HB1.out).below ((hHeld.trans (b2.mono hHeld.size)).trans (b8.mono (hHeld.trans (b2.mono hHeld.size)).size)))
  obtain ⟨s9, er9, he9⟩ := toldE_form N j
  rw [he9] at HTl
  have HE9 : Hid (res = #[.string s9, .int .i64 er9]) := by show res = _; rw [HEq.out, <- he9]
  obtain ⟨un1, ul1, rfl⟩ := rst_form hu
  obtain ⟨⟨r1, i1, j1, rfl⟩, r2, i2, j2, rfl⟩ := rst_sl hu
  clear hu hf hn9 hl9 he9 HEq
  unfold rfV at HTl
  unfold rfV
  dsimp only
  refine hK.out _ _ (hHeld.trans (b2.mono hHeld.size)) (fun hHeld => ?_)
  clear hK K
  try simp only [Act.put, List.setIfInBounds_toArray, List.set_cons_zero, List.set_cons_succ]
  refine M_ready [7] (by kernel_rfl) (by decide) ?_
  refine AllM.cons (i := 7) rfl (fun K hK => ?_) AllM.nil
  rw [if_pos (by rfl)]
  go_wp2_with fail
  refine Calls.mono (HTl.out _ (Below.refl _ _)) ?_
  rintro e x2 ⟨rfl, b3⟩
  dsimp only
  refine hK.out _ _ (hHeld.trans (b3.mono hHeld.size)) (fun hHeld => ?_)
  clear hK K
  try simp only [Act.put, List.setIfInBounds_toArray, List.set_cons_zero, List.set_cons_succ]
  refine M_takeA 8 (v := ?vv7) rfl hHeld (Or.inl ⟨by rfl, ?hy7⟩) ?_
  case hy7 => (intro w' hSw; go_simp; try (with_reducible rfl))
  try simp only [Act.put, List.setIfInBounds_toArray, List.set_cons_zero, List.set_cons_succ]
  refine M_takeA 9 (v := ?vv8) rfl hHeld (Or.inl ⟨by rfl, ?hy8⟩) ?_
  case hy8 => (intro w' hSw; go_simp; try (with_reducible rfl))
  try simp only [Act.put, List.setIfInBounds_toArray, List.set_cons_zero, List.set_cons_succ]
  have HBz : Hid (Below w.heap.size w x2) := HB1.out.trans (hHeld.mono HB1.out.size)
  refine M_tail [{ dst := some 4, op := Op.assign (Operand.tmp 26), type := 9, pos := "docs.go:36", after := #[{ on := 8, ground := Ground.data }, { on := 7, ground := Ground.chain }, { on := 0, ground := Ground.phase }, { on := 1, ground := Ground.phase }, { on := 2, ground := Ground.phase }, { on := 3, ground := Ground.phase }, { on := 4, ground := Ground.phase }, { on := 5, ground := Ground.phase }, { on := 6, ground := Ground.phase }, { on := 7, ground := Ground.phase }, { on := 8, ground := Ground.phase }, { on := 9, ground := Ground.phase }], guard := none }, { dst := some 5, op := Op.assign (Operand.tmp 27), type := 22, pos := "docs.go:36", after := #[{ on := 9, ground := Ground.data }, { on := 10, ground := Ground.chain }, { on := 0, ground := Ground.phase }, { on := 1, ground := Ground.phase }, { on := 2, ground := Ground.phase }, { on := 3, ground := Ground.phase }, { on := 4, ground := Ground.phase }, { on := 5, ground := Ground.phase }, { on := 6, ground := Ground.phase }, { on := 7, ground := Ground.phase }, { on := 8, ground := Ground.phase }, { on := 9, ground := Ground.phase }, { on := 10, ground := Ground.phase }], guard := none }] rfl (by kernel_rfl) (by kernel_rfl) ?_
  clear hHeld b2 b3
  go_wp2_with fail
  go_ret2
  exact ⟨by rw [HE9.out]; rfl, HBz.out⟩
set_option maxRecDepth 100000 in
set_option maxHeartbeats 8000000 in
theorem rdiff_any {N : Nat} (hN : 20 <= N) (hN2 : N <= 1000) (x y : ByteArray) (w : World) (hR : Room w) :
  Calls Tryz.prog 9 #[.string x, .string y] w fun e w' => e = .returned (.tuple (bothA N (diffR N) x.data.toList y.data.toList)) /\ Below w.heap.size w w' := by
 have HRd : Hid (Calls Tryz.prog 16 #[.slice (some ⟨w.heap.size, 0, none⟩) 2 2] (w.alloc (.cells #[.string x, .string y] 9)) (ReadsPost x.data.toList y.data.toList (w.alloc (.cells #[.string x, .string y] 9)))) := rfreads_any x y w.heap.size (w.alloc (.cells #[.string x, .string y] 9)) (heap_alloc_new w _)
 have HB0 : Hid (Below w.heap.size w (w.alloc (.cells #[.string x, .string y] 9))) := (Below.refl _ _).alloc (Nat.le_refl _) _
 have HRm : Hid (Room w) := hR
 obtain ⟨res, hres⟩ : ∃ res, res = bothA N (diffR N) x.data.toList y.data.toList := ⟨_, rfl⟩
 have HRes : Hid (res = bothA N (diffR N) x.data.toList y.data.toList) := hres
 rw [<- hres]
 clear hR hres
 go_enter Tryz.func9, Tryz.ntmps9
 go_wp2_with fail
 generalize w.alloc (.cells #[.string x, .string y] 9) = w0 at *
 refine Calls.mono HRd.out ?_
 rintro e w1 ⟨b1, h1⟩
 have HB1 : Hid (Below w.heap.size w w1) := HB0.out.trans (b1.mono HB0.out.size)
 clear b1 HRd
 rcases h1 with ⟨er, hr, her, her2, p, k, c, rfl⟩ | ⟨a, b, g, c, hr, rfl, hv⟩
 ·have hbe : ((er : Int) != 0) = true := by rw [bne_iff_ne]; omega
  have HE : Hid (res = #[.string ByteArray.empty, .int .i64 er]) := by
   show res = _
   rw [HRes.out]
   unfold readsE at hr
   unfold bothA rd20
   cases hx : read x.data.toList with
   | error e =>
    rw [hx] at hr
    cases hr
    rfl
   | ok A =>
    rw [hx] at hr
    cases hy : read y.data.toList with
    | error e =>
     simp only [hy] at hr
     cases hr
     rfl
    | ok B =>
     simp only [hy] at hr
     cases hr
  clear hr
  go_wp2_with fail
  go_ret2
  exact ⟨by rw [HE.out]; rfl, HB1.out⟩
 ·obtain ⟨hg, ⟨p1, k1, c1, p2, k2, c2, hsA, hA⟩, p3, k3, c3, p4, k4, c4, hsB, hBv⟩ := two_vals hv
  obtain ⟨hx, hy⟩ : read x.data.toList = .ok a /\ read y.data.toList = .ok b := by
   unfold readsE at hr
   cases hx : read x.data.toList with
   | error e => rw [hx] at hr; cases hr
   | ok A =>
    rw [hx] at hr
    cases hy : read y.data.toList with
    | error e => simp only [hy] at hr; cases hr
    | ok B =>
     simp only [hy] at hr
     cases hr
     exact ⟨rfl, rfl⟩
  have hTa := rd20_told hN (rd20_ok (N := N) hx)
  have hTb := rd20_told hN (rd20_ok (N := N) hy)
  have HEq : Hid (res = match (diffR N) (lift 10 N a) (lift 10 N b) with
    | .error e => #[.string ByteArray.empty, .int .i64 e]
    | .ok j => toldE N j) := by
   show res = _
   rw [HRes.out]
   unfold bothA
   rw [rd20_ok hx, rd20_ok hy]
   show (match (diffR N) (lift 10 N a) (lift 10 N b) with | .error e => #[Value.string ByteArray.empty, .int .i64 e] | .ok j => toldE N j) = _
   cases (diffR N) (lift 10 N a) (lift 10 N b) <;> rfl
  have HSa : Hid (∀ w', Below w1.heap.size w1 w' -> RSt (fun _ => False) w' N (lift 10 N a) (rfV (headJ 10 a) (.slice p1 k1 c1) (.slice p2 k2 c2))) := fun w' b9 => (rst_lift 10 N a _ (by omega) hA).below b9
  have HSb : Hid (∀ w', Below w1.heap.size w1 w' -> RSt (fun _ => False) w' N (lift 10 N b) (rfV (headJ 10 b) (.slice p3 k3 c3) (.slice p4 k4 c4))) := fun w' b9 => (rst_lift 10 N b _ (by omega) hBv).below b9
  have HXa : Hid (∀ w', Below w1.heap.size w1 w' -> Six w' g 0 (headJ 10 a) (.slice p1 k1 c1) (.slice p2 k2 c2)) := fun w' b9 => hsA.keep (b9.block g hg)
  have HXb : Hid (∀ w', Below w1.heap.size w1 w' -> Six w' g 6 (headJ 10 b) (.slice p3 k3 c3) (.slice p4 k4 c4)) := fun w' b9 => hsB.keep (b9.block g hg)
  have HTA : Hid (Told20 N (lift 10 N a)) := hTa
  have HTB : Hid (Told20 N (lift 10 N b)) := hTb
  have HSmall : Hid (∀ j, (diffR N) (lift 10 N a) (lift 10 N b) = .ok j -> Fit N j /\ nodes N j <= 1000000 /\ (tell N j).length <= 100000) := fun j h => by
   have h1 := (diff_makes N).wgt _ _ j h
   have h2 := told_wgt hTa
   have h3 := told_wgt hTb
   have h4 := wgt_len N j
   exact ⟨(Makes.fine hN2 (diff_makes N) hTa hTb h).fit, by omega, by omega⟩
  have HCl : Hid (∀ w', Below w1.heap.size w1 w' -> Calls Tryz.prog 21 #[rfV (headJ 10 a) (.slice p1 k1 c1) (.slice p2 k2 c2), rfV (headJ 10 b) (.slice p3 k3 c3) (.slice p4 k4 c4)] w' (RAns (fun _ => False) N ((diffR N) (lift 10 N a) (lift 10 N b)) w')) := fun w' b9 => by
   have h9 := bet_ok N (fun _ => False) (some (lift 10 N a)) (lift 10 N b) _ _ w' (fun _ _ h => h) (HSa.out w' b9) (HSb.out w' b9) (fun x h => by cases h; exact hTa) hTb
   rw [between_ref N (some (lift 10 N a)) (lift 10 N b) (fun x h => by cases h; exact hTa.good) hTb.good] at h9
   exact h9
  generalize (diffR N) (lift 10 N a) (lift 10 N b) = rr at *
  clear hr hv hsA hsB hA hBv hx hy hTa hTb hg
  unfold rfV at HCl
  have hHeld : Below w1.heap.size w1 w1.drew := (Below.refl _ _).drew
  go_wp2_with fail
  refine M_begin 12 14 (fun w' => Below w1.heap.size w1 w') (by kernel_rfl) rfl ?_
  refine M_takeA 0 (v := ?vv9) rfl hHeld (Or.inl ⟨by rfl, ?hy9⟩) ?_
  case hy9 => (intro w' hSw; go_simp; try (with_reducible rfl))
  try simp only [Act.put, List.setIfInBounds_toArray, List.set_cons_zero, List.set_cons_succ]
  refine M_takeA 1 (v := ?vv10) rfl hHeld (Or.inl ⟨by rfl, ?hy10⟩) ?_
  case hy10 => (intro w' hSw; go_simp; try (with_reducible rfl))
  try simp only [Act.put, List.setIfInBounds_toArray, List.set_cons_zero, List.set_cons_succ]
  refine M_takeA 2 (v := ?vv11) rfl hHeld (Or.inl ⟨by rfl, ?hy11⟩) ?_
  case hy11 => (intro w' hSw; obtain ⟨x0, x1, x2, x3, x4, x5⟩ := HXa.out w' hSw; go_simp; try (with_reducible rfl))
  try simp only [Act.put, List.setIfInBounds_toArray, List.set_cons_zero, List.set_cons_succ]
  refine M_takeA 3 (v := ?vv12) rfl hHeld (Or.inl ⟨by rfl, ?hy12⟩) ?_
  case hy12 => (intro w' hSw; go_simp; try (with_reducible rfl))
  try simp only [Act.put, List.setIfInBounds_toArray, List.set_cons_zero, List.set_cons_succ]
  refine M_takeA 4 (v := ?vv13) rfl hHeld (Or.inl ⟨by rfl, ?hy13⟩) ?_
  case hy13 => (intro w' hSw; go_simp; try (with_reducible rfl))
  try simp only [Act.put, List.setIfInBounds_toArray, List.set_cons_zero, List.set_cons_succ]
  refine M_takeA 5 (v := ?vv14) rfl hHeld (Or.inl ⟨by rfl, ?hy14⟩) ?_
  case hy14 => (intro w' hSw; obtain ⟨x0, x1, x2, x3, x4, x5⟩ := HXb.out w' hSw; go_simp; try (with_reducible rfl))
  try simp only [Act.put, List.setIfInBounds_toArray, List.set_cons_zero, List.set_cons_succ]
  refine M_ready [6] (by kernel_rfl) (by decide) ?_
  refine AllM.cons (i := 6) rfl (fun K hK => ?_) AllM.nil
  rw [if_pos (by rfl)]
  go_wp2_with fail
  refine Calls.mono (HCl.out _ hHeld) ?_
  rintro e x1 ⟨b2, h2⟩
  cases hrr : rr with
  | error er =>
   rw [hrr] at h2 HEq
   obtain ⟨her, her2, rfl⟩ := h2
   have HTl : Hid (∀ w', Calls Tryz.prog 20 #[rfV ⟨0, false, 0, []⟩ (.slice none 0 0) (.slice none 0 0), .int .i64 er] w' fun e w'' => e = .returned (.tuple #[.string ByteArray.empty, .int .i64 er]) /\ Below w'.heap.size w' w'') := fun w' => rtold_err _ _ _ _ _ _ _ er her her2 w'
   have HE9 : Hid (res = #[.string ByteArray.empty, .int .i64 er]) := HEq.out
   clear HEq
   unfold rfV at HTl
   unfold rfV
   dsimp only
   refine hK.out _ _ (hHeld.trans (b2.mono hHeld.size)) (fun hHeld => ?_)
   clear hK K
   try simp only [Act.put, List.setIfInBounds_toArray, List.set_cons_zero, List.set_cons_succ]
   refine M_takeA 7 (v := ?vv15) rfl hHeld (Or.inl ⟨by rfl, ?hy15⟩) ?_
   case hy15 => (intro w' hSw; go_simp; try (with_reducible rfl))
   try simp only [Act.put, List.setIfInBounds_toArray, List.set_cons_zero, List.set_cons_succ]
   refine M_takeA 8 (v := ?vv16) rfl hHeld (Or.inl ⟨by rfl, ?hy16⟩) ?_
   case hy16 => (intro w' hSw; go_simp; try (with_reducible rfl))
   try simp only [Act.put, List.setIfInBounds_toArray, List.set_cons_zero, List.set_cons_succ]
   refine M_ready [9] (by kernel_rfl) (by decide) ?_
   refine AllM.cons (i := 9) rfl (fun K hK => ?_) AllM.nil
   rw [if_pos (by rfl)]
   go_wp2_with fail
   refine Calls.mono (HTl.out _) ?_
   rintro e x2 ⟨rfl, b3⟩
   dsimp only
   refine hK.out _ _ (hHeld.trans (b3.mono hHeld.size)) (fun hHeld => ?_)
   clear hK K
   try simp only [Act.put, List.setIfInBounds_toArray, List.set_cons_zero, List.set_cons_succ]
   refine M_takeA 10 (v := ?vv17) rfl hHeld (Or.inl ⟨by rfl, ?hy17⟩) ?_
   case hy17 => (intro w' hSw; go_simp; try (with_reducible rfl))
   try simp only [Act.put, List.setIfInBounds_toArray, List.set_cons_zero, List.set_cons_succ]
   refine M_takeA 11 (v := ?vv18) rfl hHeld (Or.inl ⟨by rfl, ?hy18⟩) ?_
   case hy18 => (intro w' hSw; go_simp; try (with_reducible rfl))
   try simp only [Act.put, List.setIfInBounds_toArray, List.set_cons_zero, List.set_cons_succ]
   have HBz : Hid (Below w.heap.size w x2) := HB1.out.trans (hHeld.mono HB1.out.size)
   refine M_tail [{ dst := some 4, op := Op.assign (Operand.tmp 28), type := 9, pos := "docs.go:87", after := #[{ on := 10, ground := Ground.data }, { on := 9, ground := Ground.chain }, { on := 0, ground := Ground.phase }, { on := 1, ground := Ground.phase }, { on := 2, ground := Ground.phase }, { on := 3, ground := Ground.phase }, { on := 4, ground := Ground.phase }, { on := 5, ground := Ground.phase }, { on := 6, ground := Ground.phase }, { on := 7, ground := Ground.phase }, { on := 8, ground := Ground.phase }, { on := 9, ground := Ground.phase }, { on := 10, ground := Ground.phase }, { on := 11, ground := Ground.phase }], guard := none }, { dst := some 5, op := Op.assign (Operand.tmp 29), type := 22, pos := "docs.go:87", after := #[{ on := 11, ground := Ground.data }, { on := 12, ground := Ground.chain }, { on := 0, ground := Ground.phase }, { on := 1, ground := Ground.phase }, { on := 2, ground := Ground.phase }, { on := 3, ground := Ground.phase }, { on := 4, ground := Ground.phase }, { on := 5, ground := Ground.phase }, { on := 6, ground := Ground.phase }, { on := 7, ground := Ground.phase }, { on := 8, ground := Ground.phase }, { on := 9, ground := Ground.phase }, { on := 10, ground := Ground.phase }, { on := 11, ground := Ground.phase }, { on := 12, ground := Ground.phase }], guard := none }] rfl (by kernel_rfl) (by kernel_rfl) ?_
   clear hHeld b2 b3
   go_wp2_with fail
   go_ret2
   exact ⟨by rw [HE9.out]; rfl, HBz.out⟩
  | ok j =>
   rw [hrr] at h2 HEq
   obtain ⟨u, rfl, hu⟩ := h2
   obtain ⟨hf, hn9, hl9⟩ := HSmall.out j hrr
   have HTl : Hid (∀ w', Below x1.heap.size x1 w' -> Calls Tryz.prog 20 #[u, .int .i64 0] w' fun e w'' => e = .returned (.tuple (toldE N j)) /\ Below w'.heap.size w' w'') := fun w' b8 => rtold_ok N j u w' (hu.below b8) hf hn9 hN2 hl9 ((HRm.out.below HB1.out).below ((hHeld.trans (b2.mono hHeld.size)).trans (b8.mono (hHeld.trans (b2.mono hHeld.size)).size)))
   obtain ⟨s9, er9, he9⟩ := toldE_form N j
   rw [he9] at HTl
   have HE9 : Hid (res = #[.string s9, .int .i64 er9]) := by show res = _; rw [HEq.out, <- he9]
   obtain ⟨un1, ul1, rfl⟩ := rst_form hu
   obtain ⟨⟨r1, i1, j1, rfl⟩, r2, i2, j2, rfl⟩ := rst_sl hu
   clear hu hf hn9 hl9 he9 HEq
   unfold rfV at HTl
   unfold rfV
   dsimp only
   refine hK.out _ _ (hHeld.trans (b2.mono hHeld.size)) (fun hHeld => ?_)
   clear hK K
   try simp only [Act.put, List.setIfInBounds_toArray, List.set_cons_zero, List.set_cons_succ]
   refine M_takeA 7 (v := ?vv19) rfl hHeld (Or.inl ⟨by rfl, ?hy19⟩) ?_
   case hy19 => (intro w' hSw; go_simp; try (with_reducible rfl))
   try simp only [Act.put, List.setIfInBounds_toArray, List.set_cons_zero, List.set_cons_succ]
   refine M_takeA 8 (v := ?vv20) rfl hHeld (Or.inl ⟨by rfl, ?hy20⟩) ?_
   case hy20 => (intro w' hSw; go_simp; try (with_reducible rfl))
   try simp only [Act.put, List.setIfInBounds_toArray, List.set_cons_zero, List.set_cons_succ]
   refine M_ready [9] (by kernel_rfl) (by decide) ?_
   refine AllM.cons (i := 9) rfl (fun K hK => ?_) AllM.nil
   rw [if_pos (by rfl)]
   go_wp2_with fail
   refine Calls.mono (HTl.out _ (Below.refl _ _)) ?_
   rintro e x2 ⟨rfl, b3⟩
   dsimp only
   refine hK.out _ _ (hHeld.trans (b3.mono hHeld.size)) (fun hHeld => ?_)
   clear hK K
   try simp only [Act.put, List.setIfInBounds_toArray, List.set_cons_zero, List.set_cons_succ]
   refine M_takeA 10 (v := ?vv21) rfl hHeld (Or.inl ⟨by rfl, ?hy21⟩) ?_
   case hy21 => (intro w' hSw; go_simp; try (with_reducible rfl))
   try simp only [Act.put, List.setIfInBounds_toArray, List.set_cons_zero, List.set_cons_succ]
   refine M_takeA 11 (v := ?vv22) rfl hHeld (Or.inl ⟨by rfl, ?hy22⟩) ?_
   case hy22 => (intro w' hSw; go_simp; try (with_reducible rfl))
   try simp only [Act.put, List.setIfInBounds_toArray, List.set_cons_zero, List.set_cons_succ]
   have HBz : Hid (Below w.heap.size w x2) := HB1.out.trans (hHeld.mono HB1.out.size)
   refine M_tail [{ dst := some 4, op := Op.assign (Operand.tmp 28), type := 9, pos := "docs.go:87", after := #[{ on := 10, ground := Ground.data }, { on := 9, ground := Ground.chain }, { on := 0, ground := Ground.phase }, { on := 1, ground := Ground.phase }, { on := 2, ground := Ground.phase }, { on := 3, ground := Ground.phase }, { on := 4, ground := Ground.phase }, { on := 5, ground := Ground.phase }, { on := 6, ground := Ground.phase }, { on := 7, ground := Ground.phase }, { on := 8, ground := Ground.phase }, { on := 9, ground := Ground.phase }, { on := 10, ground := Ground.phase }, { on := 11, ground := Ground.phase }], guard := none }, { dst := some 5, op := Op.assign (Operand.tmp 29), type := 22, pos := "docs.go:87", after := #[{ on := 11, ground := Ground.data }, { on := 12, ground := Ground.chain }, { on := 0, ground := Ground.phase }, { on := 1, ground := Ground.phase }, { on := 2, ground := Ground.phase }, { on := 3, ground := Ground.phase }, { on := 4, ground := Ground.phase }, { on := 5, ground := Ground.phase }, { on := 6, ground := Ground.phase }, { on := 7, ground := Ground.phase }, { on := 8, ground := Ground.phase }, { on := 9, ground := Ground.phase }, { on := 10, ground := Ground.phase }, { on := 11, ground := Ground.phase }, { on := 12, ground := Ground.phase }], guard := none }] rfl (by kernel_rfl) (by kernel_rfl) ?_
   clear hHeld b2 b3
   go_wp2_with fail
   go_ret2
   exact ⟨by rw [HE9.out]; rfl, HBz.out⟩
set_option maxRecDepth 100000 in
set_option maxHeartbeats 8000000 in
theorem rcompose_any {N : Nat} (hN : 20 <= N) (hN2 : N <= 1000) (x y : ByteArray) (w : World) (hR : Room w) :
  Calls Tryz.prog 11 #[.string x, .string y] w fun e w' => e = .returned (.tuple (bothA N (composedP N) x.data.toList y.data.toList)) /\ Below w.heap.size w w' := by
 have HRd : Hid (Calls Tryz.prog 16 #[.slice (some ⟨w.heap.size, 0, none⟩) 2 2] (w.alloc (.cells #[.string x, .string y] 9)) (ReadsPost x.data.toList y.data.toList (w.alloc (.cells #[.string x, .string y] 9)))) := rfreads_any x y w.heap.size (w.alloc (.cells #[.string x, .string y] 9)) (heap_alloc_new w _)
 have HB0 : Hid (Below w.heap.size w (w.alloc (.cells #[.string x, .string y] 9))) := (Below.refl _ _).alloc (Nat.le_refl _) _
 have HRm : Hid (Room w) := hR
 obtain ⟨res, hres⟩ : ∃ res, res = bothA N (composedP N) x.data.toList y.data.toList := ⟨_, rfl⟩
 have HRes : Hid (res = bothA N (composedP N) x.data.toList y.data.toList) := hres
 rw [<- hres]
 clear hR hres
 go_enter Tryz.func11, Tryz.ntmps11
 go_wp2_with fail
 generalize w.alloc (.cells #[.string x, .string y] 9) = w0 at *
 refine Calls.mono HRd.out ?_
 rintro e w1 ⟨b1, h1⟩
 have HB1 : Hid (Below w.heap.size w w1) := HB0.out.trans (b1.mono HB0.out.size)
 clear b1 HRd
 rcases h1 with ⟨er, hr, her, her2, p, k, c, rfl⟩ | ⟨a, b, g, c, hr, rfl, hv⟩
 ·have hbe : ((er : Int) != 0) = true := by rw [bne_iff_ne]; omega
  have HE : Hid (res = #[.string ByteArray.empty, .int .i64 er]) := by
   show res = _
   rw [HRes.out]
   unfold readsE at hr
   unfold bothA rd20
   cases hx : read x.data.toList with
   | error e =>
    rw [hx] at hr
    cases hr
    rfl
   | ok A =>
    rw [hx] at hr
    cases hy : read y.data.toList with
    | error e =>
     simp only [hy] at hr
     cases hr
     rfl
    | ok B =>
     simp only [hy] at hr
     cases hr
  clear hr
  go_wp2_with fail
  go_ret2
  exact ⟨by rw [HE.out]; rfl, HB1.out⟩
 ·obtain ⟨hg, ⟨p1, k1, c1, p2, k2, c2, hsA, hA⟩, p3, k3, c3, p4, k4, c4, hsB, hBv⟩ := two_vals hv
  obtain ⟨hx, hy⟩ : read x.data.toList = .ok a /\ read y.data.toList = .ok b := by
   unfold readsE at hr
   cases hx : read x.data.toList with
   | error e => rw [hx] at hr; cases hr
   | ok A =>
    rw [hx] at hr
    cases hy : read y.data.toList with
    | error e => simp only [hy] at hr; cases hr
    | ok B =>
     simp only [hy] at hr
     cases hr
     exact ⟨rfl, rfl⟩
  have hTa := rd20_told hN (rd20_ok (N := N) hx)
  have hTb := rd20_told hN (rd20_ok (N := N) hy)
  have HEq : Hid (res = match (composedP N) (lift 10 N a) (lift 10 N b) with
    | .error e => #[.string ByteArray.empty, .int .i64 e]
    | .ok j => toldE N j) := by
   show res = _
   rw [HRes.out]
   unfold bothA
   rw [rd20_ok hx, rd20_ok hy]
   show (match (composedP N) (lift 10 N a) (lift 10 N b) with | .error e => #[Value.string ByteArray.empty, .int .i64 e] | .ok j => toldE N j) = _
   cases (composedP N) (lift 10 N a) (lift 10 N b) <;> rfl
  have HSa : Hid (∀ w', Below w1.heap.size w1 w' -> RSt (fun _ => False) w' N (lift 10 N a) (rfV (headJ 10 a) (.slice p1 k1 c1) (.slice p2 k2 c2))) := fun w' b9 => (rst_lift 10 N a _ (by omega) hA).below b9
  have HSb : Hid (∀ w', Below w1.heap.size w1 w' -> RSt (fun _ => False) w' N (lift 10 N b) (rfV (headJ 10 b) (.slice p3 k3 c3) (.slice p4 k4 c4))) := fun w' b9 => (rst_lift 10 N b _ (by omega) hBv).below b9
  have HXa : Hid (∀ w', Below w1.heap.size w1 w' -> Six w' g 0 (headJ 10 a) (.slice p1 k1 c1) (.slice p2 k2 c2)) := fun w' b9 => hsA.keep (b9.block g hg)
  have HXb : Hid (∀ w', Below w1.heap.size w1 w' -> Six w' g 6 (headJ 10 b) (.slice p3 k3 c3) (.slice p4 k4 c4)) := fun w' b9 => hsB.keep (b9.block g hg)
  have HTA : Hid (Told20 N (lift 10 N a)) := hTa
  have HTB : Hid (Told20 N (lift 10 N b)) := hTb
  have HSmall : Hid (∀ j, (composedP N) (lift 10 N a) (lift 10 N b) = .ok j -> Fit N j /\ nodes N j <= 1000000 /\ (tell N j).length <= 100000) := fun j h => by
   have h1 := (compose_makes N).wgt _ _ j h
   have h2 := told_wgt hTa
   have h3 := told_wgt hTb
   have h4 := wgt_len N j
   exact ⟨(Makes.fine hN2 (compose_makes N) hTa hTb h).fit, by omega, by omega⟩
  have HCl : Hid (∀ w', Below w1.heap.size w1 w' -> Calls Tryz.prog 23 #[rfV (headJ 10 a) (.slice p1 k1 c1) (.slice p2 k2 c2), rfV (headJ 10 b) (.slice p3 k3 c3) (.slice p4 k4 c4)] w' (RAns (fun _ => False) N ((composedP N) (lift 10 N a) (lift 10 N b)) w')) := fun w' b9 => by
   have h9 := both_ok N (fun _ => False) (lift 10 N a) (lift 10 N b) _ _ w' (fun _ _ h => h) (HSa.out w' b9) (HSb.out w' b9) (by have := hTa.nodes; omega) (by have := hTb.nodes; omega)
   rw [both_composed N _ _ hTa.good hTb.good] at h9
   exact h9
  generalize (composedP N) (lift 10 N a) (lift 10 N b) = rr at *
  clear hr hv hsA hsB hA hBv hx hy hTa hTb hg
  unfold rfV at HCl
  have hHeld : Below w1.heap.size w1 w1.drew := (Below.refl _ _).drew
  go_wp2_with fail
  refine M_begin 12 14 (fun w' => Below w1.heap.size w1 w') (by kernel_rfl) rfl ?_
  refine M_takeA 0 (v := ?vv23) rfl hHeld (Or.inl ⟨by rfl, ?hy23⟩) ?_
  case hy23 => (intro w' hSw; go_simp; try (with_reducible rfl))
  try simp only [Act.put, List.setIfInBounds_toArray, List.set_cons_zero, List.set_cons_succ]
  refine M_takeA 1 (v := ?vv24) rfl hHeld (Or.inl ⟨by rfl, ?hy24⟩) ?_
  case hy24 => (intro w' hSw; go_simp; try (with_reducible rfl))
  try simp only [Act.put, List.setIfInBounds_toArray, List.set_cons_zero, List.set_cons_succ]
  refine M_takeA 2 (v := ?vv25) rfl hHeld (Or.inl ⟨by rfl, ?hy25⟩) ?_
  case hy25 => (intro w' hSw; obtain ⟨x0, x1, x2, x3, x4, x5⟩ := HXa.out w' hSw; go_simp; try (with_reducible rfl))
  try simp only [Act.put, List.setIfInBounds_toArray, List.set_cons_zero, List.set_cons_succ]
  refine M_takeA 3 (v := ?vv26) rfl hHeld (Or.inl ⟨by rfl, ?hy26⟩) ?_
  case hy26 => (intro w' hSw; go_simp; try (with_reducible rfl))
  try simp only [Act.put, List.setIfInBounds_toArray, List.set_cons_zero, List.set_cons_succ]
  refine M_takeA 4 (v := ?vv27) rfl hHeld (Or.inl ⟨by rfl, ?hy27⟩) ?_
  case hy27 => (intro w' hSw; go_simp; try (with_reducible rfl))
  try simp only [Act.put, List.setIfInBounds_toArray, List.set_cons_zero, List.set_cons_succ]
  refine M_takeA 5 (v := ?vv28) rfl hHeld (Or.inl ⟨by rfl, ?hy28⟩) ?_
  case hy28 => (intro w' hSw; obtain ⟨x0, x1, x2, x3, x4, x5⟩ := HXb.out w' hSw; go_simp; try (with_reducible rfl))
  try simp only [Act.put, List.setIfInBounds_toArray, List.set_cons_zero, List.set_cons_succ]
  refine M_ready [6] (by kernel_rfl) (by decide) ?_
  refine AllM.cons (i := 6) rfl (fun K hK => ?_) AllM.nil
  rw [if_pos (by rfl)]
  go_wp2_with fail
  refine Calls.mono (HCl.out _ hHeld) ?_
  rintro e x1 ⟨b2, h2⟩
  cases hrr : rr with
  | error er =>
   rw [hrr] at h2 HEq
   obtain ⟨her, her2, rfl⟩ := h2
   have HTl : Hid (∀ w', Calls Tryz.prog 20 #[rfV ⟨0, false, 0, []⟩ (.slice none 0 0) (.slice none 0 0), .int .i64 er] w' fun e w'' => e = .returned (.tuple #[.string ByteArray.empty, .int .i64 er]) /\ Below w'.heap.size w' w'') := fun w' => rtold_err _ _ _ _ _ _ _ er her her2 w'
   have HE9 : Hid (res = #[.string ByteArray.empty, .int .i64 er]) := HEq.out
   clear HEq
   unfold rfV at HTl
   unfold rfV
   dsimp only
   refine hK.out _ _ (hHeld.trans (b2.mono hHeld.size)) (fun hHeld => ?_)
   clear hK K
   try simp only [Act.put, List.setIfInBounds_toArray, List.set_cons_zero, List.set_cons_succ]
   refine M_takeA 7 (v := ?vv29) rfl hHeld (Or.inl ⟨by rfl, ?hy29⟩) ?_
   case hy29 => (intro w' hSw; go_simp; try (with_reducible rfl))
   try simp only [Act.put, List.setIfInBounds_toArray, List.set_cons_zero, List.set_cons_succ]
   refine M_takeA 8 (v := ?vv30) rfl hHeld (Or.inl ⟨by rfl, ?hy30⟩) ?_
   case hy30 => (intro w' hSw; go_simp; try (with_reducible rfl))
   try simp only [Act.put, List.setIfInBounds_toArray, List.set_cons_zero, List.set_cons_succ]
   refine M_ready [9] (by kernel_rfl) (by decide) ?_
   refine AllM.cons (i := 9) rfl (fun K hK => ?_) AllM.nil
   rw [if_pos (by rfl)]
   go_wp2_with fail
   refine Calls.mono (HTl.out _) ?_
   rintro e x2 ⟨rfl, b3⟩
   dsimp only
   refine hK.out _ _ (hHeld.trans (b3.mono hHeld.size)) (fun hHeld => ?_)
   clear hK K
   try simp only [Act.put, List.setIfInBounds_toArray, List.set_cons_zero, List.set_cons_succ]
   refine M_takeA 10 (v := ?vv31) rfl hHeld (Or.inl ⟨by rfl, ?hy31⟩) ?_
   case hy31 => (intro w' hSw; go_simp; try (with_reducible rfl))
   try simp only [Act.put, List.setIfInBounds_toArray, List.set_cons_zero, List.set_cons_succ]
   refine M_takeA 11 (v := ?vv32) rfl hHeld (Or.inl ⟨by rfl, ?hy32⟩) ?_
   case hy32 => (intro w' hSw; go_simp; try (with_reducible rfl))
   try simp only [Act.put, List.setIfInBounds_toArray, List.set_cons_zero, List.set_cons_succ]
   have HBz : Hid (Below w.heap.size w x2) := HB1.out.trans (hHeld.mono HB1.out.size)
   refine M_tail [{ dst := some 4, op := Op.assign (Operand.tmp 28), type := 9, pos := "docs.go:118", after := #[{ on := 10, ground := Ground.data }, { on := 9, ground := Ground.chain }, { on := 0, ground := Ground.phase }, { on := 1, ground := Ground.phase }, { on := 2, ground := Ground.phase }, { on := 3, ground := Ground.phase }, { on := 4, ground := Ground.phase }, { on := 5, ground := Ground.phase }, { on := 6, ground := Ground.phase }, { on := 7, ground := Ground.phase }, { on := 8, ground := Ground.phase }, { on := 9, ground := Ground.phase }, { on := 10, ground := Ground.phase }, { on := 11, ground := Ground.phase }], guard := none }, { dst := some 5, op := Op.assign (Operand.tmp 29), type := 22, pos := "docs.go:118", after := #[{ on := 11, ground := Ground.data }, { on := 12, ground := Ground.chain }, { on := 0, ground := Ground.phase }, { on := 1, ground := Ground.phase }, { on := 2, ground := Ground.phase }, { on := 3, ground := Ground.phase }, { on := 4, ground := Ground.phase }, { on := 5, ground := Ground.phase }, { on := 6, ground := Ground.phase }, { on := 7, ground := Ground.phase }, { on := 8, ground := Ground.phase }, { on := 9, ground := Ground.phase }, { on := 10, ground := Ground.phase }, { on := 11, ground := Ground.phase }, { on := 12, ground := Ground.phase }], guard := none }] rfl (by kernel_rfl) (by kernel_rfl) ?_
   clear hHeld b2 b3
   go_wp2_with fail
   go_ret2
   exact ⟨by rw [HE9.out]; rfl, HBz.out⟩
  | ok j =>
   rw [hrr] at h2 HEq
   obtain ⟨u, rfl, hu⟩ := h2
   obtain ⟨hf, hn9, hl9⟩ := HSmall.out j hrr
   have HTl : Hid (∀ w', Below x1.heap.size x1 w' -> Calls Tryz.prog 20 #[u, .int .i64 0] w' fun e w'' => e = .returned (.tuple (toldE N j)) /\ Below w'.heap.size w' w'') := fun w' b8 => rtold_ok N j u w' (hu.below b8) hf hn9 hN2 hl9 ((HRm.out.below HB1.out).below ((hHeld.trans (b2.mono hHeld.size)).trans (b8.mono (hHeld.trans (b2.mono hHeld.size)).size)))
   obtain ⟨s9, er9, he9⟩ := toldE_form N j
   rw [he9] at HTl
   have HE9 : Hid (res = #[.string s9, .int .i64 er9]) := by show res = _; rw [HEq.out, <- he9]
   obtain ⟨un1, ul1, rfl⟩ := rst_form hu
   obtain ⟨⟨r1, i1, j1, rfl⟩, r2, i2, j2, rfl⟩ := rst_sl hu
   clear hu hf hn9 hl9 he9 HEq
   unfold rfV at HTl
   unfold rfV
   dsimp only
   refine hK.out _ _ (hHeld.trans (b2.mono hHeld.size)) (fun hHeld => ?_)
   clear hK K
   try simp only [Act.put, List.setIfInBounds_toArray, List.set_cons_zero, List.set_cons_succ]
   refine M_takeA 7 (v := ?vv33) rfl hHeld (Or.inl ⟨by rfl, ?hy33⟩) ?_
   case hy33 => (intro w' hSw; go_simp; try (with_reducible rfl))
   try simp only [Act.put, List.setIfInBounds_toArray, List.set_cons_zero, List.set_cons_succ]
   refine M_takeA 8 (v := ?vv34) rfl hHeld (Or.inl ⟨by rfl, ?hy34⟩) ?_
   case hy34 => (intro w' hSw; go_simp; try (with_reducible rfl))
   try simp only [Act.put, List.setIfInBounds_toArray, List.set_cons_zero, List.set_cons_succ]
   refine M_ready [9] (by kernel_rfl) (by decide) ?_
   refine AllM.cons (i := 9) rfl (fun K hK => ?_) AllM.nil
   rw [if_pos (by rfl)]
   go_wp2_with fail
   refine Calls.mono (HTl.out _ (Below.refl _ _)) ?_
   rintro e x2 ⟨rfl, b3⟩
   dsimp only
   refine hK.out _ _ (hHeld.trans (b3.mono hHeld.size)) (fun hHeld => ?_)
   clear hK K
   try simp only [Act.put, List.setIfInBounds_toArray, List.set_cons_zero, List.set_cons_succ]
   refine M_takeA 10 (v := ?vv35) rfl hHeld (Or.inl ⟨by rfl, ?hy35⟩) ?_
   case hy35 => (intro w' hSw; go_simp; try (with_reducible rfl))
   try simp only [Act.put, List.setIfInBounds_toArray, List.set_cons_zero, List.set_cons_succ]
   refine M_takeA 11 (v := ?vv36) rfl hHeld (Or.inl ⟨by rfl, ?hy36⟩) ?_
   case hy36 => (intro w' hSw; go_simp; try (with_reducible rfl))
   try simp only [Act.put, List.setIfInBounds_toArray, List.set_cons_zero, List.set_cons_succ]
   have HBz : Hid (Below w.heap.size w x2) := HB1.out.trans (hHeld.mono HB1.out.size)
   refine M_tail [{ dst := some 4, op := Op.assign (Operand.tmp 28), type := 9, pos := "docs.go:118", after := #[{ on := 10, ground := Ground.data }, { on := 9, ground := Ground.chain }, { on := 0, ground := Ground.phase }, { on := 1, ground := Ground.phase }, { on := 2, ground := Ground.phase }, { on := 3, ground := Ground.phase }, { on := 4, ground := Ground.phase }, { on := 5, ground := Ground.phase }, { on := 6, ground := Ground.phase }, { on := 7, ground := Ground.phase }, { on := 8, ground := Ground.phase }, { on := 9, ground := Ground.phase }, { on := 10, ground := Ground.phase }, { on := 11, ground := Ground.phase }], guard := none }, { dst := some 5, op := Op.assign (Operand.tmp 29), type := 22, pos := "docs.go:118", after := #[{ on := 11, ground := Ground.data }, { on := 12, ground := Ground.chain }, { on := 0, ground := Ground.phase }, { on := 1, ground := Ground.phase }, { on := 2, ground := Ground.phase }, { on := 3, ground := Ground.phase }, { on := 4, ground := Ground.phase }, { on := 5, ground := Ground.phase }, { on := 6, ground := Ground.phase }, { on := 7, ground := Ground.phase }, { on := 8, ground := Ground.phase }, { on := 9, ground := Ground.phase }, { on := 10, ground := Ground.phase }, { on := 11, ground := Ground.phase }, { on := 12, ground := Ground.phase }], guard := none }] rfl (by kernel_rfl) (by kernel_rfl) ?_
   clear hHeld b2 b3
   go_wp2_with fail
   go_ret2
   exact ⟨by rw [HE9.out]; rfl, HBz.out⟩
theorem tabIs_of_third {P : Program} {W : World} {name : String} {k : IntKind} {zs : List Int} {x y : String × DataW Unit} {rest : List (String × DataW Unit)} {g : Nat} {t e : TypeId} {n : Nat}
  (hg : P.globalNamed name = some g) (hty : (P.globals[g]?).map (·.type) = some t) (ht : P.underlying t = some (.array n e)) (he : P.underlying e = some (.int k)) (hce : P.cellsOf e = 1) (hct : P.cellsOf t = n)
  (h : laidMet P (x :: y :: (name, Lib.tabData k zs) :: rest) W) : Lib.TabIs P W name k zs := by
 obtain ⟨ps, ⟨_, _, _, _, _, _, _, _, _, _, ⟨_, _, _, _, _, _, _, _, _, _, ⟨g', t', cs, fuel, p, q, hg', ht', hvar, hd, _, _⟩, _⟩, _⟩, _⟩ := h
 obtain rfl := Option.some.inj (hg.symm.trans hg')
 obtain rfl := Option.some.inj (hty.symm.trans ht')
 unfold Lib.TabIs
 rw [hvar, <- Lib.cells_of_tab ht he hce hct hd]
theorem tab_of_laid {x y : String × DataW Unit} {rest : List (String × DataW Unit)} {W : World} (hn : ((x :: y :: ("internal/strconv.uint64pow10", Lib.tabData .u64 Lib.pow10Tab) :: rest).all fun x => x.2.handleName?.isNone) = true)
  (h : laidMetH Tryz.prog (x :: y :: ("internal/strconv.uint64pow10", Lib.tabData .u64 Lib.pow10Tab) :: rest) W) : Tab W.heap.size W := by
 rw [Go.MakeChecks.laidMetH_plain _ _ _ hn] at h
 exact Lib.tabBelow_of_tabIs (tabIs_of_third (P := Tryz.prog) (g := 5) (t := 176) (e := 108) (n := 20) (by kernel_rfl) (by kernel_rfl) Tryz.underlying176 Tryz.underlying108 (by kernel_rfl) (by kernel_rfl) h)
theorem bothA_form (N : Nat) (r : J N -> J N -> Except Nat (J N)) (a b : Bs) : ∃ (s : ByteArray) (er : Nat), bothA N r a b = #[.string s, .int .i64 er] := by
 unfold bothA
 cases rd20 N a with
 | error e => exact ⟨_, e, rfl⟩
 | ok A =>
  cases rd20 N b with
  | error e => exact ⟨_, e, rfl⟩
  | ok B =>
   dsimp only
   cases r A B with
   | error e => exact ⟨_, e, rfl⟩
   | ok j => exact toldE_form N j
set_option maxRecDepth 100000 in
set_option maxHeartbeats 4000000 in
theorem msays_walk (N : Nat) (hN : 20 <= N) (hN2 : N <= 1000) (a b : ByteArray) (w : World) (ha : a.size <= maxLen) (hb : b.size <= maxLen) (hT : Tab w.heap.size w) (hR : Room w) :
  Calls Tryz.prog 3 #[.string a, .string b] w fun e w' => e = .returned (.bool true) /\ Below w.heap.size w w' := by
 obtain ⟨s1, e1, h1⟩ := bothA_form N (applyR N) a.data.toList b.data.toList
 obtain ⟨s2, e2, h2⟩ := bothA_form N (diffR N) a.data.toList b.data.toList
 obtain ⟨s3, e3, h3⟩ := bothA_form N (composedP N) a.data.toList b.data.toList
 have HA : Hid (SaysM w 6 #[.string a, .string b] (.tuple #[.string s1, .int .i64 e1])) := apply_says hN hN2 hT ha hb rfl rfl h1 ⟨_, _, rfl⟩
 have HD : Hid (SaysM w 8 #[.string a, .string b] (.tuple #[.string s2, .int .i64 e2])) := diff_says hN hN2 hT ha hb rfl rfl h2 ⟨_, _, rfl⟩
 have HC : Hid (SaysM w 10 #[.string a, .string b] (.tuple #[.string s3, .int .i64 e3])) := compose_says hN hN2 hT ha hb rfl rfl h3 ⟨_, _, rfl⟩
 have RA : Hid (SaysM w 7 #[.string a, .string b] (.tuple #[.string s1, .int .i64 e1])) := fun w1 b1 => by
  have h9 := rapply_any hN hN2 a b w1 (hR.below b1)
  rw [h1] at h9
  exact h9
 have RD : Hid (SaysM w 9 #[.string a, .string b] (.tuple #[.string s2, .int .i64 e2])) := fun w1 b1 => by
  have h9 := rdiff_any hN hN2 a b w1 (hR.below b1)
  rw [h2] at h9
  exact h9
 have RC : Hid (SaysM w 11 #[.string a, .string b] (.tuple #[.string s3, .int .i64 e3])) := fun w1 b1 => by
  have h9 := rcompose_any hN hN2 a b w1 (hR.below b1)
  rw [h3] at h9
  exact h9
 clear h1 h2 h3 hT hR
 go_enter Tryz.func3, Tryz.ntmps3
 go_wp2_with fail
 refine Calls.mono (HA.out w (Below.refl _ _)) ?_
 rintro e w1 ⟨rfl, b1⟩
 have HB1 : Hid (Below w.heap.size w w1) := b1
 clear b1
 go_wp2_with fail
 refine Calls.mono (RA.out w1 HB1.out) ?_
 rintro e w2 ⟨rfl, b2⟩
 have HB2 : Hid (Below w.heap.size w w2) := HB1.out.trans (b2.mono HB1.out.size)
 clear b2
 go_wp2_with fail
 refine Calls.mono (HD.out w2 HB2.out) ?_
 rintro e w3 ⟨rfl, b3⟩
 have HB3 : Hid (Below w.heap.size w w3) := HB2.out.trans (b3.mono HB2.out.size)
 clear b3
 go_wp2_with fail
 refine Calls.mono (RD.out w3 HB3.out) ?_
 rintro e w4 ⟨rfl, b4⟩
 have HB4 : Hid (Below w.heap.size w w4) := HB3.out.trans (b4.mono HB3.out.size)
 clear b4
 go_wp2_with fail
 refine Calls.mono (HC.out w4 HB4.out) ?_
 rintro e w5 ⟨rfl, b5⟩
 have HB5 : Hid (Below w.heap.size w w5) := HB4.out.trans (b5.mono HB4.out.size)
 clear b5
 go_wp2_with fail
 refine Calls.mono (RC.out w5 HB5.out) ?_
 rintro e w6 ⟨rfl, b6⟩
 have HB6 : Hid (Below w.heap.size w w6) := HB5.out.trans (b6.mono HB5.out.size)
 clear b6
 go_wp2_with fail
 go_ret
 exact ⟨by simp, HB6.out⟩
end Go.Proofs.YtjcdklbimaclkaaGreatDoor
