/- Contracts over this translation: grants.worth and the function that it hands over. -/
import Derived.Test.YtnjjlnhchfoigabDoorGrKey
namespace Go.Proofs.YtnjjlnhchfoigabDoor
open Go.RowKit Go.Maps
set_option linter.unusedVariables false
set_option linter.unusedSimpArgs false
theorem grown_any {w w' : World} {row : Option Nat} (h : Below w.heap.size w w') : w.grownBy w' row := ⟨h.os, h.tape, h.output, h.size, fun k hk _ => h.block k hk⟩
def keyAt (f : Bs → List Nat) (s : Bs) : Bs := keyP (f s)
/-- is that word's key one of those ahead? -/
def seenD (f : Bs → List Nat) (T : List Bs) (j : Nat) : Bool := match T[j]? with
  | some s => decide (keyAt f s ∈ (T.take j).map (keyAt f))
  | none => false
theorem seenD_at {f : Bs → List Nat} {T : List Bs} {j : Nat} (hj : j < T.length) : seenD f T j = decide (keyAt f T[j] ∈ (T.take j).map (keyAt f)) := by
  unfold seenD
  rw [List.getElem?_eq_getElem hj]
theorem worthK_kept (f : Bs → List Nat) (T : List Bs) : ∀ k, k ≤ T.length → (∀ x, x ∈ (worthK f (T.take k)).1 ↔ x ∈ (T.take k).map f) ∧ (worthK f (T.take k)).2 = keptK T (seenD f T) k
  | 0, _ => ⟨fun x => by simp [worthK], by simp [worthK, keptK]⟩
  | k + 1, hk => by
    obtain ⟨h1, h2⟩ := worthK_kept f T k (by omega)
    have hk' : k < T.length := by omega
    have hd : seenD f T k = decide (f T[k] ∈ (worthK f (T.take k)).1) := by
      rw [seenD_at hk']
      apply decide_eq_decide.2
      rw [h1]
      constructor
      · intro h
        obtain ⟨t, ht, e⟩ := List.mem_map.1 h
        exact List.mem_map.2 ⟨t, ht, key_inj e⟩
      · intro h
        obtain ⟨t, ht, e⟩ := List.mem_map.1 h
        exact List.mem_map.2 ⟨t, ht, by unfold keyAt; rw [e]⟩
    rw [worthK_succ f T hk', keptK_succ T _ hk', ← h2, hd]
    constructor
    · intro x
      rw [List.take_succ_eq_append_getElem hk', List.map_append]
      show x ∈ f T[k] :: (worthK f (T.take k)).1 ↔ _
      rw [List.mem_cons, h1, List.mem_append, List.map_cons, List.map_nil, List.mem_singleton]
      exact Or.comm
    · show (if f T[k] ∈ (worthK f (T.take k)).1 then _ else _) = _
      by_cases hm : f T[k] ∈ (worthK f (T.take k)).1
      · rw [if_pos hm, decide_eq_true hm]
        simp
      · rw [if_neg hm, decide_eq_false hm]
        rfl
theorem worth_kept (held : List Rl) (r : Rl) (side : Nat) : keptK (wordsP r side) (seenD (placesP held side) (wordsP r side)) (wordsP r side).length = worthP held r side := by
  have h := (worthK_kept (placesP held side) (wordsP r side) _ (Nat.le_refl _)).2
  rw [List.take_of_length_le (Nat.le_refl _)] at h
  exact h.symm
set_option maxRecDepth 100000 in
set_option maxHeartbeats 4000000 in
theorem seen_any (s : Bs) (p8 p9 ms base b n j : Nat) (f : Bs → List Nat) (L : List Bs) (w : World) (hs : s.length ≤ maxLen) (h8 : w.cell? ⟨p8, 0, none⟩ = some (.map (some b))) (h9 : w.cell? ⟨p9, 0, none⟩ = some (.map (some ms)))
    (hp : PlIs w base b n f) (hn : n < maxLen) (hset : SetIs w ms j L) (hj : j < maxLen) (hT : TabW w) (hf : (f s).length ≤ 1048576) (hfs : ∀ n ∈ f s, n ≤ 1099511627776) :
    Calls Tryd.prog 58 #[.string (Ba s), .pointer (some ⟨p8, 0, none⟩), .pointer (some ⟨p9, 0, none⟩)] w fun e w' => e = .returned (.bool (decide (keyAt f s ∈ L))) ∧ SetIs w' ms (j + 1) (L ++ [keyAt f s]) ∧ w.grownBy w' (some ms) := by
  obtain ⟨D, hgp, hnd⟩ := hp
  obtain ⟨E, hmp, hhas⟩ := hset
  have HG : Hid (Grp w base b n D) := hgp
  have HD : Hid (∀ s : Bs, Nd (f s) (D.atKey (.string s) .nil)) := hnd
  have HM : Hid (w.ownsMap Tryd.prog 9 unitElem ms j E) := hmp
  have HH : Hid (∀ s : Bs, Maps.has E (.string s) = decide (s ∈ L)) := hhas
  have hkey := keyS s hs
  have HT : Hid (TabW w) := hT
  have hkl : (keyAt f s).length ≤ maxLen := by
    have := key_len (f s) hfs
    unfold keyAt maxLen
    omega
  have hkey2 := keyS (keyAt f s) hkl
  have HK : Hid (∀ v zs, D.atKey (.string s) .nil = rowDatum .i64 v zs → w.ownsInts base 3 .i64 v zs → Calls Tryd.prog 59 #[v] w fun e w' => e = .returned (.string (Ba (keyAt f s))) ∧ Below w.heap.size w w') := fun v zs hat ho => by
    have hz := Nd.ints (hat ▸ hnd s) ho
    subst hz
    exact keyOf_any base v (f s) w ho hf hfs hT
  have HP : Hid (∀ t : Bs, Maps.has (E.put (.string (keyAt f s)) (.agg [])) (.string t) = decide (t ∈ L ++ [keyAt f s])) := has_put hmp.isMap hhas _
  have hhk := hhas (keyAt f s)
  clear hgp hnd hmp hhas hT hf hfs hs hkl
  generalize keyAt f s = ks at *
  generalize decide (ks ∈ L) = res at *
  generalize Ba s = y at *
  go_enter Tryd.func58, Tryd.ntmps58
  go_wp2_with (at_lookup; refine wpList_lookup_groups _ rfl _ _ 92 rfl 9 97 3 .i64 lawS Tryd.underlying92 (zeroI _) base b n D rfl HG.out hn _ _ rfl hkey ?_; intro v zs hat hoi hzl hback)
  refine Calls.mono (HK.out v zs hat hoi) ?_
  rintro e w1 ⟨rfl, hb⟩
  have HM1 : Hid (w1.ownsMap Tryd.prog 9 unitElem ms j E) := HM.out.kept (grown_none hb) (by simp)
  have HM2 : Hid ((w1.alloc (.cells #[] 88)).ownsMap Tryd.prog 9 unitElem ms j E) := HM1.out.alloc _
  have HB : Hid (Below w.heap.size w w1) := hb
  have h9b : w1.cell? ⟨p9, 0, none⟩ = some (.map (some ms)) := cell_stays h9 hb
  have HB2 : Hid (Below w.heap.size w (w1.alloc (.cells #[] 88))) := hb.alloc hb.size _
  have h9c : (w1.alloc (.cells #[] 88)).cell? ⟨p9, 0, none⟩ = some (.map (some ms)) := cell_stays h9 HB2.out
  clear hb hat hoi hzl hback HK HG HD
  go_wp2_with (first
    | (at_lookup; refine wpList_lookup_own_unit _ rfl _ _ 86 rfl 9 88 lawS Tryd.underlying86 (zeroU _) ms j E rfl HM1.out _ _ rfl hkey2 ?_; rw [hhk])
    | (at_mapUpdate; refine wpList_mapUpdate_own _ rfl _ _ _ 86 rfl 9 88 lawS Tryd.underlying86 (unitElem (H := Unit)) ms j E rfl HM2.out hj _ _ _ rfl rfl hkey2 _ [] unitElem_mk ?_; intro w2 hown2 hgrow2))
  have HS : Hid (SetIs w2 ms (j + 1) (L ++ [ks])) := ⟨_, hown2, HP.out⟩
  have HGr : Hid (w.grownBy w2 (some ms)) := (grown_any HB2.out).trans hgrow2
  clear hown2 hgrow2
  go_wp2_with fail
  go_ret
  exact ⟨rfl, HS.out, HGr.out⟩
theorem cell_grown {w w' : World} {g o : Nat} {row : Option Nat} {v : Value} (h : w.cell? ⟨g, o, none⟩ = some v) (hg : w.grownBy w' row) (hne : some g ≠ row) : w'.cell? ⟨g, o, none⟩ = some v := by
  have hlt := cell_lt h
  have hb := hg.block g hlt hne
  unfold World.cell? at h ⊢
  rw [hb]
  exact h
/-- how it stands behind j words -/
def WJ (W : World) (p8 p9 ms b : Nat) (f : Bs → List Nat) (T : List Bs) (j : Nat) (w : World) : Prop :=
  Below W.heap.size W w ∧ w.cell? ⟨p8, 0, none⟩ = some (.map (some b)) ∧ w.cell? ⟨p9, 0, none⟩ = some (.map (some ms)) ∧ SetIs w ms j ((T.take j).map (keyAt f))
theorem WJ.grown {W w w' : World} {p8 p9 ms b j g : Nat} {f : Bs → List Nat} {T : List Bs} (h : WJ W p8 p9 ms b f T j w) (hg : w.grownBy w' (some g)) (hW : W.heap.size ≤ g) (h8 : p8 < g) (h9 : p9 < g) (hm : ms < g) : WJ W p8 p9 ms b f T j w' := by
  obtain ⟨h1, h2, h3, h4⟩ := h
  refine ⟨h1.grown hg h1.size (fun k hk => by injection hk with hk; omega), cell_grown h2 hg (by simp; omega), cell_grown h3 hg (by simp; omega), h4.kept hg (by simp; omega)⟩
theorem WJ.step {W w w' : World} {p8 p9 ms b j : Nat} {f : Bs → List Nat} {T : List Bs} (h : WJ W p8 p9 ms b f T j w) (hj : j < T.length) (hg : w.grownBy w' (some ms)) (hW : W.heap.size ≤ ms) (h8 : p8 ≠ ms) (h9 : p9 ≠ ms) (hs : SetIs w' ms (j + 1) ((T.take j).map (keyAt f) ++ [keyAt f T[j]])) : WJ W p8 p9 ms b f T (j + 1) w' := by
  obtain ⟨h1, h2, h3, h4⟩ := h
  refine ⟨h1.grown hg h1.size (fun k hk => by injection hk with hk; omega), cell_grown h2 hg (by simp; omega), cell_grown h3 hg (by simp; omega), ?_⟩
  rw [List.take_succ_eq_append_getElem hj, List.map_append]
  exact hs
set_option maxRecDepth 100000 in
set_option maxHeartbeats 4000000 in
theorem worth_any (v a b c : Value) (held : List Rl) (r : Rl) (side : Nat) (w : World) (hv : Rls w v held) (ha : Strs w a r.1) (hb : Strs w b r.2.1) (hc : Strs w c r.2.2) (hr : SmR r) (hs : side ≤ 2) (hl : held.length ≤ 1048576) (hsm : ∀ r ∈ held, SmR r) (hT : TabW w) :
    Calls Tryd.prog 46 #[v, .agg #[a, b, c], .int .i64 side] w fun e w' => ∃ u, e = .returned u ∧ OwnN w.heap.size w' u (worthP held r side) ∧ Below w.heap.size w w' := by
  have hmm := @run_makeMap Tryd.prog
  obtain ⟨pa, ca, rfl, hna⟩ := ha.form
  obtain ⟨pb, cb, rfl, hnb⟩ := hb.form
  obtain ⟨pc, cc, rfl, hnc⟩ := hc.form
  obtain ⟨pv, cv, rfl, hnv⟩ := hv.form
  obtain ⟨w0, hw0⟩ : ∃ w0, w0 = w.alloc (.cells #[.slice pa r.1.length ca, .slice pb r.2.1.length cb, .slice pc r.2.2.length cc] 40) := ⟨_, rfl⟩
  have hB0 : Below w.heap.size w w0 := by rw [hw0]; exact (Below.refl _ _).alloc (Nat.le_refl _) _
  have hs0 : w0.heap.size = w.heap.size + 1 := by rw [hw0]; simp
  have HB0 : Hid (Below w.heap.size w w0) := hB0
  have HS0 : Hid (w0.heap.size = w.heap.size + 1) := hs0
  have HW0 : Hid (w0 = w.alloc (.cells #[.slice pa r.1.length ca, .slice pb r.2.1.length cb, .slice pc r.2.2.length cc] 40)) := hw0
  have HBx : Hid (∀ w1, Below w0.heap.size w0 w1 → w1.cell? ⟨w.heap.size, 0, none⟩ = some (.slice pa r.1.length ca) ∧ w1.cell? ⟨w.heap.size, 1, none⟩ = some (.slice pb r.2.1.length cb) ∧ w1.cell? ⟨w.heap.size, 2, none⟩ = some (.slice pc r.2.2.length cc)) := fun w1 h => by
    rw [hw0] at h
    exact bx3a h
  have HPa := parted_any _ held side w0 (Sq.below rlAt_stays hv hB0) hs hl hsm
  have HPt : Hid (Calls Tryd.prog 56 #[.slice pv held.length cv, .int .i64 side] w0 fun e w' => ∃ (y : Value) (L : List RV) (n : Nat), e = .returned (.tuple #[y, .map (some w0.heap.size)]) ∧ L.map (·.1) = whatP held side ∧ w'.ownsRow (w0.heap.size + 1) 40 3 y L.length (flatG L) ∧ StG w0 L ∧
      PlIs w' (w0.heap.size + 1) w0.heap.size n (placesP held side) ∧ n ≤ held.length * 1048576 ∧ Below w0.heap.size w0 w') := HPa
  have HWd : Hid (∀ w1, Below w.heap.size w w1 → Calls Tryd.prog 48 #[.agg #[.slice pa r.1.length ca, .slice pb r.2.1.length cb, .slice pc r.2.2.length cc], .int .i64 side] w1 (WordsQ w1 (wordsP r side))) := fun w1 h => wordsOf_any _ _ _ r side w1 (ha.below h) (hb.below h) (hc.below h) hr.1 hr.2.1 hr.2.2.1 hr.2.2.2 hs
  have HTl : Hid ((wordsP r side).length ≤ 1048576) := words_small hr side
  have HTf : Hid (FitS (wordsP r side)) := words_fit hr side
  have HKp : Hid (keptK (wordsP r side) (seenD (placesP held side) (wordsP r side)) (wordsP r side).length = worthP held r side) := worth_kept held r side
  have HPs : Hid (∀ s, (placesP held side s).length ≤ 1048576 ∧ ∀ n ∈ placesP held side s, n ≤ 1099511627776) := fun s => by
    have h1 := places_len held side held.length s
    exact ⟨by unfold placesP; omega, fun n hn => by have := places_lt hn; omega⟩
  have HT : Hid (TabW w) := hT
  clear hv ha hb hc hr hsm hT HPa hw0 hB0 hs0
  generalize worthP held r side = res at *
  generalize wordsP r side = T at *
  generalize placesP held side = f at *
  generalize hsd : (Value.int .i64 side) = sd at *
  clear hsd
  generalize r.1.length = n1 at *
  generalize r.2.1.length = n2 at *
  generalize r.2.2.length = n3 at *
  go_enter Tryd.func46, Tryd.ntmps46
  go_wp2_with fail
  rw [← HW0.out]
  refine Calls.mono HPt.out ?_
  rintro e w2 ⟨y, L, n, rfl, _, hrow, _, hpl, hn, hb2⟩
  have HP2 : Hid (PlIs w2 (w0.heap.size + 1) w0.heap.size n f) := hpl
  have HN2 : Hid (n ≤ held.length * 1048576) := hn
  have HB2 : Hid (Below w0.heap.size w0 w2) := hb2
  clear hrow hpl hn hb2
  obtain ⟨w5, hw5⟩ : ∃ w5, w5 = ((w2.alloc (.cells #[.map (some w0.heap.size)] 92)).alloc (.map #[] 0)).alloc (.cells #[.map (some (w2.heap.size + 1))] 86) := ⟨_, rfl⟩
  have hsz3 : (w2.alloc (.cells #[.map (some w0.heap.size)] 92)).heap.size = w2.heap.size + 1 := by simp
  have hsz4 : ((w2.alloc (.cells #[.map (some w0.heap.size)] 92)).alloc (.map #[] 0)).heap.size = w2.heap.size + 1 + 1 := by simp
  have hb3 : Below w2.heap.size w2 (w2.alloc (.cells #[.map (some w0.heap.size)] 92)) := (Below.refl _ _).alloc (Nat.le_refl _) _
  have hb4 : Below w2.heap.size w2 ((w2.alloc (.cells #[.map (some w0.heap.size)] 92)).alloc (.map #[] 0)) := hb3.alloc hb3.size _
  have hb5 : Below w2.heap.size w2 w5 := by rw [hw5]; exact hb4.alloc hb4.size _
  have hsz5 : w5.heap.size = w2.heap.size + 3 := by rw [hw5]; simp
  have hset : SetIs w5 (w2.heap.size + 1) 0 [] := by
    have h := SetIs.made (w2.alloc (.cells #[.map (some w0.heap.size)] 92))
    rw [hsz3] at h
    rw [hw5]
    exact h.below ((Below.refl _ _).alloc (Nat.le_refl _) _)
  have hc8 : w5.cell? ⟨w2.heap.size, 0, none⟩ = some (.map (some w0.heap.size)) := by
    have h : (w2.alloc (.cells #[.map (some w0.heap.size)] 92)).cell? ⟨w2.heap.size, 0, none⟩ = some (.map (some w0.heap.size)) := by rw [World.cell?_alloc_at _ _ _ _ rfl]; rfl
    rw [hw5]
    exact cell_stays h (((Below.refl _ _).alloc (Nat.le_refl _) _).alloc (by simp) _)
  have hc9 : w5.cell? ⟨w2.heap.size + 1 + 1, 0, none⟩ = some (.map (some (w2.heap.size + 1))) := by
    rw [hw5, World.cell?_alloc_at _ _ _ _ hsz4.symm]
    rfl
  have HJ5 : Hid (∀ w1, Below w5.heap.size w5 w1 → WJ w2 w2.heap.size (w2.heap.size + 1 + 1) (w2.heap.size + 1) w0.heap.size f T 0 w1) := fun w1 h => ⟨hb5.trans (h.mono hb5.size), cell_stays hc8 h, cell_stays hc9 h, hset.below h⟩
  have HB5 : Hid (Below w.heap.size w w5) := HB0.out.trans ((HB2.out.trans (hb5.mono HB2.out.size)).mono HB0.out.size)
  have HW5 : Hid (w5 = ((w2.alloc (.cells #[.map (some w0.heap.size)] 92)).alloc (.map #[] 0)).alloc (.cells #[.map (some (w2.heap.size + 1))] 86)) := hw5
  have HS5 : Hid (w5.heap.size = w2.heap.size + 3) := hsz5
  have HB25 : Hid (Below w2.heap.size w2 w5) := hb5
  obtain ⟨z0, z1, z2⟩ := HBx.out w5 (HB2.out.trans (hb5.mono HB2.out.size))
  have HZ : Hid (w5.cell? ⟨w.heap.size, 0, none⟩ = some (.slice pa n1 ca) ∧ w5.cell? ⟨w.heap.size, 1, none⟩ = some (.slice pb n2 cb) ∧ w5.cell? ⟨w.heap.size, 2, none⟩ = some (.slice pc n3 cc)) := ⟨z0, z1, z2⟩
  rw [hw5] at z0 z1 z2
  clear hw5 hsz3 hsz4 hb3 hb4 hb5 hsz5 hset hc8 hc9
  go_wp2_with fail
  rw [← HW5.out]
  refine Calls.mono (HWd.out w5 HB5.out) ?_
  rintro e w6 ⟨u, rfl, hu1, hu2, hb6⟩
  obtain ⟨g, cap, rfl, hg, hR⟩ := hu1.row hu2
  have hcap : cap ≤ maxLen := by obtain ⟨_, _, h, _⟩ := hR; exact h
  have HDl : Hid (Calls Tryd.prog 57 #[.slice (some ⟨g, 0, none⟩) T.length cap, .func (.func 58) #[] #[.pointer (some ⟨w2.heap.size, 0, none⟩), .pointer (some ⟨w2.heap.size + 1 + 1, 0, none⟩)]] w6 fun e w' => e = .returned (.slice (some ⟨g, 0, none⟩) (keptK T (seenD f T) T.length).length cap) ∧ RowT w' g cap (keptK T (seenD f T) T.length) ∧ WJ w2 w2.heap.size (w2.heap.size + 1 + 1) (w2.heap.size + 1) w0.heap.size f T T.length w') := by
    have h5 := HS5.out
    have htl := HTl.out
    refine delF_seen _ _ g cap T (seenD f T) (fun j x => WJ w2 w2.heap.size (w2.heap.size + 1 + 1) (w2.heap.size + 1) w0.heap.size f T j x) (some (w2.heap.size + 1)) (by simp; omega) w6 hR htl hcap (fun j hj w7 h7 => ?_) (fun j w7 w8 h7 hgr => h7.grown hgr (by omega) (by omega) (by omega) (by omega)) (HJ5.out w6 hb6)
    obtain ⟨k1, k2, k3, k4⟩ := h7
    have hTw : Below w.heap.size w w7 := HB0.out.trans ((HB2.out.trans (k1.mono HB2.out.size)).mono HB0.out.size)
    refine Calls.mono (seen_any T[j] w2.heap.size (w2.heap.size + 1 + 1) (w2.heap.size + 1) (w0.heap.size + 1) w0.heap.size n j f _ w7 (HTf.out _ (List.getElem_mem hj)) k2 k3 (HP2.out.below k1) (by have := HN2.out; unfold maxLen; omega) k4 (by unfold maxLen; omega) (HT.out.below hTw) (HPs.out _).1 (HPs.out _).2) ?_
    rintro e w8 ⟨rfl, s1, s2⟩
    exact ⟨by rw [seenD_at hj], WJ.step ⟨k1, k2, k3, k4⟩ hj s2 (Nat.le_succ _) (by omega) (by omega) s1, s2⟩
  have HG : Hid (w.heap.size ≤ g) := by
    have h1 := HB5.out.size
    show _ ≤ _
    omega
  have HBw : Hid (Below w.heap.size w w2) := HB0.out.trans (HB2.out.mono HB0.out.size)
  clear hu1 hu2 hb6 hg hR hcap
  go_wp2_with fail
  refine Calls.mono HDl.out ?_
  rintro e w9 ⟨rfl, h1, h2⟩
  have HR9 : Hid (RowT w9 g cap res) := by rw [← HKp.out]; exact h1
  have HB9 : Hid (Below w.heap.size w w9) := HBw.out.trans (h2.1.mono HBw.out.size)
  have HL9 : Hid ((keptK T (seenD f T) T.length).length = res.length) := by show _ = _; rw [HKp.out]
  clear h1 h2
  go_wp2_with fail
  go_ret
  refine ⟨_, rfl, ?_, HB9.out⟩
  show OwnN _ _ (.slice (some ⟨g, 0, none⟩) (keptK T (seenD f T) T.length).length cap) _
  rw [HL9.out]
  exact HR9.out.own HG.out
end Go.Proofs.YtnjjlnhchfoigabDoor
