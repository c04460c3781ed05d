/- The law PtrApart over this translation: it answers true at every five texts, and leaves old memory alone. -/
import Derived.Test.YthdgfehfoidnbabGreatDoorPtrSize
namespace Go.Proofs.YthdgfehfoidnbabGreatDoor
open Go.RowKit
set_option linter.unusedVariables false
set_option linter.unusedSimpArgs false
theorem putA_says (N : Nat) (hN : 20 ≤ N) {doc p v : ByteArray} {x y z : Bs} {a : Array Value} {w : World} (hE : Env w) (hd : doc.size ≤ 8000000) (hp : p.size ≤ 8000000) (hv : v.size ≤ 8000000) (hx : doc.data.toList = x) (hy : p.data.toList = y) (hz : v.data.toList = z) (ha : putA N x y z = a) (hF : ∀ D L G R, rd20 N x = .ok D → stepsE y = .ok L → rd20 N z = .ok G → putR N D L G = .ok R → Fine N R) :
    Says w 7 #[.string doc, .string p, .string v] (.tuple a) := by
  intro w1 hb
  subst hx hy hz ha
  exact putTop_any N hN doc p v w1 hd hp hv (hE.below hb) hF
theorem putA_form (N : Nat) (x y z : Bs) : ∃ (s : ByteArray) (er : Nat), putA N x y z = #[.string s, .int .i64 er] := by
  unfold putA
  split
  · exact ⟨_, _, rfl⟩
  · split
    · exact ⟨_, _, rfl⟩
    · split
      · exact ⟨_, _, rfl⟩
      · exact madeA_form _ _
theorem rd20_nz {N : Nat} {x : Bs} {e : Nat} (h : rd20 N x = .error e) : e ≠ 0 := by
  unfold rd20 at h
  cases hr : read x with
  | error e' =>
    rw [hr] at h
    cases h
    exact read_err hr
  | ok j => rw [hr] at h; cases h
/-- what is put where something is -/
theorem putA_there {N : Nat} {x y z : Bs} {D c : J N} {L : List Bs} (h1 : rd20 N x = .ok D) (h2 : stepsE y = .ok L) (hr : Rise N D) (h3 : getP N D L = some c) {G : J N} (h4 : rd20 N z = .ok G) : putA N x y z = toldE N (setP N D L (fun m => lift N m G)) := by
  unfold putA
  rw [h1]
  simp only [h2, h4]
  rw [putR_there hr h3]
  rfl
theorem putA_zero {N : Nat} (hN : 20 ≤ N) (hM : N ≤ 100000) {x y z : Bs} {D c : J N} {L : List Bs} (h1 : rd20 N x = .ok D) (h2 : stepsE y = .ok L) (h3 : getP N D L = some c) {s : ByteArray} (h : putA N x y z = #[.string s, .int .i64 0]) :
    ∃ G, rd20 N z = .ok G ∧ Told20 N (setP N D L (fun m => lift N m G)) ∧ s = ⟨(tell N (setP N D L (fun m => lift N m G))).toArray⟩ := by
  have hD := rd20_told hN h1
  cases h4 : rd20 N z with
  | error e =>
    exfalso
    have he := rd20_nz h4
    unfold putA at h
    rw [h1] at h
    simp only [h2, h4] at h
    simp at h
    omega
  | ok G =>
    rw [putA_there h1 h2 (rise_of_good _ _ hD.good) h3 h4] at h
    have hf := fine_set hN hM (join_steps h2).2 hD (rd20_told hN h4) (L := L)
    exact ⟨G, rfl, told_zero hf.1 h⟩
theorem putA_fine {N : Nat} (hN : 20 ≤ N) (hM : N ≤ 100000) {x y z : Bs} {D c : J N} {L : List Bs} (h1 : rd20 N x = .ok D) (h2 : stepsE y = .ok L) (h3 : getP N D L = some c) :
    ∀ D L G R, rd20 N x = .ok D → stepsE y = .ok L → rd20 N z = .ok G → putR N D L G = .ok R → Fine N R := by
  intro D' L' G R e1 e2 e3 e4
  rw [h1] at e1
  rw [h2] at e2
  cases e1
  cases e2
  have hD := rd20_told hN h1
  rw [putR_there (rise_of_good _ _ hD.good) h3] at e4
  cases e4
  exact (fine_set hN hM (join_steps h2).2 hD (rd20_told hN e3)).2
/-- put at two places apart, in either order -/
theorem putA_comm {N : Nat} (hN : 20 ≤ N) (hM : N ≤ 100000) {x p q v u : Bs} {D c d : J N} {Lp Lq : List Bs} (h1 : rd20 N x = .ok D) (h2 : stepsE p = .ok Lp) (h3 : stepsE q = .ok Lq) (h4 : getP N D Lp = some c) (h5 : getP N D Lq = some d) (n1 : ¬ begins Lp Lq) (n2 : ¬ begins Lq Lp) {sa sb : ByteArray} (ha : putA N x p v = #[.string sa, .int .i64 0]) (hb : putA N x q u = #[.string sb, .int .i64 0]) :
    putA N sa.data.toList q u = putA N sb.data.toList p v ∧ sa.size ≤ 2000 ∧ sb.size ≤ 2000 ∧ (∀ D L G R, rd20 N sa.data.toList = .ok D → stepsE q = .ok L → rd20 N u = .ok G → putR N D L G = .ok R → Fine N R) ∧
    (∀ D L G R, rd20 N sb.data.toList = .ok D → stepsE p = .ok L → rd20 N v = .ok G → putR N D L G = .ok R → Fine N R) := by
  obtain ⟨G, g1, g2, rfl⟩ := putA_zero hN hM h1 h2 h4 ha
  obtain ⟨H, k1, k2, rfl⟩ := putA_zero hN hM h1 h3 h5 hb
  have hD := rd20_told hN h1
  have hr := rise_of_good _ _ hD.good
  have rG : ∀ m, Rise m (lift N m G) := fun m => rise_of_good _ _ (good_lift N m G (rd20_told hN g1).good)
  have rH : ∀ m, Rise m (lift N m H) := fun m => rise_of_good _ _ (good_lift N m H (rd20_told hN k1).good)
  obtain ⟨e1, he1⟩ := get_other (fun m => lift N m G) Lp Lq N D c d hr rG h4 h5 n1
  obtain ⟨e2, he2⟩ := get_other (fun m => lift N m H) Lq Lp N D d c hr rH h5 h4 n2
  have ra := g2.again hN
  have rb := k2.again hN
  refine ⟨?_, by rw [size_arr]; exact g2.len, by rw [size_arr]; exact k2.len, putA_fine hN hM ra h3 he1, putA_fine hN hM rb h2 he2⟩
  rw [putA_there (x := (⟨(tell N (setP N D Lp (fun m => lift N m G))).toArray⟩ : ByteArray).data.toList) ra h3 (rise_of_good _ _ g2.good) he1 k1,
    putA_there (x := (⟨(tell N (setP N D Lq (fun m => lift N m H))).toArray⟩ : ByteArray).data.toList) rb h2 (rise_of_good _ _ k2.good) he2 g1,
    set_comm (fun m => lift N m G) (fun m => lift N m H) Lp Lq N D c d hr rG rH h4 h5 n1 n2]
set_option maxRecDepth 100000 in
set_option maxHeartbeats 4000000 in
theorem ptrApart_walk (N : Nat) (hN : 20 ≤ N) (hM : N ≤ 100000) (doc p q v u : ByteArray) (w : World) (hd : doc.size ≤ 2000000) (hp : p.size ≤ 2000000) (hq : q.size ≤ 2000000) (hv : v.size ≤ 2000000) (hu : u.size ≤ 2000000) (hE : Env w) :
    Calls Tryz.prog 4 #[.string doc, .string p, .string q, .string v, .string u] w fun e w' => e = .returned (.bool true) ∧ Below w.heap.size w w' := by
  have H1 : Hid (Says w 6 #[.string ⟨#[49]⟩, .string ⟨#[47, 97]⟩] (.tuple #[.string ByteArray.empty, .int .i64 7])) := one_says N hN hE
  obtain ⟨sp, ep, hgp⟩ : ∃ (s : ByteArray) (er : Nat), getA N doc.data.toList p.data.toList = #[.string s, .int .i64 er] := by
    rcases getA_cases N hN doc.data.toList p.data.toList with ⟨er, her, hlt, hg⟩ | ⟨D, L, c, hr, hs, hgp, hT, hg⟩
    · exact ⟨_, er, hg⟩
    · exact ⟨_, 0, hg⟩
  obtain ⟨sq, eq, hgq⟩ : ∃ (s : ByteArray) (er : Nat), getA N doc.data.toList q.data.toList = #[.string s, .int .i64 er] := by
    rcases getA_cases N hN doc.data.toList q.data.toList with ⟨er, her, hlt, hg⟩ | ⟨D, L, c, hr, hs, hgp, hT, hg⟩
    · exact ⟨_, er, hg⟩
    · exact ⟨_, 0, hg⟩
  have HP : Hid (Says w 6 #[.string doc, .string p] (.tuple #[.string sp, .int .i64 ep])) := get_says N hN hE (by omega) (by omega) rfl rfl hgp
  have HQ : Hid (Says w 6 #[.string doc, .string q] (.tuple #[.string sq, .int .i64 eq])) := get_says N hN hE (by omega) (by omega) rfl rfl hgq
  by_cases h0 : ep ≠ 0 ∨ eq ≠ 0
  · have hbe : ((ep : Int) != 0) = true ∨ ((ep : Int) != 0) = false ∧ ((eq : Int) != 0) = true := by
      simp only [bne_iff_ne, bne_eq_false_iff_eq]
      omega
    clear hE hgp hgq h0
    go_enter Tryz.func4, Tryz.ntmps4
    go_wp2_with fail
    refine Calls.mono (HP.out w (Below.refl _ _)) ?_
    rintro e w1 ⟨rfl, b1⟩
    have HB1 : Hid (Below w.heap.size w w1) := b1
    clear b1
    go_wp2_with fail
    refine Calls.mono (HQ.out w1 HB1.out) ?_
    rintro e w2 ⟨rfl, b2⟩
    have HB2 : Hid (Below w.heap.size w w2) := HB1.out.trans (b2.mono HB1.out.size)
    clear b2
    go_wp2_with fail
    refine Calls.mono (H1.out w2 HB2.out) ?_
    rintro e w3 ⟨rfl, b3⟩
    have HB3 : Hid (Below w.heap.size w w3) := HB2.out.trans (b3.mono HB2.out.size)
    clear b3
    rcases hbe with hbe | ⟨hbe, hbf⟩
    · go_wp2_with fail
      go_ret
      exact ⟨rfl, HB3.out⟩
    · go_wp2_with fail
      go_ret
      exact ⟨rfl, HB3.out⟩
  · obtain ⟨rfl, rfl⟩ : ep = 0 ∧ eq = 0 := by omega
    by_cases hpq : p.toList = q.toList
    · clear hE hgp hgq h0
      go_enter Tryz.func4, Tryz.ntmps4
      go_wp2_with fail
      refine Calls.mono (HP.out w (Below.refl _ _)) ?_
      rintro e w1 ⟨rfl, b1⟩
      have HB1 : Hid (Below w.heap.size w w1) := b1
      clear b1
      go_wp2_with fail
      refine Calls.mono (HQ.out w1 HB1.out) ?_
      rintro e w2 ⟨rfl, b2⟩
      have HB2 : Hid (Below w.heap.size w w2) := HB1.out.trans (b2.mono HB1.out.size)
      clear b2
      go_wp2_with fail
      refine Calls.mono (H1.out w2 HB2.out) ?_
      rintro e w3 ⟨rfl, b3⟩
      have HB3 : Hid (Below w.heap.size w w3) := HB2.out.trans (b3.mono HB2.out.size)
      clear b3
      go_wp2_with fail
      go_ret
      exact ⟨rfl, HB3.out⟩
    · have hpq' : p.data.toList ≠ q.data.toList := by
        rw [ByteArray.toList_eq, ByteArray.toList_eq] at hpq
        exact hpq
      have hpb : (p.toList == q.toList) = false := by rw [beq_eq_false_iff_ne]; exact hpq
      obtain ⟨b1, hb1⟩ : ∃ b, Lib.hasPrefix p.data.toList (q.data.toList ++ [47]) = b := ⟨_, rfl⟩
      obtain ⟨b2, hb2⟩ : ∃ b, Lib.hasPrefix q.data.toList (p.data.toList ++ [47]) = b := ⟨_, rfl⟩
      have HH1 : Hid (∀ w, Calls Tryz.prog 9 #[.string p, .string (q ++ { data := #[47] })] w fun e w' => e = .returned (.bool b1) ∧ Below w.heap.size w w') := by
        intro w
        refine (Tryz.strings_HasPrefix _ _ _).mono ?_
        rintro e w' ⟨rfl, rfl⟩
        refine ⟨?_, Below.refl _ _⟩
        rw [ByteArray.data_append, Array.toList_append, hb1]
      have HH2 : Hid (∀ w, Calls Tryz.prog 9 #[.string q, .string (p ++ { data := #[47] })] w fun e w' => e = .returned (.bool b2) ∧ Below w.heap.size w w') := by
        intro w
        refine (Tryz.strings_HasPrefix _ _ _).mono ?_
        rintro e w' ⟨rfl, rfl⟩
        refine ⟨?_, Below.refl _ _⟩
        rw [ByteArray.data_append, Array.toList_append, hb2]
      cases b1 with
      | true =>
        clear hE hgp hgq h0 hb1 hb2
        go_enter Tryz.func4, Tryz.ntmps4
        go_wp2_with fail
        refine Calls.mono (HP.out w (Below.refl _ _)) ?_
        rintro e w1 ⟨rfl, b1⟩
        have HB1 : Hid (Below w.heap.size w w1) := b1
        clear b1
        go_wp2_with fail
        refine Calls.mono (HQ.out w1 HB1.out) ?_
        rintro e w2 ⟨rfl, b2⟩
        have HB2 : Hid (Below w.heap.size w w2) := HB1.out.trans (b2.mono HB1.out.size)
        clear b2
        go_wp2_with fail
        refine Calls.mono (H1.out w2 HB2.out) ?_
        rintro e w3 ⟨rfl, b3⟩
        have HB3 : Hid (Below w.heap.size w w3) := HB2.out.trans (b3.mono HB2.out.size)
        clear b3
        go_wp2_with fail
        refine Calls.mono (HH1.out w3) ?_
        rintro e w4 ⟨rfl, b4⟩
        have HB4 : Hid (Below w.heap.size w w4) := HB3.out.trans (b4.mono HB3.out.size)
        clear b4
        go_wp2_with fail
        go_ret
        exact ⟨rfl, HB4.out⟩
      | false =>
        cases b2 with
        | true =>
          clear hE hgp hgq h0 hb1 hb2
          go_enter Tryz.func4, Tryz.ntmps4
          go_wp2_with fail
          refine Calls.mono (HP.out w (Below.refl _ _)) ?_
          rintro e w1 ⟨rfl, b1⟩
          have HB1 : Hid (Below w.heap.size w w1) := b1
          clear b1
          go_wp2_with fail
          refine Calls.mono (HQ.out w1 HB1.out) ?_
          rintro e w2 ⟨rfl, b2⟩
          have HB2 : Hid (Below w.heap.size w w2) := HB1.out.trans (b2.mono HB1.out.size)
          clear b2
          go_wp2_with fail
          refine Calls.mono (H1.out w2 HB2.out) ?_
          rintro e w3 ⟨rfl, b3⟩
          have HB3 : Hid (Below w.heap.size w w3) := HB2.out.trans (b3.mono HB2.out.size)
          clear b3
          go_wp2_with fail
          refine Calls.mono (HH1.out w3) ?_
          rintro e w4 ⟨rfl, b4⟩
          have HB4 : Hid (Below w.heap.size w w4) := HB3.out.trans (b4.mono HB3.out.size)
          clear b4
          go_wp2_with fail
          refine Calls.mono (HH2.out w4) ?_
          rintro e w5 ⟨rfl, b5⟩
          have HB5 : Hid (Below w.heap.size w w5) := HB4.out.trans (b5.mono HB4.out.size)
          clear b5
          go_wp2_with fail
          go_ret
          exact ⟨rfl, HB5.out⟩
        | false =>
          obtain ⟨D, Lp, c, Lq, d, hr, hs, hs2, hg, hg2⟩ : ∃ D Lp c Lq d, rd20 N doc.data.toList = .ok D ∧ stepsE p.data.toList = .ok Lp ∧ stepsE q.data.toList = .ok Lq ∧ getP N D Lp = some c ∧ getP N D Lq = some d := by
            rcases getA_cases N hN doc.data.toList p.data.toList with ⟨er, her, hlt, hg⟩ | ⟨D, L, c, hr, hs, hgp', hT, hg⟩
            · exfalso
              rw [hgp] at hg
              simp at hg
              omega
            · rcases getA_cases N hN doc.data.toList q.data.toList with ⟨er, her, hlt, hg'⟩ | ⟨D', L', c', hr', hs', hgp'', hT', hg'⟩
              · exfalso
                rw [hgq] at hg'
                simp at hg'
                omega
              · rw [hr] at hr'
                cases hr'
                exact ⟨D, L, c, L', c', hr, hs, hs', hgp', hgp''⟩
          have n1 : ¬ begins Lp Lq := fun h => by
            rcases begins_prefix hs hs2 h with h | h
            · exact hpq' h
            · rw [hb2] at h; cases h
          have n2 : ¬ begins Lq Lp := fun h => by
            rcases begins_prefix hs2 hs h with h | h
            · exact hpq' h.symm
            · rw [hb1] at h; cases h
          obtain ⟨sa, ea, ha⟩ := putA_form N doc.data.toList p.data.toList v.data.toList
          obtain ⟨sb, eb, hb⟩ := putA_form N doc.data.toList q.data.toList u.data.toList
          have HPa : Hid (Says w 7 #[.string doc, .string p, .string v] (.tuple #[.string sa, .int .i64 ea])) := putA_says N hN hE (by omega) (by omega) (by omega) rfl rfl rfl ha (putA_fine hN hM hr hs hg)
          have HPb : Hid (Says w 7 #[.string doc, .string q, .string u] (.tuple #[.string sb, .int .i64 eb])) := putA_says N hN hE (by omega) (by omega) (by omega) rfl rfl rfl hb (putA_fine hN hM hr hs2 hg2)
          by_cases h1 : ea ≠ 0 ∨ eb ≠ 0
          · have hbe : ((ea : Int) != 0) = true ∨ ((ea : Int) != 0) = false ∧ ((eb : Int) != 0) = true := by
              simp only [bne_iff_ne, bne_eq_false_iff_eq]
              omega
            clear hE hgp hgq h0 hb1 hb2 ha hb hr hs hs2 hg hg2 n1 n2 h1
            go_enter Tryz.func4, Tryz.ntmps4
            go_wp2_with fail
            refine Calls.mono (HP.out w (Below.refl _ _)) ?_
            rintro e w1 ⟨rfl, b1⟩
            have HB1 : Hid (Below w.heap.size w w1) := b1
            clear b1
            go_wp2_with fail
            refine Calls.mono (HQ.out w1 HB1.out) ?_
            rintro e w2 ⟨rfl, b2⟩
            have HB2 : Hid (Below w.heap.size w w2) := HB1.out.trans (b2.mono HB1.out.size)
            clear b2
            go_wp2_with fail
            refine Calls.mono (H1.out w2 HB2.out) ?_
            rintro e w3 ⟨rfl, b3⟩
            have HB3 : Hid (Below w.heap.size w w3) := HB2.out.trans (b3.mono HB2.out.size)
            clear b3
            go_wp2_with fail
            refine Calls.mono (HH1.out w3) ?_
            rintro e w4 ⟨rfl, b4⟩
            have HB4 : Hid (Below w.heap.size w w4) := HB3.out.trans (b4.mono HB3.out.size)
            clear b4
            go_wp2_with fail
            refine Calls.mono (HH2.out w4) ?_
            rintro e w5 ⟨rfl, b5⟩
            have HB5 : Hid (Below w.heap.size w w5) := HB4.out.trans (b5.mono HB4.out.size)
            clear b5
            go_wp2_with fail
            refine Calls.mono (HPa.out w5 HB5.out) ?_
            rintro e w6 ⟨rfl, b6⟩
            have HB6 : Hid (Below w.heap.size w w6) := HB5.out.trans (b6.mono HB5.out.size)
            clear b6
            go_wp2_with fail
            refine Calls.mono (HPb.out w6 HB6.out) ?_
            rintro e w7 ⟨rfl, b7⟩
            have HB7 : Hid (Below w.heap.size w w7) := HB6.out.trans (b7.mono HB6.out.size)
            clear b7
            rcases hbe with hbe | ⟨hbe, hbf⟩
            · go_wp2_with fail
              go_ret
              exact ⟨rfl, HB7.out⟩
            · go_wp2_with fail
              go_ret
              exact ⟨rfl, HB7.out⟩
          · obtain ⟨rfl, rfl⟩ : ea = 0 ∧ eb = 0 := by omega
            obtain ⟨he, hza, hzb, hf1, hf2⟩ := putA_comm hN hM hr hs hs2 hg hg2 n1 n2 ha hb
            obtain ⟨sc, ec, hc⟩ := putA_form N sa.data.toList q.data.toList u.data.toList
            have HPc : Hid (Says w 7 #[.string sa, .string q, .string u] (.tuple #[.string sc, .int .i64 ec])) := putA_says N hN hE (by omega) (by omega) (by omega) rfl rfl rfl hc hf1
            have HPd : Hid (Says w 7 #[.string sb, .string p, .string v] (.tuple #[.string sc, .int .i64 ec])) := putA_says N hN hE (by omega) (by omega) (by omega) rfl rfl rfl (he.symm.trans hc) hf2
            clear hE hgp hgq h0 hb1 hb2 ha hb hr hs hs2 hg hg2 n1 n2 h1 he hf1 hf2 hc
            go_enter Tryz.func4, Tryz.ntmps4
            go_wp2_with fail
            refine Calls.mono (HP.out w (Below.refl _ _)) ?_
            rintro e w1 ⟨rfl, b1⟩
            have HB1 : Hid (Below w.heap.size w w1) := b1
            clear b1
            go_wp2_with fail
            refine Calls.mono (HQ.out w1 HB1.out) ?_
            rintro e w2 ⟨rfl, b2⟩
            have HB2 : Hid (Below w.heap.size w w2) := HB1.out.trans (b2.mono HB1.out.size)
            clear b2
            go_wp2_with fail
            refine Calls.mono (H1.out w2 HB2.out) ?_
            rintro e w3 ⟨rfl, b3⟩
            have HB3 : Hid (Below w.heap.size w w3) := HB2.out.trans (b3.mono HB2.out.size)
            clear b3
            go_wp2_with fail
            refine Calls.mono (HH1.out w3) ?_
            rintro e w4 ⟨rfl, b4⟩
            have HB4 : Hid (Below w.heap.size w w4) := HB3.out.trans (b4.mono HB3.out.size)
            clear b4
            go_wp2_with fail
            refine Calls.mono (HH2.out w4) ?_
            rintro e w5 ⟨rfl, b5⟩
            have HB5 : Hid (Below w.heap.size w w5) := HB4.out.trans (b5.mono HB4.out.size)
            clear b5
            go_wp2_with fail
            refine Calls.mono (HPa.out w5 HB5.out) ?_
            rintro e w6 ⟨rfl, b6⟩
            have HB6 : Hid (Below w.heap.size w w6) := HB5.out.trans (b6.mono HB5.out.size)
            clear b6
            go_wp2_with fail
            refine Calls.mono (HPb.out w6 HB6.out) ?_
            rintro e w7 ⟨rfl, b7⟩
            have HB7 : Hid (Below w.heap.size w w7) := HB6.out.trans (b7.mono HB6.out.size)
            clear b7
            go_wp2_with fail
            refine Calls.mono (HPc.out w7 HB7.out) ?_
            rintro e w8 ⟨rfl, b8⟩
            have HB8 : Hid (Below w.heap.size w w8) := HB7.out.trans (b8.mono HB7.out.size)
            clear b8
            go_wp2_with fail
            refine Calls.mono (HPd.out w8 HB8.out) ?_
            rintro e w9 ⟨rfl, b9⟩
            have HB9 : Hid (Below w.heap.size w w9) := HB8.out.trans (b9.mono HB8.out.size)
            clear b9
            go_wp2_with fail
            go_ret
            exact ⟨rfl, HB9.out⟩
end Go.Proofs.YthdgfehfoidnbabGreatDoor
