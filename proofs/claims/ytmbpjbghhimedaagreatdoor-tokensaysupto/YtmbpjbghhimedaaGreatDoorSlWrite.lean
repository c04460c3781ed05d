/- Contract over this translation: what Write makes of a Hash. -/
import Derived.Test.YtmbpjbghhimedaaGreatDoorSlHash
import Derived.StillTailTactics
import Derived.Test.YtmbpjbghhimedaaGreatDoorRfOrd
namespace Go.Proofs.YtmbpjbghhimedaaGreatDoor
open Go.RowKit
set_option linter.unusedVariables false
set_option linter.unusedSimpArgs false
theorem ba_extract (s : Bs) (n : Nat) : (Ba s).extract n s.length = Ba (s.drop n) := by
  apply ByteArray.ext
  simp [Ba]
  rw [List.take_of_length_le (by rw [List.length_drop]; omega)]
def strSize : Value → Nat
  | .string x => x.size
  | _ => 0
set_option maxRecDepth 100000 in
set_option maxHeartbeats 8000000 in
theorem write_any (b : Nat) (h0 : HS) (s : Bs) (w : World) (hh0 : HOk h0) (ha0 : HashAt b h0 w) (hc0 : Cub w) (hb : b ≠ 6) (hs : s.length ≤ maxLen) :
    Calls Tryz.prog 89 #[.pointer (some ⟨b, 0, none⟩), .string (Ba s)] w fun e w' => e = .returned (.tuple #[]) ∧ HashAt b (feedP h0 s) w' ∧ Cub w' ∧ G b w w' := by
  unfold maxLen at hs
  go_enter Tryz.func89, Tryz.ntmps89
  go_wp2_with fail
  go_loopw [1] (fun sv wr => ∃ done q : Bs, s = done ++ q ∧ sv = .string (Ba q) ∧ HashAt b (feedP h0 done) wr ∧ Cub wr ∧ G b w wr) (fun sv _ => strSize sv)
  case atStart => exact ⟨[], s, rfl, rfl, ha0, hc0, G.refl _ _⟩
  case round =>
    obtain ⟨done, q, hsq, rfl, hat, hcub, hG⟩ := hrel
    have hh : HOk (feedP h0 done) := feedP_ok done hh0
    have hql : q.length ≤ s.length := by rw [hsq, List.length_append]; omega
    have hqs : (Ba q).size = q.length := ba_size q
    by_cases hq0 : q = []
    · subst hq0
      rw [List.append_nil] at hsq
      subst hsq
      have HA : Hid (HashAt b (feedP h0 s) wr ∧ Cub wr ∧ G b w wr) := ⟨hat, hcub, hG⟩
      clear hat hcub hG hh
      go_wp2_with fail
      go_end0
      exact ⟨rfl, HA.out⟩
    · have hpos : 0 < q.length := List.length_pos_iff.2 hq0
      have hposI : (0 : Int) < (q.length : Int) := by omega
      generalize hNe : feedP h0 done = hN at *
      obtain ⟨l, hl⟩ : ∃ l, l = hN.2.2 % 64 := ⟨_, rfl⟩
      obtain ⟨n, hn⟩ : ∃ n, n = min q.length (64 - l) := ⟨_, rfl⟩
      have hl64 : l < 64 := by omega
      have hn1 : 1 ≤ n := by omega
      have hnl : l + n ≤ 64 := by omega
      have hnq : n ≤ q.length := by omega
      have hpl : (q.take n).length = n := by rw [List.length_take]; omega
      obtain ⟨R, hR⟩ : ∃ R, R = over hN.2.1 (q.take n) l := ⟨_, rfl⟩
      obtain ⟨m2, hm2⟩ : ∃ m2, m2 = (hN.2.2 + n) % big := ⟨_, rfl⟩
      have hfo : feedP hN (q.take n) = (if m2 % 64 = 0 then mixP hN.1 R else hN.1, R, m2) := by
        have := feed_over (q.take n) hN.1 hN.2.1 hN.2.2 (by intro e; rw [e] at hpl; simp at hpl; omega) hh.2.1 hh.2.2 (by rw [hpl]; omega)
        rw [hpl, ← hl, ← hm2, ← hR] at this
        exact this
      have hh1 : HOk (hN.1, R, hN.2.2) := ⟨hh.1, by rw [hR]; show (over hN.2.1 (q.take n) l).length = 64; rw [over_len (by rw [hpl, hh.2.1]; omega)]; exact hh.2.1, hh.2.2⟩
      have hh2 : HOk (hN.1, R, m2) := ⟨hh.1, hh1.2.1, by rw [hm2]; exact Nat.mod_lt _ (by decide)⟩
      have cm := hat.many hh
      have hcp := copy_str wr.drew b (8 + l) (64 - l) (64 - l) q (hashC hN) 130 n hn hat (by rw [hashC_size hh]; omega)
      have hrow : ((hashC hN).toList.take (8 + l) ++ Lib.byteCells (q.take n) ++ (hashC hN).toList.drop (8 + l + n)).toArray = hashC (hN.1, R, hN.2.2) := by
        have := hashC_over hh (p := q.take n) (l := l) (by rw [hpl]; omega)
        rw [hpl, ← hR] at this
        exact this
      rw [hrow] at hcp
      have hat1 : HashAt b (hN.1, R, hN.2.2) (wr.drew.setRow b (hashC (hN.1, R, hN.2.2))) := setRow_heap _ _ _ _ _ _ hat
      have hG1 : G b w (wr.drew.setRow b (hashC (hN.1, R, hN.2.2))) := hG.drew.trans (G.setRow _ _)
      have hcub1 : Cub (wr.drew.setRow b (hashC (hN.1, R, hN.2.2))) := hc0.g hG1 hb
      generalize wr.drew.setRow b (hashC (hN.1, R, hN.2.2)) = w1 at *
      have cm1 := hat1.many hh1
      have fm1 : w1.frozen? ⟨b, 72, none⟩ = false := Lib.frozen_of_heap hat1 72
      have hat2 : HashAt b (hN.1, R, m2) (w1.setCell ⟨b, 72, none⟩ (.int .u64 (m2 : Nat))) := by
        have := heap_setCell_same _ _ 72 _ _ (.int .u64 (m2 : Nat)) hat1
        rw [hashC_count hh1] at this
        exact this
      have hG2 : G b w (w1.setCell ⟨b, 72, none⟩ (.int .u64 (m2 : Nat))) := hG1.trans ⟨rfl, rfl, rfl, by simp [World.setCell], fun k _ hk => heap_setCell_other _ _ _ _ hk⟩
      have hcub2 : Cub (w1.setCell ⟨b, 72, none⟩ (.int .u64 (m2 : Nat))) := hc0.g hG2 hb
      have u1 : IntKind.u64.wrap (n : Int) = (n : Int) := by rw [IntKind.wrap_u64]; omega
      have u2 : IntKind.u64.wrap ((hN.2.2 : Int) + n) = (m2 : Int) := by rw [IntKind.wrap_u64, hm2]; simp only [big]; omega
      have u3 : ((hN.2.2 : Int) + n) % 18446744073709551616 = (m2 : Int) := by rw [hm2]; simp only [big]; omega
      have hex : (Ba q).extract n q.length = Ba (q.drop n) := ba_extract q n
      have hnI : (n : Int) ≤ (q.length : Int) := by omega
      obtain ⟨l2, hl2⟩ : ∃ l2, l2 = m2 % 64 := ⟨_, rfl⟩
      have m5 : ((m2 : Int).tmod 64) = (l2 : Int) := by rw [Int.tmod_eq_emod_of_nonneg (by omega)]; omega
      have m5' : (m2 : Int) % 64 = (l2 : Int) := by omega
      rw [← hl2] at hfo
      have m3 : ((hN.2.2 : Int).tmod 64) = (l : Int) := by rw [Int.tmod_eq_emod_of_nonneg (by omega)]; omega
      have m3' : (hN.2.2 : Int) % 64 = (l : Int) := by omega
      have hlI : (l : Int) < 64 := by omega
      have hlI2 : (l : Int) ≤ 64 := by omega
      have hne64 : ¬ (64 = l) := by omega
      have HL : Hid (l = hN.2.2 % 64) := hl
      have HNn : Hid (n = min q.length (64 - l)) := hn
      have HM2 : Hid (m2 = (hN.2.2 + n) % big) := hm2
      have HFo : Hid (_) := hfo
      have HA2 : Hid (HashAt b (hN.1, R, m2) (w1.setCell ⟨b, 72, none⟩ (.int .u64 (m2 : Nat)))) := hat2
      have HG2 : Hid (G b w (w1.setCell ⟨b, 72, none⟩ (.int .u64 (m2 : Nat)))) := hG2
      have HC2 : Hid (Cub (w1.setCell ⟨b, 72, none⟩ (.int .u64 (m2 : Nat)))) := hcub2
      have HDq : Hid (s = done ++ q.take n ++ q.drop n) := by show _ = _; rw [List.append_assoc, List.take_append_drop]; exact hsq
      have HNe : Hid (feedP h0 (done ++ q.take n) = feedP hN (q.take n)) := by show _ = _; rw [feedP_append, hNe]
      have HQl : Hid ((q.drop n).length < q.length) := by show _ < _; rw [List.length_drop]; omega
      clear hrow hl hn hm2 hR hNe hfo hat2 hG2 hcub2 hat1 hG1 hcub1 hat hG hcub hl2
      go_wp2_with fail
      refine wp_region_still_tail 10 (by kernel_rfl) (by kernel_rfl) ?_
      simp only [List.take_succ_cons, List.take_zero, List.drop_succ_cons, List.drop_zero]
      repeat still_step
      refine wpStill_nil ?_
      by_cases hz : l2 = 0
      · go_wp2_with fail
        generalize w1.setCell ⟨b, 72, none⟩ (.int .u64 (m2 : Nat)) = w2 at *
        have hfo2 : feedP hN (q.take n) = (mixP hN.1 R, R, m2) := by
          have h := HFo.out
          rw [if_pos hz] at h
          exact h
        have hat2 : HashAt b (hN.1, R, m2) w2.drew := HA2.out
        have HMix : Hid (Calls Tryz.prog 115 #[.agg (Vw hN.1).toArray, .agg (Lib.byteCells R).toArray] w2.drew fun e w' => e = .returned (.agg (Vw (mixP hN.1 R)).toArray) ∧ Below w2.drew.heap.size w2.drew w') := mix_any hN.1 R w2.drew hh.1 hh2.2.1 HC2.out
        have hms := mix_st hh.1 R
        have hsz8 : (Vw (mixP hN.1 R)).toArray.size = 8 := by rw [List.size_toArray, List.length_map]; exact hms.1
        have HSt : Hid (((hashC (hN.1, R, m2)).toList.take 0 ++ (Vw (mixP hN.1 R)).toArray.toList ++ (hashC (hN.1, R, m2)).toList.drop (0 + (Vw (mixP hN.1 R)).toArray.size)).toArray = hashC (mixP hN.1 R, R, m2)) := hashC_state hh2 hms.1
        have hsz : Hid ((Tryz.prog.info? 127).map (·.size) = some (Vw (mixP hN.1 R)).toArray.size) := by
          rw [hsz8]
          show _ = _
          kernel_rfl
        have hfit : Hid (0 + (Vw (mixP hN.1 R)).toArray.size ≤ (hashC (hN.1, R, m2)).size) := by
          rw [hsz8, hashC_size hh2]
          show _ ≤ _
          decide
        have hone : Hid ((Vw (mixP hN.1 R)).toArray.all (·.oneCell') = true) := by
          show _ = _
          simp [Vw, Value.oneCell']
        clear hsz8 hms
        generalize (Vw (mixP hN.1 R)).toArray = mA at *
        refine M_begin 10 13 (fun w' => HashAt b (hN.1, R, m2) w' ∧ Below w2.drew.heap.size w2.drew w') (by kernel_rfl) rfl ?_
        have hHeld : (fun w' => HashAt b (hN.1, R, m2) w' ∧ Below w2.drew.heap.size w2.drew w') w2.drew := ⟨hat2, Below.refl _ _⟩
        refine M_take 0 (oi := { dst := some 37, op := Op.move (Operand.tmp 0), type := 101, pos := "hash.go:24", after := #[], guard := none }) (v := ?vvw0) rfl (by kernel_rfl) (by kernel_rfl) (by kernel_rfl) (by kernel_rfl) (by kernel_rfl) (by decide) (by decide) (by kernel_rfl) (fun _ _ _ h => h) hHeld ?hyw0 ?_
        case hyw0 => exact (Or.inl ⟨by rfl, by (intro w' hSw; go_simp; try (with_reducible rfl))⟩)
        try simp only [Act.put, List.setIfInBounds_toArray, List.set_cons_zero, List.set_cons_succ]
        refine M_take 1 (oi := { dst := some 38, op := Op.move (Operand.tmp 0), type := 101, pos := "hash.go:24", after := #[], guard := none }) (v := ?vvw1) rfl (by kernel_rfl) (by kernel_rfl) (by kernel_rfl) (by kernel_rfl) (by kernel_rfl) (by decide) (by decide) (by kernel_rfl) (fun _ _ _ h => h) hHeld ?hyw1 ?_
        case hyw1 => exact (Or.inl ⟨by rfl, by (intro w' hSw; go_simp; try (with_reducible rfl))⟩)
        try simp only [Act.put, List.setIfInBounds_toArray, List.set_cons_zero, List.set_cons_succ]
        refine M_take 2 (oi := { dst := some 39, op := Op.nilCheck (Operand.tmp 38), type := 0, pos := "hash.go:24", after := #[{ on := 1, ground := Ground.data }], guard := none }) (v := ?vvw2) rfl (by kernel_rfl) (by kernel_rfl) (by kernel_rfl) (by kernel_rfl) (by kernel_rfl) (by decide) (by decide) (by kernel_rfl) (fun _ _ _ h => h) hHeld ?hyw2 ?_
        case hyw2 => exact (Or.inl ⟨by rfl, by (intro w' hSw; go_simp; try (with_reducible rfl))⟩)
        try simp only [Act.put, List.setIfInBounds_toArray, List.set_cons_zero, List.set_cons_succ]
        refine M_take 3 (oi := { dst := some 40, op := Op.fieldAddr 130 (Operand.tmp 39) 0, type := 0, pos := "hash.go:24", after := #[{ on := 2, ground := Ground.data }], guard := none }) (v := ?vvw3) rfl (by kernel_rfl) (by kernel_rfl) (by kernel_rfl) (by kernel_rfl) (by kernel_rfl) (by decide) (by decide) (by kernel_rfl) (fun _ _ _ h => h) hHeld ?hyw3 ?_
        case hyw3 => exact (Or.inl ⟨by rfl, by (intro w' hSw; go_simp; try (with_reducible rfl))⟩)
        try simp only [Act.put, List.setIfInBounds_toArray, List.set_cons_zero, List.set_cons_succ]
        refine M_take 4 (oi := { dst := some 41, op := Op.load 127 (Operand.tmp 40), type := 127, pos := "hash.go:24", after := #[{ on := 3, ground := Ground.data }], guard := none }) (v := .agg (Vw hN.1).toArray) rfl (by kernel_rfl) (by kernel_rfl) (by kernel_rfl) (by kernel_rfl) (by kernel_rfl) (by decide) (by decide) (by kernel_rfl) (fun _ _ _ h => h) hHeld ?hyw4 ?_
        case hyw4 => exact Or.inl ⟨by rfl, fun w' hSw => load_run rfl rfl (hSw.1.varSt hh2)⟩
        try simp only [Act.put, List.setIfInBounds_toArray, List.set_cons_zero, List.set_cons_succ]
        refine M_take 5 (oi := { dst := some 42, op := Op.move (Operand.tmp 0), type := 101, pos := "hash.go:24", after := #[], guard := none }) (v := ?vvw5) rfl (by kernel_rfl) (by kernel_rfl) (by kernel_rfl) (by kernel_rfl) (by kernel_rfl) (by decide) (by decide) (by kernel_rfl) (fun _ _ _ h => h) hHeld ?hyw5 ?_
        case hyw5 => exact (Or.inl ⟨by rfl, by (intro w' hSw; go_simp; try (with_reducible rfl))⟩)
        try simp only [Act.put, List.setIfInBounds_toArray, List.set_cons_zero, List.set_cons_succ]
        refine M_take 6 (oi := { dst := some 43, op := Op.nilCheck (Operand.tmp 42), type := 0, pos := "hash.go:24", after := #[{ on := 5, ground := Ground.data }], guard := none }) (v := ?vvw6) rfl (by kernel_rfl) (by kernel_rfl) (by kernel_rfl) (by kernel_rfl) (by kernel_rfl) (by decide) (by decide) (by kernel_rfl) (fun _ _ _ h => h) hHeld ?hyw6 ?_
        case hyw6 => exact (Or.inl ⟨by rfl, by (intro w' hSw; go_simp; try (with_reducible rfl))⟩)
        try simp only [Act.put, List.setIfInBounds_toArray, List.set_cons_zero, List.set_cons_succ]
        refine M_take 7 (oi := { dst := some 44, op := Op.fieldAddr 130 (Operand.tmp 43) 1, type := 0, pos := "hash.go:24", after := #[{ on := 6, ground := Ground.data }], guard := none }) (v := ?vvw7) rfl (by kernel_rfl) (by kernel_rfl) (by kernel_rfl) (by kernel_rfl) (by kernel_rfl) (by decide) (by decide) (by kernel_rfl) (fun _ _ _ h => h) hHeld ?hyw7 ?_
        case hyw7 => exact (Or.inl ⟨by rfl, by (intro w' hSw; go_simp; try (with_reducible rfl))⟩)
        try simp only [Act.put, List.setIfInBounds_toArray, List.set_cons_zero, List.set_cons_succ]
        refine M_take 8 (oi := { dst := some 45, op := Op.load 78 (Operand.tmp 44), type := 78, pos := "hash.go:24", after := #[{ on := 7, ground := Ground.data }], guard := none }) (v := .agg (Lib.byteCells R).toArray) rfl (by kernel_rfl) (by kernel_rfl) (by kernel_rfl) (by kernel_rfl) (by kernel_rfl) (by decide) (by decide) (by kernel_rfl) (fun _ _ _ h => h) hHeld ?hyw8 ?_
        case hyw8 => exact Or.inl ⟨by rfl, fun w' hSw => load_run rfl rfl (hSw.1.varRest hh2)⟩
        try simp only [Act.put, List.setIfInBounds_toArray, List.set_cons_zero, List.set_cons_succ]
        refine M_ready [9] (by kernel_rfl) (by decide) ?_
        refine AllM.cons (i := 9) (o := { dst := some 46, op := Op.call { callee := Callee.value (Operand.func 115), args := #[Operand.tmp 41, Operand.tmp 45], argTypes := #[127, 78] }, type := 127, pos := "hash.go:24", after := #[{ on := 4, ground := Ground.data }, { on := 8, ground := Ground.data }], guard := none }) rfl (fun K hK => ?_) AllM.nil
        rw [if_pos (by rfl)]
        go_wp2_with fail
        refine Calls.mono HMix.out ?_
        rintro e w3 ⟨rfl, b3⟩
        dsimp only
        refine hK.out _ _ ⟨hat2.below b3, b3⟩ (fun hHeld => ?_)
        clear hK K
        try simp only [Act.put, List.setIfInBounds_toArray, List.set_cons_zero, List.set_cons_succ]
        refine M_tail [{ dst := some 47, op := Op.nilCheck (Operand.tmp 37), type := 0, pos := "hash.go:24", after := #[{ on := 0, ground := Ground.data }, { on := 0, ground := Ground.phase }, { on := 1, ground := Ground.phase }, { on := 2, ground := Ground.phase }, { on := 3, ground := Ground.phase }, { on := 4, ground := Ground.phase }, { on := 5, ground := Ground.phase }, { on := 6, ground := Ground.phase }, { on := 7, ground := Ground.phase }, { on := 8, ground := Ground.phase }, { on := 9, ground := Ground.phase }], guard := none }, { dst := some 48, op := Op.fieldAddr 130 (Operand.tmp 47) 0, type := 0, pos := "hash.go:24", after := #[{ on := 10, ground := Ground.data }, { on := 0, ground := Ground.phase }, { on := 1, ground := Ground.phase }, { on := 2, ground := Ground.phase }, { on := 3, ground := Ground.phase }, { on := 4, ground := Ground.phase }, { on := 5, ground := Ground.phase }, { on := 6, ground := Ground.phase }, { on := 7, ground := Ground.phase }, { on := 8, ground := Ground.phase }, { on := 9, ground := Ground.phase }], guard := none }, { dst := none, op := Op.store 127 (Operand.tmp 48) (Operand.tmp 46), type := 0, pos := "hash.go:24", after := #[{ on := 11, ground := Ground.data }, { on := 9, ground := Ground.data }, { on := 9, ground := Ground.chain }, { on := 0, ground := Ground.phase }, { on := 1, ground := Ground.phase }, { on := 2, ground := Ground.phase }, { on := 3, ground := Ground.phase }, { on := 4, ground := Ground.phase }, { on := 5, ground := Ground.phase }, { on := 6, ground := Ground.phase }, { on := 7, ground := Ground.phase }, { on := 8, ground := Ground.phase }, { on := 9, ground := Ground.phase }], guard := none }] rfl (by kernel_rfl) (by kernel_rfl) ?_
        have hat3 : HashAt b (hN.1, R, m2) w3 := hat2.below b3
        have HG3 : Hid (G b w w3) := (HG2.out.drew).trans (G.of b3)
        go_wp2_with (refine wpList_store_at rfl 127 _ _ rfl _ _ _ rfl rfl _ _ hat3 hsz.out hfit.out hone.out ?_)
        rw [HSt.out]
        have hG4 : G b w (w3.setRow b (hashC (mixP hN.1 R, R, m2))) := HG3.out.trans (G.setRow _ _)
        have hat4 : HashAt b (mixP hN.1 R, R, m2) (w3.setRow b (hashC (mixP hN.1 R, R, m2))) := setRow_heap _ _ _ _ _ _ hat3
        generalize w3.setRow b (hashC (mixP hN.1 R, R, m2)) = w4 at *
        have HA4 : Hid (HashAt b (feedP h0 (done ++ q.take n)) w4) := by rw [HNe.out, hfo2]; exact hat4
        have HG4 : Hid (G b w w4) := hG4
        clear hat2 hat3 hat4 hG4
        simp only [Act.put]
        go_wp2_with fail
        go_roundw
        case rel => exact ⟨done ++ q.take n, q.drop n, HDq.out, rfl, HA4.out, hc0.g HG4.out hb, HG4.out⟩
        case measure =>
          show (Ba (q.drop n)).size < (Ba q).size
          rw [ba_size, ba_size]
          exact HQl.out
      · have hzI : ¬ ((l2 : Int) = 0) := by omega
        have hzb : ((l2 : Int) == 0) = false := by simpa using hzI
        have hfo2 : feedP hN (q.take n) = (hN.1, R, m2) := by
          have h := HFo.out
          rw [if_neg hz] at h
          exact h
        have HA4 : Hid (HashAt b (feedP h0 (done ++ q.take n)) (w1.setCell ⟨b, 72, none⟩ (.int .u64 (m2 : Nat)))) := by rw [HNe.out, hfo2]; exact HA2.out
        clear hfo2
        go_wp2_with fail
        refine ⟨⟨done ++ q.take n, q.drop n, HDq.out, rfl, HA4.out, HC2.out, HG2.out⟩, ?_⟩
        show (Ba (q.drop n)).size < (Ba q).size
        rw [ba_size, ba_size]
        exact HQl.out
end Go.Proofs.YtmbpjbghhimedaaGreatDoor
