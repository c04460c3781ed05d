/- Contracts over this translation: token.areSigns, apart, groupsOf. -/
import Derived.Test.YtmbpjbghhimedaaGreatDoorTkOwn
import Derived.Deep.QuietTactic
namespace Go.Proofs.YtmbpjbghhimedaaGreatDoor
open Go.RowKit
set_option linter.unusedVariables false
set_option linter.unusedSimpArgs false
def signsB (s : Bs) : Bool := decide (s.length = 64) && (unhexP s).isSome
theorem areSigns_any (s : Bs) (w : World) (hs : s.length ≤ maxLen) : Calls Tryz.prog 46 #[.string (Ba s)] w fun e w' => e = .returned (.bool (signsB s)) ∧ Below w.heap.size w w' := by
  have hsz : (Ba s).size = s.length := ba_size s
  unfold maxLen at hs
  have HE : Hid (signsB s = (decide (s.length = 64) && (unhexP s).isSome)) := rfl
  generalize signsB s = res at *
  by_cases h64 : s.length = 64
  · have HU : Hid (∀ w, Calls Tryz.prog 75 #[.string (Ba s)] w fun e w' => e = .returned (unhexA s) ∧ Below w.heap.size w w') := fun w => unhex_any s w (by omega)
    have h64I : (s.length : Int) = 64 := by omega
    have hbI : ((s.length : Int) != 64) = false := by simp [h64I]
    cases hu : unhexP s with
    | none =>
      have HX : Hid (res = false) := by show _ = _; rw [HE.out, hu]; simp
      rw [unhexA_none hu] at HU
      clear HE hu h64 h64I
      generalize Ba s = y at *
      go_enter Tryz.func46, Tryz.ntmps46
      go_wp2_with fail
      refine Calls.mono (HU.out _) ?_
      rintro e w1 ⟨rfl, b⟩
      have B1 : Hid (Below w.heap.size w w1) := b
      clear b
      go_wp2_with fail
      go_ret
      exact ⟨by rw [HX.out]; rfl, B1.out⟩
    | some r =>
      have HX : Hid (res = true) := by show _ = _; rw [HE.out, hu]; simp [h64]
      rw [unhexA_some hu] at HU
      clear HE hu h64 h64I
      generalize Ba s = y at *
      go_enter Tryz.func46, Tryz.ntmps46
      go_wp2_with fail
      refine Calls.mono (HU.out _) ?_
      rintro e w1 ⟨rfl, b⟩
      have B1 : Hid (Below w.heap.size w w1) := b
      clear b
      go_wp2_with fail
      go_ret
      exact ⟨by rw [HX.out]; rfl, B1.out⟩
  · have HX : Hid (res = false) := by show _ = _; rw [HE.out]; simp [h64]
    have hbI : ((s.length : Int) != 64) = true := by simp; omega
    clear HE h64
    generalize Ba s = y at *
    go_enter Tryz.func46, Tryz.ntmps46
    go_wp2_with fail
    go_ret
    exact ⟨by rw [HX.out]; rfl, Below.refl _ _⟩
theorem ba_piece (t : Bs) (a b : Nat) : (Ba t).extract a b = Ba ((t.drop a).take (b - a)) := by
  apply ByteArray.ext
  simp [Ba, ByteArray.data_extract]
/-- what apart answers, at a cut behind i bytes -/
def ApartP (t : Bs) (e : Ending) : Prop := ∃ said d f, e = .returned (.tuple #[.string (Ba said), .string (Ba d), .bool f]) ∧ (f = true → cutP t = some (said, d)) ∧ (f = false → cutP t = none)
set_option maxRecDepth 100000 in
set_option maxHeartbeats 4000000 in
theorem apart_at (t x d : Bs) (i : Nat) (f3 f4 : Bool) (w : World) (ht : t.length ≤ 4611686018427387903) (hi : i ≤ t.length) (hx : x = t.take i) (hd : d = t.drop i) (hl : Lib.lastIndexByte (Ba t) 46 = (i : Int) - 1) (h3 : decide (x.count 46 = 3) = f3) (h4 : signsB d = f4) :
    Calls Tryz.prog 23 #[.string (Ba t)] w fun e w' => e = .returned (.tuple #[.string (Ba x), .string (Ba d), .bool (f3 && f4)]) ∧ Below w.heap.size w w' := by
  have hsz : (Ba t).size = t.length := ba_size t
  have HL : Hid (∀ w, Calls Tryz.prog 44 #[.string (Ba t), .int .u8 46] w fun e w' => e = .returned (.int .i64 ((i : Int) - 1)) ∧ w' = w) := fun w => by
    have h := Tryz.strings_LastIndexByte (Ba t) 46 (by rw [hsz]; omega) w
    rw [hl] at h
    exact h
  have HC : Hid (∀ w, Calls Tryz.prog 45 #[.string (Ba x), .string ⟨#[46]⟩] w fun e w' => e = .returned (.int .i64 (x.count 46 : Nat)) ∧ w' = w) := fun w => by
    have h := Tryz.strings_Count_one (Ba x) 46 w
    rw [ba_data] at h
    exact h
  have HS : Hid (∀ w, Calls Tryz.prog 46 #[.string (Ba d)] w fun e w' => e = .returned (.bool f4) ∧ Below w.heap.size w w') := fun w => by
    have h := areSigns_any d w (by rw [hd, List.length_drop]; unfold maxLen; omega)
    rw [h4] at h
    exact h
  have hxa : (Ba t).extract 0 i = Ba x := by rw [ba_piece, hx, List.drop_zero, Nat.sub_zero]
  have hda : (Ba t).extract i t.length = Ba d := by rw [ba_piece, hd, List.take_of_length_le (by simp)]
  have hwi : IntKind.i64.wrap ((i : Int) - 1 + 1) = (i : Int) := by rw [IntKind.wrap_i64]; omega
  have hwi2 : (i : Int) - 1 + 1 = (i : Int) := by omega
  have hwi3 : IntKind.i64.wrap (i : Int) = (i : Int) := by rw [IntKind.wrap_i64]; omega
  clear hl h4
  obtain ⟨cnt, hcnt⟩ : ∃ cnt, cnt = x.count 46 := ⟨_, rfl⟩
  rw [← hcnt] at HC h3
  have h3I : ((cnt : Int) == 3) = f3 := by
    rw [← h3, Bool.eq_iff_iff, beq_iff_eq, decide_eq_true_iff]
    omega
  clear hcnt hx hd h3
  generalize Ba x = y1 at *
  generalize Ba d = y2 at *
  generalize Ba t = y3 at *
  go_enter Tryz.func23, Tryz.ntmps23
  go_wp2_with fail
  refine Calls.mono (HL.out _) ?_
  rintro e w1 ⟨rfl, rfl⟩
  go_wp2_with fail
  go_quiet (fail)
  have HBq : Hid (Below w1.heap.size w1 (w1.drewN nq)) := below_drewN (Below.refl _ _) _
  generalize w1.drewN nq = wq at *
  clear hxa hda hwi hwi2 hwi3
  cases f3 with
  | true =>
    go_wp2_with fail
    refine Calls.mono (HC.out _) ?_
    rintro e w2 ⟨rfl, rfl⟩
    go_wp2_with fail
    refine Calls.mono (HS.out _) ?_
    rintro e w3 ⟨rfl, b⟩
    have B3 : Hid (Below w1.heap.size w1 w3) := HBq.out.trans (b.mono HBq.out.size)
    clear b
    go_wp2_with fail
    exact bodyPost_ret (v := .tuple #[.string y1, .string y2, .bool f4]) (by simp [results, Tryz.results23, go_sem]) rfl ⟨by simp, B3.out⟩
  | false =>
    go_wp2_with fail
    refine Calls.mono (HC.out _) ?_
    rintro e w2 ⟨rfl, rfl⟩
    go_wp2_with fail
    exact bodyPost_ret (v := .tuple #[.string y1, .string y2, .bool false]) (by simp [results, Tryz.results23, go_sem]) rfl ⟨by simp, HBq.out⟩
theorem apart_any (t : Bs) (w : World) (ht : t.length ≤ 4611686018427387903) : Calls Tryz.prog 23 #[.string (Ba t)] w fun e w' => ApartP t e ∧ Below w.heap.size w w' := by
  rcases last_cut t 46 with ⟨h, hn⟩ | ⟨i, hi, h, he, hn⟩
  · have h2 := apart_at t [] t 0 false (signsB t) w ht (Nat.zero_le _) rfl rfl (by rw [show (46 : Int) = ((46 : UInt8).toNat : Int) from rfl, h]; rfl) (by decide) rfl
    refine h2.mono ?_
    rintro e w' ⟨rfl, b⟩
    refine ⟨⟨[], t, false, rfl, (fun h => Bool.noConfusion h), fun _ => cut_none ?_⟩, b⟩
    rw [parts_none 46 t hn]
    simp
  · have hx : t.take (i + 1) = t.take i ++ [46] := by
      conv => lhs; rw [he]
      rw [List.append_assoc, List.take_append]
      have hl : (t.take i).length = i := by rw [List.length_take]; omega
      rw [hl, List.take_of_length_le (by omega)]
      simp
    have h2 := apart_at t (t.take (i + 1)) (t.drop (i + 1)) (i + 1) (decide ((t.take (i + 1)).count 46 = 3)) (signsB (t.drop (i + 1))) w ht (by omega) rfl rfl (by rw [show (46 : Int) = ((46 : UInt8).toNat : Int) from rfl, h]; omega) rfl rfl
    have hc := cut_last (x := t.take i) hn
    rw [← he, ← hx] at hc
    refine h2.mono ?_
    rintro e w' ⟨rfl, b⟩
    refine ⟨⟨_, _, _, rfl, fun hf => ?_, fun hf => ?_⟩, b⟩
    · rw [hc, if_pos]
      unfold signsB at hf
      simpa [Bool.and_eq_true] using hf
    · rw [hc, if_neg]
      unfold signsB at hf
      simpa [Bool.and_eq_false_iff] using hf
/-- the groups, as SplitN tells them -/
def glP (b : Bs) : List Bs := if b = [] then [] else Lib.splitK [44] 0 (min 7 (b.length + 1) - 1) b
theorem splitK_len (c : UInt8) : ∀ (k : Nat) (s x : Bs), x ∈ Lib.splitK [c] 0 k s → x.length ≤ s.length
  | 0, s, x, h => by
    rw [List.mem_singleton.1 h]
    exact Nat.le_refl _
  | k + 1, s, x, h => by
    rw [Lib.splitK] at h
    split at h
    · rw [List.mem_singleton.1 h]
      exact Nat.le_refl _
    · rcases List.mem_cons.1 h with rfl | h
      · rw [List.length_take]
        omega
      · have := splitK_len c k _ x h
        rw [List.length_drop] at this
        omega
theorem gl_len (b : Bs) : ∀ x ∈ glP b, x.length ≤ b.length := fun x hx => by
  unfold glP at hx
  split at hx
  · cases hx
  · exact splitK_len 44 _ b x hx
theorem gl_cases (b : Bs) : glP b = grpsOf b ∨ (6 < (glP b).length ∧ 6 < (grpsOf b).length) := by
  unfold glP grpsOf
  split
  · exact Or.inl rfl
  · have h := splitK_many 44 (min 7 (b.length + 1) - 1) b
    rw [Lib.count_one] at h
    have hle : b.count 44 ≤ b.length := List.count_le_length
    by_cases h6 : b.count 44 ≤ 6
    · refine Or.inl ?_
      rw [h.1 (by omega), ← split_parts, Lib.count_one]
    · refine Or.inr ⟨?_, ?_⟩
      · rw [h.2 (by omega)]
        omega
      · rw [parts_len]
        omega
theorem gl_user (a b : Bs) : (userI a (glP b) = 0 → glP b = grpsOf b) ∧ (userI a (glP b) ≠ 0 → userI a (grpsOf b) ≠ 0) := by
  rcases gl_cases b with h | ⟨h1, h2⟩
  · rw [h]
    exact ⟨fun _ => rfl, fun h => h⟩
  · exact ⟨fun h => absurd h (user_many h1), fun _ => user_many h2⟩
set_option maxHeartbeats 1000000 in
theorem groupsOf_any (b : Bs) (w : World) (hb : b.length < 4294967281) (hT : TkW w) :
    Calls Tryz.prog 47 #[.string (Ba b)] w fun e w' => ∃ p c, e = .returned (.slice p (glP b).length c) ∧ OwnN w.heap.size w' (.slice p (glP b).length c) (glP b) ∧ Below w.heap.size w w' := by
  have hbq : ((Ba b).toList == []) = decide (b = []) := by
    rw [ba_list, Bool.eq_iff_iff, beq_iff_eq, decide_eq_true_iff]
  by_cases h0 : b = []
  · have hg : glP b = [] := by rw [glP, if_pos h0]
    rw [hg]
    rw [decide_eq_true h0] at hbq
    clear h0 hg
    generalize Ba b = y at *
    go_enter Tryz.func47, Tryz.ntmps47
    go_wp2_with fail
    go_ret
    exact ⟨none, 0, rfl, World.ownsRow_nil _ _ _ _, Below.refl _ _⟩
  · obtain ⟨h0r, m, hm⟩ := hT.room
    have hg : glP b = Lib.splitK [44] 0 (min 7 (b.length + 1) - 1) b := by rw [glP, if_neg h0]
    have h := Tryz.strings_SplitN (Ba b) ⟨#[44]⟩ 7 m w (by rw [ba_size]; exact hb) hm (by decide) (by decide) (by decide)
    rw [splitB_list, ba_size, ← hg, List.length_map] at h
    have hln : (glP b).length ≤ min 7 (b.length + 1) := by
      have h1 := Lib.splitB_length_le ⟨#[44]⟩ 0 (min 7 (b.length + 1) - 1) (Ba b)
      rw [splitB_list, ← hg, List.length_map] at h1
      omega
    have HS : Hid (Calls Tryz.prog 76 #[.string (Ba b), .string ⟨#[44]⟩, .int .i64 7] w fun e w' => e = .returned (.slice (some ⟨w.heap.size, 0, none⟩) (glP b).length (min 7 (b.length + 1))) ∧ OwnN w.heap.size w' (.slice (some ⟨w.heap.size, 0, none⟩) (glP b).length (min 7 (b.length + 1))) (glP b) ∧ Below w.heap.size w w') := by
      refine h.mono ?_
      rintro e w' ⟨rfl, rfl⟩
      refine ⟨rfl, ⟨by simp, Or.inr ⟨w.heap.size, min 7 (b.length + 1), _, rfl, Nat.le_refl _, heap_alloc_new w _, hln, by unfold maxLen; omega, ?_, ?_⟩⟩, (Below.refl _ _).alloc (Nat.le_refl _) _⟩
      · rw [Lib.cellsOf_size (by rw [List.length_map]; exact hln), Nat.mul_one]
      · rw [Lib.cellsOf, List.toList_toArray, Nat.mul_one, List.take_append_of_le_length (by simp), List.take_of_length_le (by simp), List.map_map]
        rfl
    rw [decide_eq_false h0] at hbq
    clear h0 hg h hm h0r hln
    generalize hn : min 7 (b.length + 1) = c0 at *
    generalize glP b = gl at *
    generalize Ba b = y at *
    go_enter Tryz.func47, Tryz.ntmps47
    go_wp2_with fail
    refine Calls.mono HS.out ?_
    rintro e w1 ⟨rfl, s1, b1⟩
    have S1 : Hid (OwnN w.heap.size w1 (.slice (some ⟨w.heap.size, 0, none⟩) gl.length c0) gl) := s1
    have B1 : Hid (Below w.heap.size w w1) := b1
    clear s1 b1
    go_wp2_with fail
    go_ret
    exact ⟨_, _, rfl, S1.out, B1.out⟩
end Go.Proofs.YtmbpjbghhimedaaGreatDoor
