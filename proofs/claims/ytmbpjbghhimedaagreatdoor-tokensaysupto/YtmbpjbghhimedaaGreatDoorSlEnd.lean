/- Contract over this translation: what seal.ending answers. -/
import Derived.Test.YtmbpjbghhimedaaGreatDoorSlOwn
import Derived.Test.YtmbpjbghhimedaaGreatDoorShelf
import Derived.Lib.Repeat
import Derived.Deep.RegionHeld3
namespace Go.Proofs.YtmbpjbghhimedaaGreatDoor
open Go.RowKit
set_option linter.unusedVariables false
set_option linter.unusedSimpArgs false
theorem rep_zero : ∀ n, Lib.repeatL [0] n = List.replicate n (0 : UInt8)
  | 0 => rfl
  | n + 1 => by
    show [0] ++ Lib.repeatL [0] n = _
    rw [rep_zero n]
    rfl
def eightAt (m j : Nat) : UInt8 := (m / 2 ^ (56 - 8 * j)).toUInt8
/-- eight bytes of a number, the highest first -/
def eightP (m : Nat) : Bs := (List.range 8).map (eightAt m)
def noughts (many : Nat) : Nat := (64 - (many + 9) % 64) % 64
/-- what stands behind so many bytes -/
def endP (many : Nat) : Bs := [128] ++ List.replicate (noughts many) 0 ++ eightP (many * 8 % 18446744073709551616)
theorem eight_get {m j : Nat} (h : j < 8) : (eightP m)[j]? = some (eightAt m j) := by simp [eightP, h]
theorem eight_cell (m s : Nat) (hs : s ≤ 56) : IntKind.u8.wrap ((m : Int) / 2 ^ s) = (((m / 2 ^ s).toUInt8.toNat : Nat) : Int) := by
  rw [IntKind.wrap_u8', Nat.toUInt8_eq, UInt8.toNat_ofNat']
  have : ((m : Int) / 2 ^ s) = ((m / 2 ^ s : Nat) : Int) := by
    rw [Int.natCast_ediv, Int.natCast_pow]
    rfl
  rw [this]
  generalize m / 2 ^ s = x
  omega
/-- the row of the size and what it is read as -/
def EndS (w : World) (g : Nat) (cur : Array Value) (sz : Bs) (w' : World) : Prop :=
  Below w.heap.size w w' ∧ w'.heap[g]? = some (.cells cur 5 (0, 0)) ∧ (convert 56 9 (.slice (some ⟨g, 0, none⟩) 8 8)).run Tryz.prog w' = .ok (.string (Ba sz)) w'
theorem EndS.mk {w w' : World} {g : Nat} {cur : Array Value} {sz : Bs} (hb : Below w.heap.size w w') (hg : w'.heap[g]? = some (.cells cur 5 (0, 0))) (hl : sz.length = 8) (hc : ∀ j (h : j < sz.length), cur[j]? = some (.int .u8 sz[j].toNat)) : EndS w g cur sz w' := by
  refine ⟨hb, hg, ?_⟩
  have := conv_row (cap := 8) hg hc
  rw [hl] at this
  exact this
set_option maxRecDepth 100000 in
set_option maxHeartbeats 8000000 in
theorem ending_any (many : Nat) (w : World) (hm : many < 18446744073709551616) :
    Calls Tryz.prog 116 #[.int .u64 many] w fun e w' => e = .returned (.string (Ba (endP many))) ∧ Below w.heap.size w w' := by
  obtain ⟨i0, hi, hz0, hz1, hz2⟩ := info_parts info_byte
  obtain ⟨m8, hm8⟩ : ∃ m8, m8 = many * 8 % 18446744073709551616 := ⟨_, rfl⟩
  have hw8 : IntKind.u64.wrap ((many : Int) * 8) = (m8 : Int) := by rw [IntKind.wrap_u64]; omega
  obtain ⟨n, hn⟩ : ∃ n, n = noughts many := ⟨_, rfl⟩
  obtain ⟨p1, hp1⟩ : ∃ p, p = (many + 1) % 18446744073709551616 := ⟨_, rfl⟩
  obtain ⟨p2, hp2⟩ : ∃ p, p = (p1 + 8) % 18446744073709551616 := ⟨_, rfl⟩
  obtain ⟨p3, hp3⟩ : ∃ p, p = p2 % 64 := ⟨_, rfl⟩
  obtain ⟨p4, hp4⟩ : ∃ p, p = 64 - p3 := ⟨_, rfl⟩
  have m1 : IntKind.u64.wrap ((many : Int) + 1) = (p1 : Int) := by rw [IntKind.wrap_u64]; omega
  have m2 : IntKind.u64.wrap ((p1 : Int) + 8) = (p2 : Int) := by rw [IntKind.wrap_u64]; omega
  have m3 : ((p2 : Int).tmod 64) = (p3 : Int) := by rw [Int.tmod_eq_emod_of_nonneg (by omega)]; omega
  have m4 : IntKind.u64.wrap (64 - (p3 : Int)) = (p4 : Int) := by rw [IntKind.wrap_u64]; omega
  have hnn : n = p4 % 64 := by rw [hn]; unfold noughts; omega
  have m5 : ((p4 : Int).tmod 64) = (n : Int) := by rw [Int.tmod_eq_emod_of_nonneg (by omega)]; omega
  have hn64 : n < 64 := by omega
  have m6 : IntKind.i64.wrap (n : Int) = (n : Int) := by rw [IntKind.wrap_i64]; omega
  have HRep : Hid (∀ w, Calls Tryz.prog 42 #[.string ⟨#[0]⟩, .int .i64 n] w fun e w' => e = .returned (.string (Ba (List.replicate n 0))) ∧ Below w.heap.size w w') := fun w => by
    have h := Tryz.strings_Repeat ⟨#[0]⟩ n w (by omega) (by show 1 * n ≤ _; omega)
    rw [show (⟨#[0]⟩ : ByteArray).data.toList = [0] from rfl, rep_zero] at h
    exact h
  have HRes : Hid (Ba (endP many) = ⟨#[128]⟩ ++ Ba (List.replicate n 0) ++ Ba (eightP m8)) := by
    show _ = Ba [128] ++ Ba (List.replicate n 0) ++ Ba (eightP m8)
    rw [ba_append, ba_append, endP, hn, hm8]
  clear hp1 hp2 hp3 hp4 hn hnn
  go_enter Tryz.func116, Tryz.ntmps116
  go_wp2_with (refine wpList_make_full _ rfl _ _ 56 rfl w.heap.size 5 i0 (.int .u8 0) 1 Tryz.underlying56 hi hz0 hz1 .i64 .i64 _ _ 8 rfl rfl rfl rfl (by omega) (by unfold maxLen; omega) (Nat.le_refl _) ?_)
  intro w1 hown0 hgr0
  have HB1 : Hid (Below w.heap.size w w1) := (Below.refl _ w).grown hgr0 (Nat.le_refl _) (fun k hk => by cases hk)
  obtain ⟨cur0, hcur0, hcs0⟩ : ∃ cur, w1.heap[w.heap.size]? = some (.cells cur 5 (0, 0)) ∧ cur.size = 8 := by
    rcases hown0.2 with ⟨hv, _⟩ | ⟨g, cap, cur, hv, _, hh, _, _, hsz, _⟩
    · cases hv
    · injection hv with e1 _ e3
      injection e1 with e1
      injection e1 with e1
      subst e1
      exact ⟨cur, hh, by omega⟩
  have HC0 : Hid (w1.heap[w.heap.size]? = some (.cells cur0 5 (0, 0))) := hcur0
  clear hown0 hgr0 hcur0
  go_wp2_with fail
  go_loopw [10] (fun i wr => ∃ (k : Nat) (cur : Array Value), k ≤ 8 ∧ i = .int .i64 k ∧ cur.size = 8 ∧ wr.heap[w.heap.size]? = some (.cells cur 5 (0, 0)) ∧ (∀ j < k, cur[j]? = some (.int .u8 (eightAt m8 j).toNat)) ∧ Below w.heap.size w wr) (fun i _ => 8 - (intOf i).toNat)
  case atStart => exact ⟨0, cur0, Nat.zero_le _, rfl, hcs0, HC0.out, fun j hj => by omega, HB1.out⟩
  case round =>
    obtain ⟨k, cur, hk, rfl, hcs, hcell, hdone, hbel⟩ := hrel
    have HB : Hid (Below w.heap.size w wr) := hbel
    have HC : Hid (wr.heap[w.heap.size]? = some (.cells cur 5 (0, 0))) := hcell
    have HD : Hid (∀ j < k, cur[j]? = some (.int .u8 (eightAt m8 j).toNat)) := hdone
    by_cases hlt : k < 8
    · obtain ⟨q, hq⟩ : ∃ q, q = 8 * k := ⟨_, rfl⟩
      obtain ⟨s, hs⟩ : ∃ s, s = 56 - 8 * k := ⟨_, rfl⟩
      have w1' : IntKind.i64.wrap (8 * (k : Int)) = (q : Int) := by rw [IntKind.wrap_i64]; omega
      have w2' : IntKind.i64.wrap (56 - (q : Int)) = (s : Int) := by rw [IntKind.wrap_i64]; omega
      have hcv := eight_cell m8 s (by omega)
      have hea : (m8 / 2 ^ s).toUInt8 = eightAt m8 k := by rw [hs]; rfl
      rw [hea] at hcv
      have HCV : Hid ((many : Int) * 8 % 18446744073709551616 / 2 ^ (min s 64) % 256 = ((eightAt m8 k).toNat : Int)) := by
        show _ = _
        rw [← hcv, IntKind.wrap_u8', show min s 64 = s by omega]
        congr 2
      have hk8 : (k : Int) < 8 := by omega
      have hfz : wr.frozen? ⟨w.heap.size, k, none⟩ = false := Lib.frozen_of_heap hcell k
      obtain ⟨old, hold⟩ : ∃ old, cur[k]? = some old := ⟨cur[k]'(by omega), Array.getElem?_eq_getElem (by omega)⟩
      have hck : wr.cell? ⟨w.heap.size, k, none⟩ = some old := cell_at hcell hold
      have HN : Hid ((wr.setCell ⟨w.heap.size, k, none⟩ (.int .u8 (eightAt m8 k).toNat)).heap[w.heap.size]? = some (.cells (cur.setIfInBounds k (.int .u8 (eightAt m8 k).toNat)) 5 (0, 0))) := heap_setCell_same _ _ _ _ _ _ hcell
      have HNB : Hid (Below w.heap.size w (wr.setCell ⟨w.heap.size, k, none⟩ (.int .u8 (eightAt m8 k).toNat))) := hbel.setCell (p := ⟨w.heap.size, k, none⟩) (Nat.le_refl _) _
      have HND : Hid (∀ j < k + 1, (cur.setIfInBounds k (.int .u8 (eightAt m8 k).toNat))[j]? = some (.int .u8 (eightAt m8 j).toNat)) := fun j hj => by
        rw [Array.getElem?_setIfInBounds]
        split
        · rename_i e
          rw [if_pos (by omega), e]
        · exact HD.out j (by omega)
      clear hq hs hea hcell hdone hbel
      go_wp2_with fail
      go_roundw
      case rel =>
        rw [HCV.out]
        exact ⟨k + 1, _, by omega, by go_num, by simp [hcs], HN.out, HND.out, HNB.out⟩
      case measure => simp [intOf]; omega
    · have hke : k = 8 := by omega
      have hnl : ¬ ((k : Int) < 8) := by omega
      have HS : Hid (EndS w w.heap.size cur (eightP m8) wr.drew) := by
        refine EndS.mk hbel.drew hcell (by simp [eightP]) (fun j hj => ?_)
        have hj8 : j < 8 := by simpa [eightP] using hj
        rw [hdone j (by omega)]
        congr 3
        simp [eightP]
      have HSt : Hid (∀ w2, Below wr.drew.heap.size wr.drew w2 → EndS w w.heap.size cur (eightP m8) w2) := fun w2 hb => by
        have h0 := HS.out
        have hlt0 : w.heap.size < wr.drew.heap.size := lt_of_block h0.2.1
        refine EndS.mk (h0.1.trans (hb.mono (by omega))) (by rw [hb.block _ hlt0]; exact h0.2.1) (by simp [eightP]) (fun j hj => ?_)
        have hj8 : j < 8 := by simpa [eightP] using hj
        rw [hdone j (by omega)]
        congr 3
        simp [eightP]
      have z1 : (Ba (List.replicate n (0 : UInt8))).size ≤ 64 := by rw [ba_size, List.length_replicate]; omega
      have z2 : (Ba (eightP m8)).size = 8 := by rw [ba_size]; simp [eightP]
      clear hke hcell hdone hbel HB HC HD
      generalize Ba (List.replicate n (0 : UInt8)) = sR at *
      generalize hsE : Ba (eightP m8) = sE at *
      go_wp2_with fail
      have hS0 : EndS w w.heap.size cur (eightP m8) wr.drew := HS.out
      have z3 : (⟨#[128]⟩ : ByteArray).size + sR.size ≤ 9223372036854775807 := by show 1 + _ ≤ _; omega
      have z4 : (⟨#[128]⟩ ++ sR : ByteArray).size + sE.size ≤ 9223372036854775807 := by rw [ByteArray.size_append]; show 1 + _ + _ ≤ _; omega
      have z5 : 1 + sR.size ≤ 9223372036854775807 := by omega
      have z6 : 1 + sR.size + sE.size ≤ 9223372036854775807 := by omega
      have z7 : ¬ (9223372036854775807 < 1 + sR.size) := by omega
      have z8 : ¬ (9223372036854775807 < 1 + sR.size + sE.size) := by omega
      have z9 : ¬ (9223372036854775807 < 1 + sR.size + 8) := by omega
      go_region_held3 (fun w' => (convert 56 9 (.slice (some ⟨w.heap.size, 0, none⟩) 8 8)).run Tryz.prog w' = .ok (.string sE) w') (first | assumption | (rw [← hsE]; exact (And.right (And.right (by assumption : EndS w w.heap.size cur (eightP m8) _)))))
        (first
          | (go_at_call 42; refine Calls.mono (HRep.out _) ?_; rintro e w11 ⟨rfl, hb1⟩; have hS1 := HSt.out _ hb1))
      all_goals
        have HHe : Hid (Below w.heap.size w w11) := hS1.1
        go_wp2_with fail
        go_ret
        exact ⟨by rw [HRes.out]; rfl, HHe.out⟩
end Go.Proofs.YtmbpjbghhimedaaGreatDoor
