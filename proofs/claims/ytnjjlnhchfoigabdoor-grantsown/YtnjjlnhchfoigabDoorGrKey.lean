/- Contract over this translation: grants.keyOf; a key tells which places. -/
import Derived.Test.YtnjjlnhchfoigabDoorGrParted
import Derived.Test.YtnjjlnhchfoigabDoorShelf
import Derived.Laws.BytesArg
import Derived.Lib.ItoaNum
import Derived.Lib.ItoaLen
import Derived.Lib.AppendIntMem
namespace Go.Proofs.YtnjjlnhchfoigabDoor
open Go.RowKit Go.Maps
set_option linter.unusedVariables false
set_option linter.unusedSimpArgs false
/-- a number of digits that stand behind others -/
def decP (a : Nat) : Bs → Nat
  | [] => a
  | c :: r => decP (10 * a + (c.toNat - 48)) r
theorem decP_append : ∀ (l m : Bs) (a : Nat), decP a (l ++ m) = decP (decP a l) m
  | [], _, _ => rfl
  | c :: l, m, a => decP_append l m _
theorem dig_of (d : Nat) (h : d < 10) : (UInt8.ofNat (48 + d)).toNat = 48 + d := by
  rw [UInt8.toNat_ofNat']
  omega
theorem dec_small {u : Nat} (h : u < 10) : Lib.decDigits u = [UInt8.ofNat (48 + u)] := by rw [Lib.decDigits, dif_pos h]
theorem dec_big {u : Nat} (h : ¬ u < 10) : Lib.decDigits u = Lib.decDigits (u / 10) ++ [UInt8.ofNat (48 + u % 10)] := by rw [Lib.decDigits, dif_neg h]
theorem dec_val (u : Nat) : decP 0 (Lib.decDigits u) = u := by
  induction u using Nat.strongRecOn with
  | _ u ih =>
    by_cases h : u < 10
    · rw [dec_small h]
      show 10 * 0 + _ = u
      have := dig_of u h
      omega
    · rw [dec_big h, decP_append, ih (u / 10) (by omega)]
      show 10 * (u / 10) + _ = u
      have := dig_of (u % 10) (by omega)
      omega
theorem dec_inj {u v : Nat} (h : Lib.decDigits u = Lib.decDigits v) : u = v := by
  rw [← dec_val u, h, dec_val]
theorem dec_no (u : Nat) : (32 : UInt8) ∉ Lib.decDigits u := by
  induction u using Nat.strongRecOn with
  | _ u ih =>
    intro hm
    by_cases h : u < 10
    · rw [dec_small h, List.mem_singleton] at hm
      have := dig_of u h
      rw [← hm] at this
      have e : (32 : UInt8).toNat = 32 := rfl
      omega
    · rw [dec_big h] at hm
      rcases List.mem_append.1 hm with hm | hm
      · exact ih (u / 10) (by omega) hm
      · rw [List.mem_singleton] at hm
        have := dig_of (u % 10) (by omega)
        rw [← hm] at this
        have e : (32 : UInt8).toNat = 32 := rfl
        omega
theorem itoa_nat (u : Nat) : Lib.itoa (u : Int) = Lib.decDigits u := by
  unfold Lib.itoa
  rw [if_neg (by omega)]
  simp
theorem dec_len (u : Nat) (h : u ≤ 1099511627776) : (Lib.decDigits u).length ≤ 21 := by
  rw [← itoa_nat]
  exact Lib.itoa_length_le _ (by omega) (by omega)
/-- what keyOf answers -/
def keyP (l : List Nat) : Bs := l.flatMap fun i => Lib.decDigits i ++ [32]
theorem cut_eq : ∀ {a b r s : Bs}, (32 : UInt8) ∉ a → (32 : UInt8) ∉ b → a ++ 32 :: r = b ++ 32 :: s → a = b ∧ r = s
  | [], [], r, s, _, _, h => by
    simp only [List.nil_append, List.cons.injEq, true_and] at h
    exact ⟨rfl, h⟩
  | [], y :: b, r, s, _, hb, h => by
    simp only [List.nil_append, List.cons_append, List.cons.injEq] at h
    exact absurd (h.1 ▸ List.mem_cons_self) hb
  | x :: a, [], r, s, ha, _, h => by
    simp only [List.nil_append, List.cons_append, List.cons.injEq] at h
    exact absurd (h.1 ▸ List.mem_cons_self) ha
  | x :: a, y :: b, r, s, ha, hb, h => by
    simp only [List.cons_append, List.cons.injEq] at h
    obtain ⟨e, h⟩ := h
    obtain ⟨h1, h2⟩ := cut_eq (fun m => ha (List.mem_cons_of_mem _ m)) (fun m => hb (List.mem_cons_of_mem _ m)) h
    exact ⟨by rw [e, h1], h2⟩
theorem key_inj : ∀ {l m : List Nat}, keyP l = keyP m → l = m
  | [], [], _ => rfl
  | [], y :: m, h => by simp [keyP] at h
  | x :: l, [], h => by simp [keyP] at h
  | x :: l, y :: m, h => by
    have h : Lib.decDigits x ++ 32 :: keyP l = Lib.decDigits y ++ 32 :: keyP m := by
      simpa [keyP, List.append_assoc] using h
    obtain ⟨h1, h2⟩ := cut_eq (dec_no x) (dec_no y) h
    rw [dec_inj h1, key_inj h2]
theorem key_succ (l : List Nat) {k : Nat} (hk : k < l.length) : keyP (l.take (k + 1)) = keyP (l.take k) ++ Lib.decDigits l[k] ++ [32] := by
  unfold keyP
  rw [List.take_succ_eq_append_getElem hk, List.flatMap_append, List.append_assoc]
  simp
theorem key_len : ∀ (l : List Nat), (∀ n ∈ l, n ≤ 1099511627776) → (keyP l).length ≤ 22 * l.length
  | [], _ => by simp [keyP]
  | x :: l, h => by
    have h1 := key_len l (fun n hn => h n (List.mem_cons_of_mem _ hn))
    have h2 := dec_len x (h x List.mem_cons_self)
    have e : keyP (x :: l) = Lib.decDigits x ++ [32] ++ keyP l := by simp [keyP]
    rw [e]
    simp only [List.length_append, List.length_cons, List.length_nil]
    omega
/-- bytes of one's own -/
def OwnB (B : Nat) (w : World) (v : Value) (l : Bs) : Prop := w.ownsRow B 5 1 v l.length (Lib.byteCells l)
theorem strOf_bytes (l : Bs) : strOfNums (l.map fun c => (c.toNat : Int)) = ⟨l.toArray⟩ := by
  have : ((l.map fun c => (c.toNat : Int)).map fun n => UInt8.ofNat n.toNat) = l := by
    rw [List.map_map]
    conv => rhs; rw [← List.map_id l]
    apply List.map_congr_left
    intro c _
    simp
  unfold strOfNums
  rw [this]
theorem conv_row {w : World} {g cap : Nat} {cur : Array Value} {t : TypeId} {fr : Nat × Nat} {l : Bs} (hh : w.heap[g]? = some (.cells cur t fr)) (hc : ∀ i (h : i < l.length), cur[i]? = some (.int .u8 l[i].toNat)) :
    (convert 99 9 (.slice (some ⟨g, 0, none⟩) l.length cap)).run Tryd.prog w = .ok (.string (Ba l)) w := by
  have := run_convert_bytes_arg (P := Tryd.prog) w 99 5 Tryd.underlying99 Tryd.underlying5 g 0 l.length cap (l.map fun c => (c.toNat : Int)) (by simp) (by
    intro i hi
    rw [Nat.zero_add, cell_of_row _ _ _ _ _ _ hh, hc i hi]
    simp [hi]) 9 Tryd.underlying9
  have e : strOfNums (l.map fun c => (c.toNat : Int)) = ⟨l.toArray⟩ := strOf_bytes l
  rw [e] at this
  exact this
theorem conv_own {B : Nat} {w : World} {v : Value} {l : Bs} (h : OwnB B w v l) : (convert 99 9 v).run Tryd.prog w = .ok (.string (Ba l)) w := by
  rcases h.2 with ⟨rfl, hn⟩ | ⟨g, cap, cur, rfl, hg, hh, _, _, _, htk⟩
  · have : l = [] := List.length_eq_zero_iff.1 hn
    subst this
    exact run_convert_bytes_nil w 99 5 Tryd.underlying99 Tryd.underlying5 0 0 9 Tryd.underlying9
  · refine conv_row hh (fun i hi => ?_)
    have h2 : (cur.toList.take (l.length * 1))[i]? = (Lib.byteCells l)[i]? := by rw [htk]
    rw [List.getElem?_take, if_pos (by omega)] at h2
    rw [Array.getElem?_toList] at h2
    rw [h2]
    simp [Lib.byteCells, hi]
theorem info_u8 : (Tryd.prog.info? 5).map (fun i => (i.zero, i.size, i.bytes)) = some (some (.int .u8 0), 1, 1) := by kernel_rfl
/-- the table of powers of ten, here and in all worlds that have grown -/
def TabW (w : World) : Prop := Lib.TabBelow Tryd.prog w.heap.size w "internal/strconv.uint64pow10" .u64 Lib.pow10Tab
theorem TabW.below {w w' : World} (h : TabW w) (hb : Below w.heap.size w w') : TabW w' := fun w2 h2 => h w2 (hb.trans (h2.mono hb.size))
theorem TabW.at {w w' : World} (h : TabW w) (hb : Below w.heap.size w w') : Lib.TabBelow Tryd.prog w.heap.size w' "internal/strconv.uint64pow10" .u64 Lib.pow10Tab := fun w2 h2 => h w2 (hb.trans h2)
set_option maxRecDepth 100000 in
set_option maxHeartbeats 4000000 in
theorem keyOf_any (B : Nat) (v : Value) (l : List Nat) (w : World) (hv : w.ownsInts B 3 .i64 v (intsN l)) (hl : l.length ≤ 1048576) (hsm : ∀ n ∈ l, n ≤ 1099511627776) (hT : TabW w) :
    Calls Tryd.prog 59 #[v] w fun e w' => e = .returned (.string (Ba (keyP l))) ∧ Below w.heap.size w w' := by
  obtain ⟨i0, hi, hz0, hz1, hz2⟩ := info_parts info_u8
  have hform : ∃ p c, v = .slice p l.length c ∧ ∀ k (hk : k < l.length), ∃ g, p = some ⟨g, 0, none⟩ ∧ l.length ≤ c ∧ ∀ w1, Below w.heap.size w w1 → w1.cell? ⟨g, k, none⟩ = some (.int .i64 (l[k] : Int)) := by
    have hlen := intsN_len l
    rcases hv.1.2 with ⟨rfl, h0⟩ | ⟨g, cap, cur, rfl, hB, hg, hc, hm, hs, ht⟩
    · rw [hlen] at h0
      exact ⟨none, 0, by rw [h0], fun k hk => by omega⟩
    · refine ⟨some ⟨g, 0, none⟩, cap, by rw [hlen], fun k hk => ⟨g, rfl, by omega, fun w1 hb => ?_⟩⟩
      rw [hb.cell (p := ⟨g, k, none⟩) (Array.getElem?_eq_some_iff.1 hg).1]
      have h2 := World.ownsRow.cellAt hv.1 k (by omega)
      rw [h2]
      simp [intsN, hk]
  obtain ⟨p, c, rfl, hcell⟩ := hform
  have HC : Hid (∀ k (hk : k < l.length), ∃ g, p = some ⟨g, 0, none⟩ ∧ l.length ≤ c ∧ ∀ w1, Below w.heap.size w w1 → w1.cell? ⟨g, k, none⟩ = some (.int .i64 (l[k] : Int))) := hcell
  have HS : Hid (∀ k (hk : k < l.length), keyP (l.take (k + 1)) = keyP (l.take k) ++ Lib.decDigits l[k] ++ [32]) := fun k hk => key_succ l hk
  have HL : Hid (∀ k, k ≤ l.length → (keyP (l.take k)).length ≤ 22 * k) := fun k hk => by
    have := key_len (l.take k) (fun n hn => hsm n (List.mem_of_mem_take hn))
    have h2 : (l.take k).length ≤ k := by rw [List.length_take]; omega
    omega
  have HSm : Hid (∀ k (hk : k < l.length), l[k] ≤ 1099511627776) := fun k hk => hsm _ (List.getElem_mem hk)
  have HT : Hid (TabW w) := hT
  clear hcell hv hsm hT
  go_enter Tryd.func59, Tryd.ntmps59
  go_wp2_with fail
  go_loopw [3, 8] (fun bv iv wr => ∃ k : Nat, k ≤ l.length ∧ iv = .int .i64 k ∧ OwnB w.heap.size wr bv (keyP (l.take k)) ∧ Below w.heap.size w wr) (fun _ iv _ => l.length - (intOf iv).toNat)
  case atStart => exact ⟨0, Nat.zero_le _, rfl, World.ownsRow_nil _ _ _ _, Below.refl _ _⟩
  case round =>
    obtain ⟨k, hk, rfl, hown, hbel⟩ := hrel
    have HO : Hid (OwnB w.heap.size wr u3 (keyP (l.take k))) := hown
    have HB : Hid (Below w.heap.size w wr) := hbel
    clear hown hbel
    by_cases hlt : k < l.length
    · obtain ⟨g, rfl, hlc, hc0⟩ := HC.out k hlt
      have hc1 := hc0 wr HB.out
      have hkI : (k : Int) < (l.length : Int) := by omega
      have HSk : Hid (keyP (l.take (k + 1)) = keyP (l.take k) ++ Lib.decDigits l[k] ++ [32]) := HS.out k hlt
      have HLk : Hid ((keyP (l.take k)).length ≤ 22 * k) := HL.out k hk
      have HNk : Hid (l[k] ≤ 1099511627776) := HSm.out k hlt
      have HTk := HT.out.at HB.out
      have hdl := dec_len _ (HSm.out k hlt)
      have HDl : Hid ((Lib.decDigits l[k]).length ≤ 21) := hdl
      clear hc0 hdl
      generalize l[k] = x at *
      have HA : Hid (Calls Tryd.prog 71 #[u3, .int .i64 (x : Int), .int .i64 10] wr fun e w' => ∃ v', e = .returned v' ∧ OwnB w.heap.size w' v' (keyP (l.take k) ++ Lib.decDigits x) ∧ Below w.heap.size wr w') := by
        have h1 := HNk.out
        have h2 := HLk.out
        refine (Tryd.strconv_AppendInt_10 w.heap.size (keyP (l.take k)).length (x : Int) (by omega) (by omega) u3 (Lib.byteCells (keyP (l.take k))) wr HO.out HB.out.size (by omega) HTk).mono ?_
        rintro e w' ⟨v', rfl, ho, hb, _⟩
        refine ⟨v', rfl, ?_, hb⟩
        show w'.ownsRow _ _ _ _ _ _
        rw [itoa_nat] at ho
        rw [List.length_append, Lib.byteCells_append]
        exact ho
      clear HTk
      generalize keyP (l.take k) = K at *
      generalize hK1 : keyP (l.take (k + 1)) = K1 at *
      generalize Lib.decDigits x = dx at *
      go_wp2_with fail
      refine Calls.mono HA.out ?_
      rintro e w2 ⟨v', rfl, ho, hb⟩
      have HO2 : Hid ((w2.alloc (.cells #[.int .u8 32] 5)).ownsRow w.heap.size 5 1 v' (K ++ dx).length (Lib.byteCells (K ++ dx))) := own_belowG ho ((Below.refl _ _).alloc (Nat.le_refl _) _)
      have HB2 : Hid (Below w.heap.size w (w2.alloc (.cells #[.int .u8 32] 5))) := (HB.out.trans hb).alloc (HB.out.trans hb).size _
      have HLe : Hid ((K ++ dx).length ≤ 22 * k + 21) := by
        have h1 := HLk.out
        have h2 := HDl.out
        show _ ≤ _
        rw [List.length_append]
        omega
      clear ho hb
      go_wp2_with (at_builtin; refine wpList_append_own _ rfl _ _ 99 rfl w.heap.size 5 i0 (.int .u8 0) 1 1 Tryd.underlying99 hi hz0 hz1 hz2 rfl (by decide) _ _ _ rfl HO2.out ⟨w2.heap.size, 0, none⟩ 1 1 [.int .u8 32] rfl rfl (cell_one_new _ _ _) (by simp [Value.oneCell']) (by have := HLe.out; unfold maxLen; omega) (by have := HLe.out; omega) HB2.out.size ?_; intro v2 w3 hown' hgrow hnil)
      have HO3 : Hid (OwnB w.heap.size w3 v2 (keyP (l.take (k + 1)))) := by
        rw [hK1, HSk.out]
        show w3.ownsRow _ _ _ _ _ _
        rw [List.length_append, Lib.byteCells_append]
        exact hown'
      have HB3 : Hid (Below w.heap.size w w3) := HB2.out.grown hgrow HB2.out.size (fun j hj => (World.ownsRow.lt HO2.out j hj).1)
      clear hown' hgrow hnil
      go_wp2_with fail
      go_roundw
      case rel => exact ⟨k + 1, by omega, by go_num, HO3.out, HB3.out⟩
      case measure => simp [intOf]; omega
    · have hkE : k = l.length := by omega
      have hkI : ¬ ((k : Int) < (l.length : Int)) := by omega
      have hcv := conv_own HO.out
      rw [hkE, List.take_of_length_le (Nat.le_refl _)] at hcv
      clear hkE
      go_wp2_with fail
      go_ret
      exact ⟨rfl, HB.out⟩
end Go.Proofs.YtnjjlnhchfoigabDoor
