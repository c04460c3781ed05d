/- Contract over this translation: what seal.Unhex answers. -/
import Derived.Test.YtmbpjbghhimedaaGreatDoorSlHex
import Derived.Lib.Bytealg
import Derived.Deep.QuietTactic
namespace Go.Proofs.YtmbpjbghhimedaaGreatDoor
open Go.RowKit
set_option linter.unusedVariables false
set_option linter.unusedSimpArgs false
/-- which sign, or -1 -/
def dgt (c : UInt8) : Int := Lib.indexByte hexD c
def byteP (a b : UInt8) : UInt8 := ((dgt a).toNat * 16 + (dgt b).toNat).toUInt8
def unhexP : Bs → Option Bs
  | [] => some []
  | [_] => none
  | a :: b :: r => if dgt a < 0 ∨ dgt b < 0 then none else (unhexP r).map (byteP a b :: ·)
theorem dgt_all : ∀ n : Fin 256, -1 ≤ dgt (UInt8.ofNat n.val) ∧ dgt (UInt8.ofNat n.val) < 16 ∧ (0 ≤ dgt (UInt8.ofNat n.val) → hx (dgt (UInt8.ofNat n.val)).toNat = UInt8.ofNat n.val) := by decide +kernel
theorem dgt_range (c : UInt8) : -1 ≤ dgt c ∧ dgt c < 16 ∧ (0 ≤ dgt c → hx (dgt c).toNat = c) := by
  have h := dgt_all ⟨c.toNat, c.toNat_lt⟩
  simpa using h
theorem dgt_hx : ∀ k : Fin 16, dgt (hx k.val) = k.val := by decide +kernel
theorem or_dg : ∀ h l : Fin 16, bits .or .i64 ((h.val * 16 : Nat) : Int) (l.val : Int) = ((h.val * 16 + l.val : Nat) : Int) := by decide +kernel
theorem or_any (h l : Int) (h0 : 0 ≤ h) (h1 : h < 16) (l0 : 0 ≤ l) (l1 : l < 16) : bits .or .i64 (h * 16) l = h * 16 + l := by
  have := or_dg ⟨h.toNat, by omega⟩ ⟨l.toNat, by omega⟩
  simp only at this
  rw [show ((h.toNat * 16 : Nat) : Int) = h * 16 by omega, show ((l.toNat : Nat) : Int) = l by omega, show ((h.toNat * 16 + l.toNat : Nat) : Int) = h * 16 + l by omega] at this
  exact this
theorem dgt_of (c : UInt8) : firstIdx ⟨#[48, 49, 50, 51, 52, 53, 54, 55, 56, 57, 97, 98, 99, 100, 101, 102]⟩ c = dgt c := Lib.firstIdx_eq _ _
theorem unhex_drop (s : Bs) (k : Nat) (h : k + 1 < s.length) : unhexP (s.drop k) = if dgt s[k] < 0 ∨ dgt s[k + 1] < 0 then none else (unhexP (s.drop (k + 2))).map (byteP s[k] s[k + 1] :: ·) := by
  rw [List.drop_eq_getElem_cons (by omega : k < s.length), List.drop_eq_getElem_cons h, unhexP]
theorem unhex_odd : ∀ (s : Bs), s.length % 2 = 1 → unhexP s = none
  | [], h => by simp at h
  | [_], _ => rfl
  | a :: b :: r, h => by
    have ih := unhex_odd r (by simp only [List.length_cons] at h; omega)
    rw [unhexP, ih]
    split <;> rfl
theorem byte_val (a b : UInt8) (ha : 0 ≤ dgt a) (hb : 0 ≤ dgt b) : ((byteP a b).toNat : Int) = dgt a * 16 + dgt b := by
  have h1 := dgt_range a
  have h2 := dgt_range b
  unfold byteP
  rw [Nat.toUInt8_eq, UInt8.toNat_ofNat']
  omega
theorem index_sign (c : UInt8) (w : World) : Calls Tryz.prog 50 #[.string ⟨#[48, 49, 50, 51, 52, 53, 54, 55, 56, 57, 97, 98, 99, 100, 101, 102]⟩, .int .u8 c.toNat] w fun e w' => e = .returned (.int .i64 (dgt c)) ∧ w' = w := by
  have h := index_any ⟨#[48, 49, 50, 51, 52, 53, 54, 55, 56, 57, 97, 98, 99, 100, 101, 102]⟩ c.toNat w
  have hc : ((c.toNat : Int).toNat.toUInt8) = c := by simp
  rw [hc, dgt_of] at h
  exact h
/-- what Unhex answers -/
def unhexA (s : Bs) : Value := match unhexP s with
  | some r => .tuple #[.string (Ba r), .int .i64 0]
  | none => .tuple #[.string (Ba []), .int .i64 16]
theorem unhexA_none {s : Bs} (h : unhexP s = none) : unhexA s = .tuple #[.string (Ba []), .int .i64 16] := by rw [unhexA, h]
theorem unhexA_some {s r : Bs} (h : unhexP s = some r) : unhexA s = .tuple #[.string (Ba r), .int .i64 0] := by rw [unhexA, h]
/-- an even number of signs, the first k pairs of which are good -/
def UInv (s : Bs) (k : Nat) (done : Bs) : Prop := done.length = k ∧ unhexP s = (unhexP (s.drop (2 * k))).map (done ++ ·)
theorem UInv.start (s : Bs) : UInv s 0 [] := ⟨rfl, by simp⟩
theorem UInv.next {s : Bs} {k : Nat} {done : Bs} (h : UInv s k done) (hk : 2 * k + 1 < s.length) (ha : 0 ≤ dgt s[2 * k]) (hb : 0 ≤ dgt s[2 * k + 1]) : UInv s (k + 1) (done ++ [byteP s[2 * k] s[2 * k + 1]]) := by
  refine ⟨by rw [List.length_append, h.1]; rfl, ?_⟩
  rw [h.2, unhex_drop s (2 * k) hk, if_neg (by omega), show 2 * (k + 1) = 2 * k + 2 by omega]
  cases unhexP (s.drop (2 * k + 2)) with
  | none => rfl
  | some r => simp
theorem UInv.bad {s : Bs} {k : Nat} {done : Bs} (h : UInv s k done) (hk : 2 * k + 1 < s.length) (hb : dgt s[2 * k] < 0 ∨ dgt s[2 * k + 1] < 0) : unhexP s = none := by
  rw [h.2, unhex_drop s (2 * k) hk, if_pos hb]
  rfl
theorem UInv.all {s : Bs} {k : Nat} {done : Bs} (h : UInv s k done) (hk : s.length ≤ 2 * k) : unhexP s = some done := by
  rw [h.2, List.drop_of_length_le hk]
  simp [unhexP]
set_option maxRecDepth 100000 in
set_option maxHeartbeats 4000000 in
theorem unhex_any (s : Bs) (w : World) (hs : s.length ≤ 4194304) :
    Calls Tryz.prog 75 #[.string (Ba s)] w fun e w' => e = .returned (unhexA s) ∧ Below w.heap.size w w' := by
  have hsz : (Ba s).size = s.length := ba_size s
  by_cases hodd : s.length % 2 = 1
  · rw [unhexA_none (unhex_odd s hodd)]
    have h2 : ((s.length : Int).tmod 2) = 1 := by rw [Int.tmod_eq_emod_of_nonneg (by omega)]; omega
    go_enter Tryz.func75, Tryz.ntmps75
    go_wp2_with fail
    go_ret2
    exact ⟨rfl, Below.refl _ _⟩
  · have h2 : ((s.length : Int).tmod 2) = 0 := by rw [Int.tmod_eq_emod_of_nonneg (by omega)]; omega
    have HG : Hid (Calls Tryz.prog 37 #[.pointer (some ⟨w.heap.size, 0, none⟩), .int .i64 ((s.length : Int) / 2)] (w.alloc (.cells #[.pointer none, .slice none 0 0] 58)) fun e w' => e = .returned (.tuple #[]) ∧ (Lib.BuilderAt 58 5 w.heap.size w.heap.size (.pointer (some ⟨w.heap.size, 0, none⟩)) [] w' ∧ Below w.heap.size (w.alloc (.cells #[.pointer none, .slice none 0 0] 58)) w')) := by
      have h := Tryz.Builder_Grow_fresh w.heap.size w.heap.size (s.length / 2) (w.alloc (.cells #[.pointer none, .slice none 0 0] 58)) (Nat.le_refl _) (heap_alloc_new w _) (by simp) (by omega)
      rw [show ((s.length / 2 : Nat) : Int) = (s.length : Int) / 2 by omega] at h
      exact h
    go_enter Tryz.func75, Tryz.ntmps75
    go_wp2_with fail
    refine Calls.mono HG.out ?_
    rintro e w1 ⟨rfl, hi1, b1⟩
    have HB0 : Hid (Below w.heap.size w w1) := ((Below.refl _ _).alloc (Nat.le_refl _) _).trans b1
    have HI0 : Hid (IsB w.heap.size w.heap.size (Lib.byteCells []) w1) := Or.inr hi1
    clear hi1 b1 HG
    go_wp2_with fail
    go_loopw [5] (fun i wr => ∃ (k : Nat) (done : Bs), 2 * k ≤ s.length ∧ (∃ j : Nat, j = 2 * k ∧ i = .int .i64 j) ∧ UInv s k done ∧ IsB w.heap.size w.heap.size (Lib.byteCells done) wr ∧ Below w.heap.size w wr) (fun i _ => s.length - (intOf i).toNat)
    case atStart => exact ⟨0, [], Nat.zero_le _, ⟨0, rfl, rfl⟩, UInv.start s, HI0.out, HB0.out⟩
    case round =>
      obtain ⟨k, done, hk, ⟨j, hj, rfl⟩, hinv, hib, hbel⟩ := hrel
      have HI : Hid (IsB w.heap.size w.heap.size (Lib.byteCells done) wr) := hib
      have HB : Hid (Below w.heap.size w wr) := hbel
      have HV : Hid (UInv s k done) := hinv
      have hdl : done.length = k := hinv.1
      clear hib hbel hinv
      by_cases hlt : 2 * k < s.length
      · have hlt1 : 2 * k + 1 < s.length := by omega
        have hj0 : j < s.length := by omega
        have hj1 : j + 1 < s.length := by omega
        have HN : Hid (0 ≤ dgt s[2 * k] → 0 ≤ dgt s[2 * k + 1] → UInv s (k + 1) (done ++ [byteP s[2 * k] s[2 * k + 1]])) := fun a b => HV.out.next hlt1 a b
        have HX : Hid (dgt s[2 * k] < 0 ∨ dgt s[2 * k + 1] < 0 → unhexP s = none) := fun h => HV.out.bad hlt1 h
        have hga : (Ba s)[j]'(by rw [ba_size]; exact hj0) = s[2 * k] := by rw [ba_get s _ hj0]; congr 1
        obtain ⟨j1, hje⟩ : ∃ j1, j1 = j + 1 := ⟨_, rfl⟩
        have hwj : IntKind.i64.wrap ((j : Int) + 1) = (j1 : Int) := by rw [IntKind.wrap_i64]; omega
        have hjl : j1 < s.length := by omega
        have hgb : (Ba s)[j1]'(by rw [ba_size]; exact hjl) = s[2 * k + 1] := by rw [ba_get s _ hjl]; congr 1; omega
        have HJE : Hid (j1 = j + 1) := hje
        clear hje hj1
        have HJ : Hid (j = 2 * k) := hj
        have HK : Hid (2 * k ≤ s.length) := hk
        clear hj hk
        generalize hsa : s[2 * k] = xa at *
        generalize hsb : s[2 * k + 1] = xb at *
        obtain ⟨ra, rb, rc⟩ := dgt_range xa
        obtain ⟨sa, sb, sc⟩ := dgt_range xb
        have CA : Hid (∀ w, Calls Tryz.prog 50 #[.string ⟨#[48, 49, 50, 51, 52, 53, 54, 55, 56, 57, 97, 98, 99, 100, 101, 102]⟩, .int .u8 xa.toNat] w fun e w' => e = .returned (.int .i64 (dgt xa)) ∧ w' = w) := index_sign xa
        have CB : Hid (∀ w, Calls Tryz.prog 50 #[.string ⟨#[48, 49, 50, 51, 52, 53, 54, 55, 56, 57, 97, 98, 99, 100, 101, 102]⟩, .int .u8 xb.toNat] w fun e w' => e = .returned (.int .i64 (dgt xb)) ∧ w' = w) := index_sign xb
        have hbv : 0 ≤ dgt xa → 0 ≤ dgt xb → ((byteP xa xb).toNat : Int) = dgt xa * 16 + dgt xb := byte_val xa xb
        have hor : 0 ≤ dgt xa → 0 ≤ dgt xb → bits .or .i64 (dgt xa * 16) (dgt xb) = dgt xa * 16 + dgt xb := fun a b => or_any _ _ a rb b sb
        generalize byteP xa xb = y at *
        generalize dgt xa = da at *
        generalize dgt xb = db at *
        clear rc sc hsa hsb HV hlt hlt1
        go_wp2_with fail
        go_quiet (first | (go_at_call 50; exact Calls.quiet_of_same (CA.out _)) | (go_at_call 50; exact Calls.quiet_of_same (CB.out _)))
        have HBq : Hid (Below w.heap.size w (wr.drewN nq)) := below_drewN HB.out _
        have HIq : Hid (IsB w.heap.size w.heap.size (Lib.byteCells done) (wr.drewN nq)) := HI.out
        generalize wr.drewN nq = wq at *
        clear HB HI CA CB
        by_cases hbad : da < 0 ∨ db < 0
        · have hun := HX.out hbad
          by_cases hda : da < 0
          · go_wp2_with fail
            go_ret2
            exact ⟨by rw [unhexA_none hun]; rfl, HBq.out⟩
          · have hdb : db < 0 := by omega
            go_wp2_with fail
            go_ret2
            exact ⟨by rw [unhexA_none hun]; rfl, HBq.out⟩
        · have hda : 0 ≤ da := by omega
          have hdb : 0 ≤ db := by omega
          have hy := hbv hda hdb
          have ho := hor hda hdb
          have HN2 := HN.out hda hdb
          have hdl1 : (Lib.byteCells done).length + 1 ≤ 140737488355328 := by rw [Lib.byteCells_length, hdl]; have := HK.out; omega
          go_wp2_with fail
          refine Calls.mono (wbyte_any w.heap.size w.heap.size (Lib.byteCells done) (da * 16 + db) wq HIq.out hdl1 HBq.out.size) ?_
          rintro e w2 ⟨rfl, hi3, b2, _⟩
          have HB2 : Hid (Below w.heap.size w w2) := HBq.out.trans b2
          have HI2 : Hid (IsB w.heap.size w.heap.size (Lib.byteCells (done ++ [y])) w2) := by
            rw [← hy] at hi3
            rw [cells_snoc]
            exact hi3
          clear hi3 b2 HBq HIq
          go_wp2_with fail
          have := HJ.out
          have := HJE.out
          have := HK.out
          go_roundw
          case rel => exact ⟨k + 1, done ++ [y], by omega, ⟨j + 2, by omega, by go_num⟩, HN2, HI2.out, HB2.out⟩
          case measure => simp [intOf]; omega
      · have hE := HV.out.all (by omega)
        have HS : Hid (Calls Tryz.prog 39 #[.pointer (some ⟨w.heap.size, 0, none⟩)] wr fun e w' => e = .returned (.string (Ba done)) ∧ Below w.heap.size wr w') :=
          Tryz.Builder_String_any w.heap.size w.heap.size done wr HI.out HB.out.size
        have hjn : ¬ ((j : Int) < (s.length : Int)) := by omega
        go_wp2_with fail
        refine Calls.mono HS.out ?_
        rintro e w5 ⟨rfl, b5⟩
        have HB5 : Hid (Below w.heap.size w w5) := HB.out.trans b5
        clear b5
        go_wp2_with fail
        go_ret2
        exact ⟨by rw [unhexA_some hE]; rfl, HB5.out⟩
end Go.Proofs.YtmbpjbghhimedaaGreatDoor
