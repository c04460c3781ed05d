/- Contracts of the reader's methods over this translation: one sign of a text. -/
import Derived.Test.YtaogilpkeeigoaaGreatDoorRdBegin
import Derived.Test.YtaogilpkeeigoaaGreatDoorDocQuote
namespace Go.Proofs.YtaogilpkeeigoaaGreatDoor
open Go.RowKit
set_option linter.unusedVariables false
set_option linter.unusedSimpArgs false
theorem byte_eq_iff (c : UInt8) (n : Nat) (hn : n < 256) : (c.toNat : Int) = (n : Int) ↔ c = UInt8.ofNat n := by
  constructor
  · intro e
    have : c.toNat = n := by omega
    rw [← this]
    simp
  · intro e
    subst e
    simp [Nat.mod_eq_of_lt hn]
theorem ofn (n : Nat) (hn : n < 256) : (UInt8.ofNat n).toNat = n := by simp [Nat.mod_eq_of_lt hn]
set_option maxHeartbeats 400000 in
theorem meaning_any (c : UInt8) (w : World) : Calls Tryz.prog 109 #[.int .u8 c.toNat] w fun e w' => e = .returned (.int .u8 (meaning c).toNat) ∧ w' = w := by
  by_cases h34 : c = 34
  · subst h34
    go_enter Tryz.func109, Tryz.ntmps109
    go_wp2
    go_ret
    exact ⟨rfl, rfl⟩
  by_cases h92 : c = 92
  · subst h92
    go_enter Tryz.func109, Tryz.ntmps109
    go_wp2
    go_ret
    exact ⟨rfl, rfl⟩
  by_cases h110 : c = 110
  · subst h110
    go_enter Tryz.func109, Tryz.ntmps109
    go_wp2
    go_ret
    exact ⟨rfl, rfl⟩
  by_cases h116 : c = 116
  · subst h116
    go_enter Tryz.func109, Tryz.ntmps109
    go_wp2
    go_ret
    exact ⟨rfl, rfl⟩
  have e : meaning c = 0 := by simp [meaning, h34, h92, h110, h116]
  have b1 := ne_bool 34 (by decide) h34
  have b2 := ne_bool 92 (by decide) h92
  have b3 := ne_bool 110 (by decide) h110
  have b4 := ne_bool 116 (by decide) h116
  clear h34 h92 h110 h116
  rw [e]
  clear e
  go_enter Tryz.func109, Tryz.ntmps109
  go_wp2
  go_ret
  exact ⟨rfl, rfl⟩
theorem plain_int (c : UInt8) : plain c = (decide ((32 : Int) ≤ (c.toNat : Int)) && decide ((c.toNat : Int) ≤ 126)) := by
  unfold plain
  congr 1
  · rw [decide_eq_decide, UInt8.le_iff_toNat_le]
    show 32 ≤ c.toNat ↔ _
    omega
  · rw [decide_eq_decide, UInt8.le_iff_toNat_le]
    show c.toNat ≤ 126 ↔ _
    omega
set_option maxHeartbeats 400000 in
theorem isPlain_any (c : UInt8) (w : World) : Calls Tryz.prog 23 #[.int .u8 c.toNat] w fun e w' => e = .returned (.bool (plain c)) ∧ w' = w := by
  rw [plain_int]
  go_enter Tryz.func23, Tryz.ntmps23
  go_wp2
  all_goals go_ret
  all_goals (refine ⟨?_, rfl⟩; simp [*] <;> omega)
set_option maxHeartbeats 400000 in
theorem sign_esc (b : Nat) (t : ByteArray) (p k : Nat) (w : World) (h : Rd b t p k w) (ht : t.size ≤ 2000) (hc : hd (rest t p) = 92) (hm : meaning (hd (rest t (p + 1))) ≠ 0) :
    Calls Tryz.prog 78 #[.pointer (some ⟨b, 0, none⟩)] w fun e w' => e = .returned (.int .u8 (meaning (hd (rest t (p + 1)))).toNat) ∧ G b w w' ∧ Rd b t (p + 2) k w' := by
  have hlt : p < t.size := lt_of_hd (by rw [hc]; decide)
  have hlt2 : p + 1 < t.size := lt_of_hd (fun e => hm (by rw [e]; rfl))
  have hb : (((meaning (hd (rest t (p + 1)))).toNat : Int) != 0) = true := bool_ne (d := 0) hm
  have HR : Hid (Rd b t p k w) := h
  have HC : Hid (hd (rest t p) = 92) := hc
  clear h hc hm
  go_enter Tryz.func78, Tryz.ntmps78
  go_wp2_with fail
  refine (take_yes b t p k 92 _ HR.out ht hlt HC.out).mono ?_
  rintro e w1 ⟨rfl, g1, r1⟩
  have HG1 : Hid (G b w w1) := g1
  have HR1 : Hid (Rd b t (p + 1) k w1) := r1
  clear g1 r1
  go_wp2_with fail
  refine (next_g b t (p + 1) k _ HR1.out (by omega) ht).mono ?_
  rintro e w2 ⟨rfl, g1, r1⟩
  have HG2 : Hid (G b w w2) := HG1.out.trans g1
  have HR2 : Hid (Rd b t (p + 1) k w2) := r1
  have c1 := r1.place
  have c2 := r1.free 1
  clear g1 r1
  go_wp2_with fail
  refine (meaning_any _ _).mono ?_
  rintro e w3 ⟨rfl, rfl⟩
  go_wp2_with fail
  go_ret
  refine ⟨rfl, ?_, ?_⟩
  · exact HG2.out.setCell 1 _
  · exact HR2.out.move (p + 2)
set_option maxHeartbeats 400000 in
theorem sign_plain (b : Nat) (t : ByteArray) (p k : Nat) (w : World) (h : Rd b t p k w) (ht : t.size ≤ 2000) (hc : hd (rest t p) ≠ 92) (hm : plain (hd (rest t p)) = true) :
    Calls Tryz.prog 78 #[.pointer (some ⟨b, 0, none⟩)] w fun e w' => e = .returned (.int .u8 (hd (rest t p)).toNat) ∧ G b w w' ∧ Rd b t (p + 1) k w' := by
  have h0 : hd (rest t p) ≠ 0 := fun e => by rw [e] at hm; exact absurd hm (by decide)
  have hlt : p < t.size := lt_of_hd h0
  have hb : (((hd (rest t p)).toNat : Int) != 0) = true := bool_ne (d := 0) h0
  have HR : Hid (Rd b t p k w) := h
  have HC : Hid (hd (rest t p) ≠ 92) := hc
  clear h hc h0
  go_enter Tryz.func78, Tryz.ntmps78
  go_wp2_with fail
  refine (take_no b t p k 92 _ HR.out (by omega) ht HC.out).mono ?_
  rintro e w1 ⟨rfl, g1, r1⟩
  have HG1 : Hid (G b w w1) := g1
  have HR1 : Hid (Rd b t p k w1) := r1
  clear g1 r1
  go_wp2_with fail
  refine (next_g b t p k _ HR1.out (by omega) ht).mono ?_
  rintro e w2 ⟨rfl, g1, r1⟩
  have HG2 : Hid (G b w w2) := HG1.out.trans g1
  have HR2 : Hid (Rd b t p k w2) := r1
  clear g1 r1
  go_wp2_with fail
  refine (isPlain_any _ _).mono ?_
  rintro e w3 ⟨rfl, rfl⟩
  go_wp2_with fail
  refine (next_g b t p k _ HR2.out (by omega) ht).mono ?_
  rintro e w4 ⟨rfl, g1, r1⟩
  have HG4 : Hid (G b w w4) := HG2.out.trans g1
  have HR4 : Hid (Rd b t p k w4) := r1
  have c1 := r1.place
  have c2 := r1.free 1
  clear g1 r1
  go_wp2_with fail
  go_ret
  refine ⟨rfl, ?_, ?_⟩
  · exact HG4.out.setCell 1 _
  · exact HR4.out.move (p + 1)
set_option maxHeartbeats 400000 in
theorem sign_bad1 (b : Nat) (t : ByteArray) (p k : Nat) (w : World) (h : Rd b t p k w) (ht : t.size ≤ 2000) (hc : hd (rest t p) = 92) (hm : meaning (hd (rest t (p + 1))) = 0) :
    Calls Tryz.prog 78 #[.pointer (some ⟨b, 0, none⟩)] w fun e w' => e = .returned (.int .u8 0) ∧ G b w w' := by
  have hlt : p < t.size := lt_of_hd (by rw [hc]; decide)
  have HR : Hid (Rd b t p k w) := h
  have HC : Hid (hd (rest t p) = 92) := hc
  have HM : Hid (meaning (hd (rest t (p + 1))) = 0) := hm
  clear h hc hm
  go_enter Tryz.func78, Tryz.ntmps78
  go_wp2_with fail
  refine (take_yes b t p k 92 _ HR.out ht hlt HC.out).mono ?_
  rintro e w1 ⟨rfl, g1, r1⟩
  have HG1 : Hid (G b w w1) := g1
  have HR1 : Hid (Rd b t (p + 1) k w1) := r1
  clear g1 r1
  go_wp2_with fail
  refine (next_g b t (p + 1) k _ HR1.out (by omega) ht).mono ?_
  rintro e w2 ⟨rfl, g1, r1⟩
  have HG2 : Hid (G b w w2) := HG1.out.trans g1
  clear g1 r1
  go_wp2_with fail
  refine (meaning_any _ _).mono ?_
  rintro e w3 ⟨rfl, rfl⟩
  rw [HM.out]
  go_wp2_with fail
  go_ret
  exact ⟨rfl, HG2.out⟩
set_option maxHeartbeats 400000 in
theorem sign_bad2 (b : Nat) (t : ByteArray) (p k : Nat) (w : World) (h : Rd b t p k w) (hp : p ≤ t.size) (ht : t.size ≤ 2000) (hc : hd (rest t p) ≠ 92) (hm : plain (hd (rest t p)) = false) :
    Calls Tryz.prog 78 #[.pointer (some ⟨b, 0, none⟩)] w fun e w' => e = .returned (.int .u8 0) ∧ G b w w' := by
  have HR : Hid (Rd b t p k w) := h
  have HC : Hid (hd (rest t p) ≠ 92) := hc
  clear h hc
  go_enter Tryz.func78, Tryz.ntmps78
  go_wp2_with fail
  refine (take_no b t p k 92 _ HR.out hp ht HC.out).mono ?_
  rintro e w1 ⟨rfl, g1, r1⟩
  have HG1 : Hid (G b w w1) := g1
  have HR1 : Hid (Rd b t p k w1) := r1
  clear g1 r1
  go_wp2_with fail
  refine (next_g b t p k _ HR1.out hp ht).mono ?_
  rintro e w2 ⟨rfl, g1, r1⟩
  have HG2 : Hid (G b w w2) := HG1.out.trans g1
  clear g1 r1
  go_wp2_with fail
  refine (isPlain_any _ _).mono ?_
  rintro e w3 ⟨rfl, rfl⟩
  go_wp2_with fail
  go_ret
  exact ⟨rfl, HG2.out⟩
end Go.Proofs.YtaogilpkeeigoaaGreatDoor
