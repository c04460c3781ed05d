/- Contracts of the reader's small methods over this translation: which byte comes next, going past it. -/
import Derived.Test.YtaogilpkeeigoaaGreatDoorRows
import Derived.Test.YtaogilpkeeigoaaGreatDoorRdPlain
import Derived.WalkKit
import Derived.WalkSpells
import Derived.Deep.QuietTactic
import Derived.BigQuiet
namespace Go.Proofs.YtaogilpkeeigoaaGreatDoor
open Go.RowKit
set_option linter.unusedVariables false
set_option linter.unusedSimpArgs false
set_option maxHeartbeats 400000 in
theorem next_any (b : Nat) (t : ByteArray) (p k : Nat) (w : World) (h : Rd b t p k w) (hp : p ≤ t.size) (ht : t.size ≤ 2000) :
    Calls Tryz.prog 59 #[.pointer (some ⟨b, 0, none⟩)] w fun e w' => e = .returned (.int .u8 (hd (rest t p)).toNat) ∧ ∃ m, w' = w.drewN m := by
  have h0 := h.text
  have h1 := h.place
  have HR : Hid (Rd b t p k w) := h
  clear h
  by_cases hlt : p < t.size
  · have hh := hd_lt hlt
    have hI : (p : Int) < (t.size : Int) := by omega
    go_enter Tryz.func59, Tryz.ntmps59
    go_wp2
    go_quiet (fail)
    go_wp2
    go_quiet (fail)
    go_wp2
    go_ret
    exact ⟨by rw [hh]; rfl, _, drewN_two _ _ _⟩
  · have hh := hd_end (Nat.le_of_not_lt hlt)
    have hI : ¬ (p : Int) < (t.size : Int) := by omega
    go_enter Tryz.func59, Tryz.ntmps59
    go_wp2
    go_quiet (fail)
    go_wp2
    go_ret
    exact ⟨by rw [hh]; rfl, _, rfl⟩
theorem next_g (b : Nat) (t : ByteArray) (p k : Nat) (w : World) (h : Rd b t p k w) (hp : p ≤ t.size) (ht : t.size ≤ 2000) :
    Calls Tryz.prog 59 #[.pointer (some ⟨b, 0, none⟩)] w fun e w' => e = .returned (.int .u8 (hd (rest t p)).toNat) ∧ G b w w' ∧ Rd b t p k w' := by
  refine (next_any b t p k w h hp ht).mono ?_
  rintro e w1 ⟨rfl, m, rfl⟩
  exact ⟨rfl, (G.refl b w).drewN m, h.drewN m⟩
theorem bool_ne {c d : UInt8} (h : c ≠ d) : ((c.toNat : Int) != (d.toNat : Int)) = true := by
  rw [bne_iff_ne]
  intro e
  exact h (UInt8.toNat_inj.1 (by omega))
theorem bool_eq {c d : UInt8} (h : c = d) : ((c.toNat : Int) != (d.toNat : Int)) = false := by
  subst h
  simp
set_option maxHeartbeats 400000 in
theorem take_no (b : Nat) (t : ByteArray) (p k : Nat) (c : UInt8) (w : World) (h : Rd b t p k w) (hp : p ≤ t.size) (ht : t.size ≤ 2000) (hc : hd (rest t p) ≠ c) :
    Calls Tryz.prog 65 #[.pointer (some ⟨b, 0, none⟩), .int .u8 c.toNat] w fun e w' => e = .returned (.bool false) ∧ G b w w' ∧ Rd b t p k w' := by
  have hb := bool_ne hc
  have HR : Hid (Rd b t p k w) := h
  clear h
  go_enter Tryz.func65, Tryz.ntmps65
  go_wp2_with fail
  refine (next_any b t p k _ HR.out hp ht).mono ?_
  rintro e w1 ⟨rfl, m, rfl⟩
  go_wp2_with fail
  go_ret
  exact ⟨rfl, (G.refl b w).drewN m, HR.out.drewN m⟩
set_option maxHeartbeats 400000 in
theorem take_yes (b : Nat) (t : ByteArray) (p k : Nat) (c : UInt8) (w : World) (h : Rd b t p k w) (ht : t.size ≤ 2000) (hlt : p < t.size) (hc : hd (rest t p) = c) :
    Calls Tryz.prog 65 #[.pointer (some ⟨b, 0, none⟩), .int .u8 c.toNat] w fun e w' => e = .returned (.bool true) ∧ G b w w' ∧ Rd b t (p + 1) k w' := by
  have hb := bool_eq hc
  have h1 := fun m => (h.drewN m).place
  have h2 := fun m => (h.drewN m).free 1
  have HR : Hid (Rd b t p k w) := h
  have HC : Hid (hd (rest t p) = c) := hc
  clear h hc
  go_enter Tryz.func65, Tryz.ntmps65
  go_wp2_with fail
  refine (next_any b t p k _ HR.out (by omega) ht).mono ?_
  rintro e w1 ⟨rfl, m, rfl⟩
  have h1 := h1 m
  have h2 := h2 m
  have HR : Hid (Rd b t p k (w.drewN m)) := HR.out.drewN m
  have HG : Hid (G b w (w.drewN m)) := (G.refl b w).drewN m
  generalize w.drewN m = w1 at *
  go_wp2_with fail
  go_ret
  exact ⟨rfl, HG.out.setCell 1 _, HR.out.move (p + 1)⟩
end Go.Proofs.YtaogilpkeeigoaaGreatDoor
