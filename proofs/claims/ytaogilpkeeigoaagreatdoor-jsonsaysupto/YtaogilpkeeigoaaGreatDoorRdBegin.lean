/- Contracts of the reader's methods over this translation: where a value begins, words, one sign of a text. -/
import Derived.Test.YtaogilpkeeigoaaGreatDoorRdSkip
import Derived.Laws.Externs
namespace Go.Proofs.YtaogilpkeeigoaaGreatDoor
open Go.RowKit
set_option linter.unusedVariables false
set_option linter.unusedSimpArgs false
theorem run_index (s : ByteArray) (n : Int) (w : World) : Sem.run Tryz.prog (callFunc 108 #[.string s, .int .u8 n]) w = .ok (.value (.int .i64 (firstIdx s n.toNat.toUInt8))) w := by
  rw [run_callFunc_extern (e := Extern.BytealgIndexByte.indexByte) Tryz.func108 (by kernel_rfl) (by kernel_rfl) (by kernel_rfl) (by kernel_rfl)]
  rw [run_indexByte_string]
  rfl
set_option maxRecDepth 100000 in
set_option maxHeartbeats 400000 in
theorem index_any (s : ByteArray) (n : Int) (w : World) : Calls Tryz.prog 57 #[.string s, .int .u8 n] w fun e w' => e = .returned (.int .i64 (firstIdx s n.toNat.toUInt8)) ∧ w' = w := by
  have h := run_index
  go_enter Tryz.func57, Tryz.ntmps57
  go_wp2
  go_ret
  exact ⟨rfl, rfl⟩
def opensT : ByteArray := { data := #[110, 116, 102, 34, 91, 123, 45, 48, 49, 50, 51, 52, 53, 54, 55, 56, 57] }
theorem opens_all : ∀ n : Fin 256, decide (firstIdx opensT (UInt8.ofNat n.val) < 0) = !(opens.contains (UInt8.ofNat n.val)) := by decide +kernel
theorem opens_idx (c : UInt8) : decide (firstIdx opensT c < 0) = !(opens.contains c) := by
  have := opens_all ⟨c.toNat, c.toNat_lt⟩
  simpa using this
theorem idx_neg {c : UInt8} (h : ¬ c ∈ opens) : firstIdx opensT c < 0 := by
  have := opens_idx c
  have e : opens.contains c = false := by simpa using h
  rw [e] at this
  simpa using this
theorem idx_pos {c : UInt8} (h : c ∈ opens) : ¬ firstIdx opensT c < 0 := by
  have := opens_idx c
  have e : opens.contains c = true := by simpa using h
  rw [e] at this
  simpa using this
set_option maxRecDepth 100000 in
set_option maxHeartbeats 400000 in
theorem begin_syntax (b : Nat) (t : ByteArray) (p k : Nat) (d : Int) (w : World) (h : Rd b t p k w) (hp : p ≤ t.size) (ht : t.size ≤ 2000) (hc : ¬ hd (rest t p) ∈ opens) :
    Calls Tryz.prog 58 #[.pointer (some ⟨b, 0, none⟩), .int .i64 d] w fun e w' => e = .returned (.int .i64 3) ∧ G b w w' := by
  have HR : Hid (Rd b t p k w) := h
  have hi := idx_neg hc
  clear h hc
  go_enter Tryz.func58, Tryz.ntmps58
  go_wp2_with fail
  refine (next_g b t p k _ HR.out hp ht).mono ?_
  rintro e w1 ⟨rfl, g1, r1⟩
  have HG1 : Hid (G b w w1) := g1
  clear g1 r1
  go_wp2_with fail
  refine (index_any opensT _ _).mono ?_
  rintro e w2 ⟨rfl, rfl⟩
  go_wp2_with fail
  go_ret
  exact ⟨rfl, HG1.out⟩
set_option maxRecDepth 100000 in
set_option maxHeartbeats 400000 in
theorem begin_large (b : Nat) (t : ByteArray) (p k : Nat) (d : Int) (w : World) (h : Rd b t p k w) (hp : p ≤ t.size) (ht : t.size ≤ 2000) (hc : hd (rest t p) ∈ opens) (hk : 200 ≤ k) (hk' : k ≤ 2000) :
    Calls Tryz.prog 58 #[.pointer (some ⟨b, 0, none⟩), .int .i64 d] w fun e w' => e = .returned (.int .i64 2) ∧ G b w w' := by
  have HR : Hid (Rd b t p k w) := h
  have hi := idx_pos hc
  clear h hc
  go_enter Tryz.func58, Tryz.ntmps58
  go_wp2_with fail
  refine (next_g b t p k _ HR.out hp ht).mono ?_
  rintro e w1 ⟨rfl, g1, r1⟩
  have HG1 : Hid (G b w w1) := g1
  have h1 := r1.many
  have h2 := r1.free 2
  clear g1 r1
  go_wp2_with fail
  refine (index_any opensT _ _).mono ?_
  rintro e w2 ⟨rfl, rfl⟩
  go_wp2_with fail
  go_ret
  exact ⟨rfl, HG1.out.setCell 2 _⟩
set_option maxRecDepth 100000 in
set_option maxHeartbeats 400000 in
theorem begin_deep (b : Nat) (t : ByteArray) (p k : Nat) (d : Int) (w : World) (h : Rd b t p k w) (hp : p ≤ t.size) (ht : t.size ≤ 2000) (hk : k < 200) (hd10 : 10 ≤ d) (hc : hd (rest t p) = 91 ∨ hd (rest t p) = 123) :
    Calls Tryz.prog 58 #[.pointer (some ⟨b, 0, none⟩), .int .i64 d] w fun e w' => e = .returned (.int .i64 4) ∧ G b w w' := by
  have HR : Hid (Rd b t p k w) := h
  have hi := idx_pos (c := hd (rest t p)) (by rcases hc with hc | hc <;> rw [hc] <;> decide)
  rcases hc with hc | hc
  all_goals
    clear h
    go_enter Tryz.func58, Tryz.ntmps58
    go_wp2_with fail
    refine (next_g b t p k _ HR.out hp ht).mono ?_
    rintro e w1 ⟨rfl, g1, r1⟩
    have HG1 : Hid (G b w w1) := g1
    have h1 := r1.many
    have h2 := r1.free 2
    clear g1 r1
    go_wp2_with fail
    refine (index_any opensT _ _).mono ?_
    rintro e w2 ⟨rfl, rfl⟩
    go_wp2_with fail
    go_ret
    exact ⟨rfl, HG1.out.setCell 2 _⟩
theorem ne_bool {c : UInt8} (n : Nat) (hn : n < 256) (h : c ≠ UInt8.ofNat n) : ((c.toNat : Int) == (n : Int)) = false := by
  rw [beq_eq_false_iff_ne]
  intro e
  apply h
  have : c.toNat = n := by omega
  rw [← this]
  simp
set_option maxRecDepth 100000 in
set_option maxHeartbeats 400000 in
theorem begin_ok (b : Nat) (t : ByteArray) (p k : Nat) (d : Int) (w : World) (h : Rd b t p k w) (hp : p ≤ t.size) (ht : t.size ≤ 2000) (ho : hd (rest t p) ∈ opens) (hk : k < 200) (hc : d < 10 ∨ (hd (rest t p) ≠ 91 ∧ hd (rest t p) ≠ 123)) :
    Calls Tryz.prog 58 #[.pointer (some ⟨b, 0, none⟩), .int .i64 d] w fun e w' => e = .returned (.int .i64 0) ∧ G b w w' ∧ Rd b t p (k + 1) w' := by
  have HR : Hid (Rd b t p k w) := h
  have hi := idx_pos ho
  have hc' : (decide (10 ≤ d) = false) ∨ ((((hd (rest t p)).toNat : Int) == 91) = false ∧ (((hd (rest t p)).toNat : Int) == 123) = false) := by
    rcases hc with hc | hc
    · exact Or.inl (decide_eq_false (by omega))
    · exact Or.inr ⟨ne_bool 91 (by decide) hc.1, ne_bool 123 (by decide) hc.2⟩
  clear h ho hc
  rcases hc' with hc | ⟨hc1, hc2⟩
  all_goals
    go_enter Tryz.func58, Tryz.ntmps58
    go_wp2_with fail
    refine (next_g b t p k _ HR.out hp ht).mono ?_
    rintro e w1 ⟨rfl, g1, r1⟩
    have HG1 : Hid (G b w w1) := g1
    have HR1 : Hid (Rd b t p k w1) := r1
    have h1 := r1.many
    have h2 := r1.free 2
    clear g1 r1
    go_wp2_with fail
    refine (index_any opensT _ _).mono ?_
    rintro e w2 ⟨rfl, rfl⟩
    go_wp2_with fail
    all_goals
      go_ret
      exact ⟨rfl, HG1.out.setCell 2 _, HR1.out.count (k + 1)⟩
end Go.Proofs.YtaogilpkeeigoaaGreatDoor
