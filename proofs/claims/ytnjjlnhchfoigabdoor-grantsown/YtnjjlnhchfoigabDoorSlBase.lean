/- Lists of bytes, blocks, strings.IndexByte over this translation. -/
import Derived.Test.YtnjjlnhchfoigabDoorRows
import Derived.WalkKit
import Derived.WalkSpells
import Derived.Laws.Externs
import Derived.OwnWalk
import Derived.Laws.AppendOwn
import Derived.Laws.Rows
import Derived.Lib.AppendStr
import Derived.Deep.QuietTactic
namespace Go.Proofs.YtnjjlnhchfoigabDoor
open Go.RowKit
set_option linter.unusedVariables false
set_option linter.unusedSimpArgs false
abbrev Bs := List UInt8
abbrev Ba (s : Bs) : ByteArray := ⟨s.toArray⟩
theorem ba_size (s : Bs) : (Ba s).size = s.length := by simp [Ba, ByteArray.size]
theorem ba_list (s : Bs) : (Ba s).toList = s := by rw [ByteArray.toList_eq]
theorem ba_data (s : Bs) : (Ba s).data.toList = s := by simp [Ba]
theorem ba_append (a b : Bs) : Ba a ++ Ba b = Ba (a ++ b) := by
  apply ByteArray.ext
  simp [Ba]
theorem ba_get (s : Bs) (k : Nat) (h : k < s.length) : (Ba s)[k]'(by rw [ba_size]; exact h) = s[k] := by
  show (Ba s).data[k]'(by simpa [Ba] using h) = _
  simp [Ba]
/-- a value of its own: the cells of a row of bytes -/
abbrev Vb (s : Bs) : List Value := s.map fun c => .int .u8 c.toNat
/-- where a byte stands among others, or -1 -/
def idxP : Bs → UInt8 → Int
  | [], _ => -1
  | a :: r, c => if a = c then 0 else if idxP r c < 0 then -1 else idxP r c + 1
theorem below_drewN {n : Nat} {w w' : World} (h : Below n w w') (k : Nat) : Below n w (w'.drewN k) := by
  induction k with
  | zero => exact h
  | succ k ih => exact ih.drew
theorem run_index (s : ByteArray) (n : Int) (w : World) : Sem.run Tryd.prog (callFunc 91 #[.string s, .int .u8 n]) w = .ok (.value (.int .i64 (firstIdx s n.toNat.toUInt8))) w := by
  rw [run_callFunc_extern (e := Extern.BytealgIndexByte.indexByte) Tryd.func91 (by kernel_rfl) (by kernel_rfl) (by kernel_rfl) (by kernel_rfl)]
  rw [run_indexByte_string]
  rfl
set_option maxHeartbeats 400000 in
theorem index0_any (s : ByteArray) (n : Int) (w : World) : Calls Tryd.prog 88 #[.string s, .int .u8 n] w fun e w' => e = .returned (.int .i64 (firstIdx s n.toNat.toUInt8)) ∧ w' = w := by
  have h := run_index
  go_enter Tryd.func88, Tryd.ntmps88
  go_wp2
  go_ret
  exact ⟨rfl, rfl⟩
set_option maxHeartbeats 400000 in
theorem index_any (s : ByteArray) (n : Int) (w : World) : Calls Tryd.prog 81 #[.string s, .int .u8 n] w fun e w' => e = .returned (.int .i64 (firstIdx s n.toNat.toUInt8)) ∧ w' = w := by
  go_enter Tryd.func81, Tryd.ntmps81
  go_wp2_with (go_at_call 88; refine (index0_any _ _ _).mono ?_; rintro e w' ⟨rfl, rfl⟩)
  go_ret
  exact ⟨rfl, rfl⟩
end Go.Proofs.YtnjjlnhchfoigabDoor
