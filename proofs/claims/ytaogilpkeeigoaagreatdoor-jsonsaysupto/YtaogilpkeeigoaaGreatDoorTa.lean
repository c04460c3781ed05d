/- Of which kind a value is: the type tests over this translation. -/
import Derived.Test.YtaogilpkeeigoaaGreatDoorRows
import Derived.WalkKit
namespace Go.Proofs.YtaogilpkeeigoaaGreatDoor
open Go.RowKit
set_option linter.unusedVariables false
set_option linter.unusedSimpArgs false
theorem ta_hit {P : Program} {T xT : TypeId} {d : TypeDesc} (w : World) (hu : P.underlying T = some d) (hd : (match d with | .interface _ => false | _ => true) = true) (v : Value) :
    (Instr.typeAssert (.iface T v) xT T true).run P w = .ok (.tuple #[v, .bool true]) w := by
  unfold Instr.typeAssert
  simp only [Sem.run_bind, run_underlying hu, Result.andThen]
  cases d <;> simp_all [Sem.run_pure]
theorem ta_miss {P : Program} {T xT t : TypeId} {d : TypeDesc} {z : Value} (w : World) (hu : P.underlying T = some d) (hd : (match d with | .interface _ => false | _ => true) = true) (hz : ∀ w, (zeroValue T).run P w = .ok z w) (h : t ≠ T) (v : Value) :
    (Instr.typeAssert (.iface t v) xT T true).run P w = .ok (.tuple #[z, .bool false]) w := by
  unfold Instr.typeAssert
  simp only [Sem.run_bind, run_underlying hu, Result.andThen]
  cases d <;> simp_all [Sem.run_pure, Sem.run_bind, Result.andThen]
theorem tas_Null :
    (∀ (x : Value) (w : World), (Instr.typeAssert (.iface 78 x) 52 78 true).run Tryz.prog w = .ok (.tuple #[x, .bool true]) w) ∧
    (∀ (x : Value) (w : World), (Instr.typeAssert (.iface 78 x) 52 79 true).run Tryz.prog w = .ok (.tuple #[.bool false, .bool false]) w) ∧
    (∀ (x : Value) (w : World), (Instr.typeAssert (.iface 78 x) 52 80 true).run Tryz.prog w = .ok (.tuple #[.int .i64 0, .bool false]) w) ∧
    (∀ (x : Value) (w : World), (Instr.typeAssert (.iface 78 x) 52 61 true).run Tryz.prog w = .ok (.tuple #[.string { data := #[] }, .bool false]) w) ∧
    (∀ (x : Value) (w : World), (Instr.typeAssert (.iface 78 x) 52 82 true).run Tryz.prog w = .ok (.tuple #[.slice none 0 0, .bool false]) w) ∧
    (∀ (x : Value) (w : World), (Instr.typeAssert (.iface 78 x) 52 84 true).run Tryz.prog w = .ok (.tuple #[.slice none 0 0, .bool false]) w) :=
  ⟨fun x w => ta_hit w Tryz.underlying78 rfl x,
   fun x w => ta_miss w Tryz.underlying79 rfl Tryz.zeroValue79 (by decide) x,
   fun x w => ta_miss w Tryz.underlying80 rfl Tryz.zeroValue80 (by decide) x,
   fun x w => ta_miss w Tryz.underlying61 rfl Tryz.zeroValue61 (by decide) x,
   fun x w => ta_miss w Tryz.underlying82 rfl Tryz.zeroValue82 (by decide) x,
   fun x w => ta_miss w Tryz.underlying84 rfl Tryz.zeroValue84 (by decide) x⟩
theorem tas_Bool :
    (∀ (x : Value) (w : World), (Instr.typeAssert (.iface 79 x) 52 78 true).run Tryz.prog w = .ok (.tuple #[.agg #[], .bool false]) w) ∧
    (∀ (x : Value) (w : World), (Instr.typeAssert (.iface 79 x) 52 79 true).run Tryz.prog w = .ok (.tuple #[x, .bool true]) w) ∧
    (∀ (x : Value) (w : World), (Instr.typeAssert (.iface 79 x) 52 80 true).run Tryz.prog w = .ok (.tuple #[.int .i64 0, .bool false]) w) ∧
    (∀ (x : Value) (w : World), (Instr.typeAssert (.iface 79 x) 52 61 true).run Tryz.prog w = .ok (.tuple #[.string { data := #[] }, .bool false]) w) ∧
    (∀ (x : Value) (w : World), (Instr.typeAssert (.iface 79 x) 52 82 true).run Tryz.prog w = .ok (.tuple #[.slice none 0 0, .bool false]) w) ∧
    (∀ (x : Value) (w : World), (Instr.typeAssert (.iface 79 x) 52 84 true).run Tryz.prog w = .ok (.tuple #[.slice none 0 0, .bool false]) w) :=
  ⟨fun x w => ta_miss w Tryz.underlying78 rfl Tryz.zeroValue78 (by decide) x,
   fun x w => ta_hit w Tryz.underlying79 rfl x,
   fun x w => ta_miss w Tryz.underlying80 rfl Tryz.zeroValue80 (by decide) x,
   fun x w => ta_miss w Tryz.underlying61 rfl Tryz.zeroValue61 (by decide) x,
   fun x w => ta_miss w Tryz.underlying82 rfl Tryz.zeroValue82 (by decide) x,
   fun x w => ta_miss w Tryz.underlying84 rfl Tryz.zeroValue84 (by decide) x⟩
theorem tas_Number :
    (∀ (x : Value) (w : World), (Instr.typeAssert (.iface 80 x) 52 78 true).run Tryz.prog w = .ok (.tuple #[.agg #[], .bool false]) w) ∧
    (∀ (x : Value) (w : World), (Instr.typeAssert (.iface 80 x) 52 79 true).run Tryz.prog w = .ok (.tuple #[.bool false, .bool false]) w) ∧
    (∀ (x : Value) (w : World), (Instr.typeAssert (.iface 80 x) 52 80 true).run Tryz.prog w = .ok (.tuple #[x, .bool true]) w) ∧
    (∀ (x : Value) (w : World), (Instr.typeAssert (.iface 80 x) 52 61 true).run Tryz.prog w = .ok (.tuple #[.string { data := #[] }, .bool false]) w) ∧
    (∀ (x : Value) (w : World), (Instr.typeAssert (.iface 80 x) 52 82 true).run Tryz.prog w = .ok (.tuple #[.slice none 0 0, .bool false]) w) ∧
    (∀ (x : Value) (w : World), (Instr.typeAssert (.iface 80 x) 52 84 true).run Tryz.prog w = .ok (.tuple #[.slice none 0 0, .bool false]) w) :=
  ⟨fun x w => ta_miss w Tryz.underlying78 rfl Tryz.zeroValue78 (by decide) x,
   fun x w => ta_miss w Tryz.underlying79 rfl Tryz.zeroValue79 (by decide) x,
   fun x w => ta_hit w Tryz.underlying80 rfl x,
   fun x w => ta_miss w Tryz.underlying61 rfl Tryz.zeroValue61 (by decide) x,
   fun x w => ta_miss w Tryz.underlying82 rfl Tryz.zeroValue82 (by decide) x,
   fun x w => ta_miss w Tryz.underlying84 rfl Tryz.zeroValue84 (by decide) x⟩
theorem tas_Text :
    (∀ (x : Value) (w : World), (Instr.typeAssert (.iface 61 x) 52 78 true).run Tryz.prog w = .ok (.tuple #[.agg #[], .bool false]) w) ∧
    (∀ (x : Value) (w : World), (Instr.typeAssert (.iface 61 x) 52 79 true).run Tryz.prog w = .ok (.tuple #[.bool false, .bool false]) w) ∧
    (∀ (x : Value) (w : World), (Instr.typeAssert (.iface 61 x) 52 80 true).run Tryz.prog w = .ok (.tuple #[.int .i64 0, .bool false]) w) ∧
    (∀ (x : Value) (w : World), (Instr.typeAssert (.iface 61 x) 52 61 true).run Tryz.prog w = .ok (.tuple #[x, .bool true]) w) ∧
    (∀ (x : Value) (w : World), (Instr.typeAssert (.iface 61 x) 52 82 true).run Tryz.prog w = .ok (.tuple #[.slice none 0 0, .bool false]) w) ∧
    (∀ (x : Value) (w : World), (Instr.typeAssert (.iface 61 x) 52 84 true).run Tryz.prog w = .ok (.tuple #[.slice none 0 0, .bool false]) w) :=
  ⟨fun x w => ta_miss w Tryz.underlying78 rfl Tryz.zeroValue78 (by decide) x,
   fun x w => ta_miss w Tryz.underlying79 rfl Tryz.zeroValue79 (by decide) x,
   fun x w => ta_miss w Tryz.underlying80 rfl Tryz.zeroValue80 (by decide) x,
   fun x w => ta_hit w Tryz.underlying61 rfl x,
   fun x w => ta_miss w Tryz.underlying82 rfl Tryz.zeroValue82 (by decide) x,
   fun x w => ta_miss w Tryz.underlying84 rfl Tryz.zeroValue84 (by decide) x⟩
theorem tas_List :
    (∀ (x : Value) (w : World), (Instr.typeAssert (.iface 82 x) 52 78 true).run Tryz.prog w = .ok (.tuple #[.agg #[], .bool false]) w) ∧
    (∀ (x : Value) (w : World), (Instr.typeAssert (.iface 82 x) 52 79 true).run Tryz.prog w = .ok (.tuple #[.bool false, .bool false]) w) ∧
    (∀ (x : Value) (w : World), (Instr.typeAssert (.iface 82 x) 52 80 true).run Tryz.prog w = .ok (.tuple #[.int .i64 0, .bool false]) w) ∧
    (∀ (x : Value) (w : World), (Instr.typeAssert (.iface 82 x) 52 61 true).run Tryz.prog w = .ok (.tuple #[.string { data := #[] }, .bool false]) w) ∧
    (∀ (x : Value) (w : World), (Instr.typeAssert (.iface 82 x) 52 82 true).run Tryz.prog w = .ok (.tuple #[x, .bool true]) w) ∧
    (∀ (x : Value) (w : World), (Instr.typeAssert (.iface 82 x) 52 84 true).run Tryz.prog w = .ok (.tuple #[.slice none 0 0, .bool false]) w) :=
  ⟨fun x w => ta_miss w Tryz.underlying78 rfl Tryz.zeroValue78 (by decide) x,
   fun x w => ta_miss w Tryz.underlying79 rfl Tryz.zeroValue79 (by decide) x,
   fun x w => ta_miss w Tryz.underlying80 rfl Tryz.zeroValue80 (by decide) x,
   fun x w => ta_miss w Tryz.underlying61 rfl Tryz.zeroValue61 (by decide) x,
   fun x w => ta_hit w Tryz.underlying82 rfl x,
   fun x w => ta_miss w Tryz.underlying84 rfl Tryz.zeroValue84 (by decide) x⟩
theorem tas_Object :
    (∀ (x : Value) (w : World), (Instr.typeAssert (.iface 84 x) 52 78 true).run Tryz.prog w = .ok (.tuple #[.agg #[], .bool false]) w) ∧
    (∀ (x : Value) (w : World), (Instr.typeAssert (.iface 84 x) 52 79 true).run Tryz.prog w = .ok (.tuple #[.bool false, .bool false]) w) ∧
    (∀ (x : Value) (w : World), (Instr.typeAssert (.iface 84 x) 52 80 true).run Tryz.prog w = .ok (.tuple #[.int .i64 0, .bool false]) w) ∧
    (∀ (x : Value) (w : World), (Instr.typeAssert (.iface 84 x) 52 61 true).run Tryz.prog w = .ok (.tuple #[.string { data := #[] }, .bool false]) w) ∧
    (∀ (x : Value) (w : World), (Instr.typeAssert (.iface 84 x) 52 82 true).run Tryz.prog w = .ok (.tuple #[.slice none 0 0, .bool false]) w) ∧
    (∀ (x : Value) (w : World), (Instr.typeAssert (.iface 84 x) 52 84 true).run Tryz.prog w = .ok (.tuple #[x, .bool true]) w) :=
  ⟨fun x w => ta_miss w Tryz.underlying78 rfl Tryz.zeroValue78 (by decide) x,
   fun x w => ta_miss w Tryz.underlying79 rfl Tryz.zeroValue79 (by decide) x,
   fun x w => ta_miss w Tryz.underlying80 rfl Tryz.zeroValue80 (by decide) x,
   fun x w => ta_miss w Tryz.underlying61 rfl Tryz.zeroValue61 (by decide) x,
   fun x w => ta_miss w Tryz.underlying82 rfl Tryz.zeroValue82 (by decide) x,
   fun x w => ta_hit w Tryz.underlying84 rfl x⟩
end Go.Proofs.YtaogilpkeeigoaaGreatDoor
