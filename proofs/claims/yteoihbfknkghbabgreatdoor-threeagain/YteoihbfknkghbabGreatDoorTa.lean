/- Of which kind a value is: the type tests over this translation. -/
import Derived.Test.YteoihbfknkghbabGreatDoorRows
import Derived.WalkKit
namespace Go.Proofs.YteoihbfknkghbabGreatDoor
open Go.RowKit
set_option linter.unusedVariables false
set_option linter.unusedSimpArgs false
theorem ta_hit {P : Program} {T xT : TypeId} {d : TypeDesc} (w : World) (hu : P.underlying T = some d) (hd : (match d with | .interface _ => false | _ => true) = true) (v : Value) :
    (Instr.typeAssert (.iface T v) xT T true).run P w = .ok (.tuple #[v, .bool true]) w := by
  unfold Instr.typeAssert
  simp only [Sem.run_bind, run_underlying hu, Result.andThen]
  cases d <;> simp_all [Sem.run_pure]
theorem ta_miss {P : Program} {T xT t : TypeId} {d : TypeDesc} {z : Value} (w : World) (hu : P.underlying T = some d) (hd : (match d with | .interface _ => false | _ => true) = true) (hz : ∀ w, (zeroValue T).run P w = .ok z w) (h : t ≠ T) (v : Value) :
    (Instr.typeAssert (.iface t v) xT T true).run P w = .ok (.tuple #[z, .bool false]) w := by
  unfold Instr.typeAssert
  simp only [Sem.run_bind, run_underlying hu, Result.andThen]
  cases d <;> simp_all [Sem.run_pure, Sem.run_bind, Result.andThen]
theorem tas_Null :
    (∀ (x : Value) (w : World), (Instr.typeAssert (.iface 87 x) 42 87 true).run Tryz.prog w = .ok (.tuple #[x, .bool true]) w) ∧
    (∀ (x : Value) (w : World), (Instr.typeAssert (.iface 87 x) 42 88 true).run Tryz.prog w = .ok (.tuple #[.bool false, .bool false]) w) ∧
    (∀ (x : Value) (w : World), (Instr.typeAssert (.iface 87 x) 42 89 true).run Tryz.prog w = .ok (.tuple #[.int .i64 0, .bool false]) w) ∧
    (∀ (x : Value) (w : World), (Instr.typeAssert (.iface 87 x) 42 90 true).run Tryz.prog w = .ok (.tuple #[.string { data := #[] }, .bool false]) w) ∧
    (∀ (x : Value) (w : World), (Instr.typeAssert (.iface 87 x) 42 92 true).run Tryz.prog w = .ok (.tuple #[.slice none 0 0, .bool false]) w) ∧
    (∀ (x : Value) (w : World), (Instr.typeAssert (.iface 87 x) 42 94 true).run Tryz.prog w = .ok (.tuple #[.slice none 0 0, .bool false]) w) :=
  ⟨fun x w => ta_hit w Tryz.underlying87 rfl x,
   fun x w => ta_miss w Tryz.underlying88 rfl Tryz.zeroValue88 (by decide) x,
   fun x w => ta_miss w Tryz.underlying89 rfl Tryz.zeroValue89 (by decide) x,
   fun x w => ta_miss w Tryz.underlying90 rfl Tryz.zeroValue90 (by decide) x,
   fun x w => ta_miss w Tryz.underlying92 rfl Tryz.zeroValue92 (by decide) x,
   fun x w => ta_miss w Tryz.underlying94 rfl Tryz.zeroValue94 (by decide) x⟩
theorem tas_Bool :
    (∀ (x : Value) (w : World), (Instr.typeAssert (.iface 88 x) 42 87 true).run Tryz.prog w = .ok (.tuple #[.agg #[], .bool false]) w) ∧
    (∀ (x : Value) (w : World), (Instr.typeAssert (.iface 88 x) 42 88 true).run Tryz.prog w = .ok (.tuple #[x, .bool true]) w) ∧
    (∀ (x : Value) (w : World), (Instr.typeAssert (.iface 88 x) 42 89 true).run Tryz.prog w = .ok (.tuple #[.int .i64 0, .bool false]) w) ∧
    (∀ (x : Value) (w : World), (Instr.typeAssert (.iface 88 x) 42 90 true).run Tryz.prog w = .ok (.tuple #[.string { data := #[] }, .bool false]) w) ∧
    (∀ (x : Value) (w : World), (Instr.typeAssert (.iface 88 x) 42 92 true).run Tryz.prog w = .ok (.tuple #[.slice none 0 0, .bool false]) w) ∧
    (∀ (x : Value) (w : World), (Instr.typeAssert (.iface 88 x) 42 94 true).run Tryz.prog w = .ok (.tuple #[.slice none 0 0, .bool false]) w) :=
  ⟨fun x w => ta_miss w Tryz.underlying87 rfl Tryz.zeroValue87 (by decide) x,
   fun x w => ta_hit w Tryz.underlying88 rfl x,
   fun x w => ta_miss w Tryz.underlying89 rfl Tryz.zeroValue89 (by decide) x,
   fun x w => ta_miss w Tryz.underlying90 rfl Tryz.zeroValue90 (by decide) x,
   fun x w => ta_miss w Tryz.underlying92 rfl Tryz.zeroValue92 (by decide) x,
   fun x w => ta_miss w Tryz.underlying94 rfl Tryz.zeroValue94 (by decide) x⟩
theorem tas_Number :
    (∀ (x : Value) (w : World), (Instr.typeAssert (.iface 89 x) 42 87 true).run Tryz.prog w = .ok (.tuple #[.agg #[], .bool false]) w) ∧
    (∀ (x : Value) (w : World), (Instr.typeAssert (.iface 89 x) 42 88 true).run Tryz.prog w = .ok (.tuple #[.bool false, .bool false]) w) ∧
    (∀ (x : Value) (w : World), (Instr.typeAssert (.iface 89 x) 42 89 true).run Tryz.prog w = .ok (.tuple #[x, .bool true]) w) ∧
    (∀ (x : Value) (w : World), (Instr.typeAssert (.iface 89 x) 42 90 true).run Tryz.prog w = .ok (.tuple #[.string { data := #[] }, .bool false]) w) ∧
    (∀ (x : Value) (w : World), (Instr.typeAssert (.iface 89 x) 42 92 true).run Tryz.prog w = .ok (.tuple #[.slice none 0 0, .bool false]) w) ∧
    (∀ (x : Value) (w : World), (Instr.typeAssert (.iface 89 x) 42 94 true).run Tryz.prog w = .ok (.tuple #[.slice none 0 0, .bool false]) w) :=
  ⟨fun x w => ta_miss w Tryz.underlying87 rfl Tryz.zeroValue87 (by decide) x,
   fun x w => ta_miss w Tryz.underlying88 rfl Tryz.zeroValue88 (by decide) x,
   fun x w => ta_hit w Tryz.underlying89 rfl x,
   fun x w => ta_miss w Tryz.underlying90 rfl Tryz.zeroValue90 (by decide) x,
   fun x w => ta_miss w Tryz.underlying92 rfl Tryz.zeroValue92 (by decide) x,
   fun x w => ta_miss w Tryz.underlying94 rfl Tryz.zeroValue94 (by decide) x⟩
theorem tas_Text :
    (∀ (x : Value) (w : World), (Instr.typeAssert (.iface 90 x) 42 87 true).run Tryz.prog w = .ok (.tuple #[.agg #[], .bool false]) w) ∧
    (∀ (x : Value) (w : World), (Instr.typeAssert (.iface 90 x) 42 88 true).run Tryz.prog w = .ok (.tuple #[.bool false, .bool false]) w) ∧
    (∀ (x : Value) (w : World), (Instr.typeAssert (.iface 90 x) 42 89 true).run Tryz.prog w = .ok (.tuple #[.int .i64 0, .bool false]) w) ∧
    (∀ (x : Value) (w : World), (Instr.typeAssert (.iface 90 x) 42 90 true).run Tryz.prog w = .ok (.tuple #[x, .bool true]) w) ∧
    (∀ (x : Value) (w : World), (Instr.typeAssert (.iface 90 x) 42 92 true).run Tryz.prog w = .ok (.tuple #[.slice none 0 0, .bool false]) w) ∧
    (∀ (x : Value) (w : World), (Instr.typeAssert (.iface 90 x) 42 94 true).run Tryz.prog w = .ok (.tuple #[.slice none 0 0, .bool false]) w) :=
  ⟨fun x w => ta_miss w Tryz.underlying87 rfl Tryz.zeroValue87 (by decide) x,
   fun x w => ta_miss w Tryz.underlying88 rfl Tryz.zeroValue88 (by decide) x,
   fun x w => ta_miss w Tryz.underlying89 rfl Tryz.zeroValue89 (by decide) x,
   fun x w => ta_hit w Tryz.underlying90 rfl x,
   fun x w => ta_miss w Tryz.underlying92 rfl Tryz.zeroValue92 (by decide) x,
   fun x w => ta_miss w Tryz.underlying94 rfl Tryz.zeroValue94 (by decide) x⟩
theorem tas_List :
    (∀ (x : Value) (w : World), (Instr.typeAssert (.iface 92 x) 42 87 true).run Tryz.prog w = .ok (.tuple #[.agg #[], .bool false]) w) ∧
    (∀ (x : Value) (w : World), (Instr.typeAssert (.iface 92 x) 42 88 true).run Tryz.prog w = .ok (.tuple #[.bool false, .bool false]) w) ∧
    (∀ (x : Value) (w : World), (Instr.typeAssert (.iface 92 x) 42 89 true).run Tryz.prog w = .ok (.tuple #[.int .i64 0, .bool false]) w) ∧
    (∀ (x : Value) (w : World), (Instr.typeAssert (.iface 92 x) 42 90 true).run Tryz.prog w = .ok (.tuple #[.string { data := #[] }, .bool false]) w) ∧
    (∀ (x : Value) (w : World), (Instr.typeAssert (.iface 92 x) 42 92 true).run Tryz.prog w = .ok (.tuple #[x, .bool true]) w) ∧
    (∀ (x : Value) (w : World), (Instr.typeAssert (.iface 92 x) 42 94 true).run Tryz.prog w = .ok (.tuple #[.slice none 0 0, .bool false]) w) :=
  ⟨fun x w => ta_miss w Tryz.underlying87 rfl Tryz.zeroValue87 (by decide) x,
   fun x w => ta_miss w Tryz.underlying88 rfl Tryz.zeroValue88 (by decide) x,
   fun x w => ta_miss w Tryz.underlying89 rfl Tryz.zeroValue89 (by decide) x,
   fun x w => ta_miss w Tryz.underlying90 rfl Tryz.zeroValue90 (by decide) x,
   fun x w => ta_hit w Tryz.underlying92 rfl x,
   fun x w => ta_miss w Tryz.underlying94 rfl Tryz.zeroValue94 (by decide) x⟩
theorem tas_Object :
    (∀ (x : Value) (w : World), (Instr.typeAssert (.iface 94 x) 42 87 true).run Tryz.prog w = .ok (.tuple #[.agg #[], .bool false]) w) ∧
    (∀ (x : Value) (w : World), (Instr.typeAssert (.iface 94 x) 42 88 true).run Tryz.prog w = .ok (.tuple #[.bool false, .bool false]) w) ∧
    (∀ (x : Value) (w : World), (Instr.typeAssert (.iface 94 x) 42 89 true).run Tryz.prog w = .ok (.tuple #[.int .i64 0, .bool false]) w) ∧
    (∀ (x : Value) (w : World), (Instr.typeAssert (.iface 94 x) 42 90 true).run Tryz.prog w = .ok (.tuple #[.string { data := #[] }, .bool false]) w) ∧
    (∀ (x : Value) (w : World), (Instr.typeAssert (.iface 94 x) 42 92 true).run Tryz.prog w = .ok (.tuple #[.slice none 0 0, .bool false]) w) ∧
    (∀ (x : Value) (w : World), (Instr.typeAssert (.iface 94 x) 42 94 true).run Tryz.prog w = .ok (.tuple #[x, .bool true]) w) :=
  ⟨fun x w => ta_miss w Tryz.underlying87 rfl Tryz.zeroValue87 (by decide) x,
   fun x w => ta_miss w Tryz.underlying88 rfl Tryz.zeroValue88 (by decide) x,
   fun x w => ta_miss w Tryz.underlying89 rfl Tryz.zeroValue89 (by decide) x,
   fun x w => ta_miss w Tryz.underlying90 rfl Tryz.zeroValue90 (by decide) x,
   fun x w => ta_miss w Tryz.underlying92 rfl Tryz.zeroValue92 (by decide) x,
   fun x w => ta_hit w Tryz.underlying94 rfl x⟩
end Go.Proofs.YteoihbfknkghbabGreatDoor
