/- Of which kind a value is: the type tests over this translation. -/
import Derived.Test.YteoihbfknkghbaaGreatDoorRows
import Derived.WalkKit
namespace Go.Proofs.YteoihbfknkghbaaGreatDoor
open Go.RowKit
set_option linter.unusedVariables false
set_option linter.unusedSimpArgs false
theorem ta_hit {P : Program} {T xT : TypeId} {d : TypeDesc} (w : World) (hu : P.underlying T = some d) (hd : (match d with | .interface _ => false | _ => true) = true) (v : Value) :
    (Instr.typeAssert (.iface T v) xT T true).run P w = .ok (.tuple #[v, .bool true]) w := by
  unfold Instr.typeAssert
  simp only [Sem.run_bind, run_underlying hu, Result.andThen]
  cases d <;> simp_all [Sem.run_pure]
theorem ta_miss {P : Program} {T xT t : TypeId} {d : TypeDesc} {z : Value} (w : World) (hu : P.underlying T = some d) (hd : (match d with | .interface _ => false | _ => true) = true) (hz : ∀ w, (zeroValue T).run P w = .ok z w) (h : t ≠ T) (v : Value) :
    (Instr.typeAssert (.iface t v) xT T true).run P w = .ok (.tuple #[z, .bool false]) w := by
  unfold Instr.typeAssert
  simp only [Sem.run_bind, run_underlying hu, Result.andThen]
  cases d <;> simp_all [Sem.run_pure, Sem.run_bind, Result.andThen]
theorem tas_Null :
    (∀ (x : Value) (w : World), (Instr.typeAssert (.iface 110 x) 60 110 true).run Tryz.prog w = .ok (.tuple #[x, .bool true]) w) ∧
    (∀ (x : Value) (w : World), (Instr.typeAssert (.iface 110 x) 60 111 true).run Tryz.prog w = .ok (.tuple #[.bool false, .bool false]) w) ∧
    (∀ (x : Value) (w : World), (Instr.typeAssert (.iface 110 x) 60 112 true).run Tryz.prog w = .ok (.tuple #[.int .i64 0, .bool false]) w) ∧
    (∀ (x : Value) (w : World), (Instr.typeAssert (.iface 110 x) 60 113 true).run Tryz.prog w = .ok (.tuple #[.string { data := #[] }, .bool false]) w) ∧
    (∀ (x : Value) (w : World), (Instr.typeAssert (.iface 110 x) 60 115 true).run Tryz.prog w = .ok (.tuple #[.slice none 0 0, .bool false]) w) ∧
    (∀ (x : Value) (w : World), (Instr.typeAssert (.iface 110 x) 60 117 true).run Tryz.prog w = .ok (.tuple #[.slice none 0 0, .bool false]) w) :=
  ⟨fun x w => ta_hit w Tryz.underlying110 rfl x,
   fun x w => ta_miss w Tryz.underlying111 rfl Tryz.zeroValue111 (by decide) x,
   fun x w => ta_miss w Tryz.underlying112 rfl Tryz.zeroValue112 (by decide) x,
   fun x w => ta_miss w Tryz.underlying113 rfl Tryz.zeroValue113 (by decide) x,
   fun x w => ta_miss w Tryz.underlying115 rfl Tryz.zeroValue115 (by decide) x,
   fun x w => ta_miss w Tryz.underlying117 rfl Tryz.zeroValue117 (by decide) x⟩
theorem tas_Bool :
    (∀ (x : Value) (w : World), (Instr.typeAssert (.iface 111 x) 60 110 true).run Tryz.prog w = .ok (.tuple #[.agg #[], .bool false]) w) ∧
    (∀ (x : Value) (w : World), (Instr.typeAssert (.iface 111 x) 60 111 true).run Tryz.prog w = .ok (.tuple #[x, .bool true]) w) ∧
    (∀ (x : Value) (w : World), (Instr.typeAssert (.iface 111 x) 60 112 true).run Tryz.prog w = .ok (.tuple #[.int .i64 0, .bool false]) w) ∧
    (∀ (x : Value) (w : World), (Instr.typeAssert (.iface 111 x) 60 113 true).run Tryz.prog w = .ok (.tuple #[.string { data := #[] }, .bool false]) w) ∧
    (∀ (x : Value) (w : World), (Instr.typeAssert (.iface 111 x) 60 115 true).run Tryz.prog w = .ok (.tuple #[.slice none 0 0, .bool false]) w) ∧
    (∀ (x : Value) (w : World), (Instr.typeAssert (.iface 111 x) 60 117 true).run Tryz.prog w = .ok (.tuple #[.slice none 0 0, .bool false]) w) :=
  ⟨fun x w => ta_miss w Tryz.underlying110 rfl Tryz.zeroValue110 (by decide) x,
   fun x w => ta_hit w Tryz.underlying111 rfl x,
   fun x w => ta_miss w Tryz.underlying112 rfl Tryz.zeroValue112 (by decide) x,
   fun x w => ta_miss w Tryz.underlying113 rfl Tryz.zeroValue113 (by decide) x,
   fun x w => ta_miss w Tryz.underlying115 rfl Tryz.zeroValue115 (by decide) x,
   fun x w => ta_miss w Tryz.underlying117 rfl Tryz.zeroValue117 (by decide) x⟩
theorem tas_Number :
    (∀ (x : Value) (w : World), (Instr.typeAssert (.iface 112 x) 60 110 true).run Tryz.prog w = .ok (.tuple #[.agg #[], .bool false]) w) ∧
    (∀ (x : Value) (w : World), (Instr.typeAssert (.iface 112 x) 60 111 true).run Tryz.prog w = .ok (.tuple #[.bool false, .bool false]) w) ∧
    (∀ (x : Value) (w : World), (Instr.typeAssert (.iface 112 x) 60 112 true).run Tryz.prog w = .ok (.tuple #[x, .bool true]) w) ∧
    (∀ (x : Value) (w : World), (Instr.typeAssert (.iface 112 x) 60 113 true).run Tryz.prog w = .ok (.tuple #[.string { data := #[] }, .bool false]) w) ∧
    (∀ (x : Value) (w : World), (Instr.typeAssert (.iface 112 x) 60 115 true).run Tryz.prog w = .ok (.tuple #[.slice none 0 0, .bool false]) w) ∧
    (∀ (x : Value) (w : World), (Instr.typeAssert (.iface 112 x) 60 117 true).run Tryz.prog w = .ok (.tuple #[.slice none 0 0, .bool false]) w) :=
  ⟨fun x w => ta_miss w Tryz.underlying110 rfl Tryz.zeroValue110 (by decide) x,
   fun x w => ta_miss w Tryz.underlying111 rfl Tryz.zeroValue111 (by decide) x,
   fun x w => ta_hit w Tryz.underlying112 rfl x,
   fun x w => ta_miss w Tryz.underlying113 rfl Tryz.zeroValue113 (by decide) x,
   fun x w => ta_miss w Tryz.underlying115 rfl Tryz.zeroValue115 (by decide) x,
   fun x w => ta_miss w Tryz.underlying117 rfl Tryz.zeroValue117 (by decide) x⟩
theorem tas_Text :
    (∀ (x : Value) (w : World), (Instr.typeAssert (.iface 113 x) 60 110 true).run Tryz.prog w = .ok (.tuple #[.agg #[], .bool false]) w) ∧
    (∀ (x : Value) (w : World), (Instr.typeAssert (.iface 113 x) 60 111 true).run Tryz.prog w = .ok (.tuple #[.bool false, .bool false]) w) ∧
    (∀ (x : Value) (w : World), (Instr.typeAssert (.iface 113 x) 60 112 true).run Tryz.prog w = .ok (.tuple #[.int .i64 0, .bool false]) w) ∧
    (∀ (x : Value) (w : World), (Instr.typeAssert (.iface 113 x) 60 113 true).run Tryz.prog w = .ok (.tuple #[x, .bool true]) w) ∧
    (∀ (x : Value) (w : World), (Instr.typeAssert (.iface 113 x) 60 115 true).run Tryz.prog w = .ok (.tuple #[.slice none 0 0, .bool false]) w) ∧
    (∀ (x : Value) (w : World), (Instr.typeAssert (.iface 113 x) 60 117 true).run Tryz.prog w = .ok (.tuple #[.slice none 0 0, .bool false]) w) :=
  ⟨fun x w => ta_miss w Tryz.underlying110 rfl Tryz.zeroValue110 (by decide) x,
   fun x w => ta_miss w Tryz.underlying111 rfl Tryz.zeroValue111 (by decide) x,
   fun x w => ta_miss w Tryz.underlying112 rfl Tryz.zeroValue112 (by decide) x,
   fun x w => ta_hit w Tryz.underlying113 rfl x,
   fun x w => ta_miss w Tryz.underlying115 rfl Tryz.zeroValue115 (by decide) x,
   fun x w => ta_miss w Tryz.underlying117 rfl Tryz.zeroValue117 (by decide) x⟩
theorem tas_List :
    (∀ (x : Value) (w : World), (Instr.typeAssert (.iface 115 x) 60 110 true).run Tryz.prog w = .ok (.tuple #[.agg #[], .bool false]) w) ∧
    (∀ (x : Value) (w : World), (Instr.typeAssert (.iface 115 x) 60 111 true).run Tryz.prog w = .ok (.tuple #[.bool false, .bool false]) w) ∧
    (∀ (x : Value) (w : World), (Instr.typeAssert (.iface 115 x) 60 112 true).run Tryz.prog w = .ok (.tuple #[.int .i64 0, .bool false]) w) ∧
    (∀ (x : Value) (w : World), (Instr.typeAssert (.iface 115 x) 60 113 true).run Tryz.prog w = .ok (.tuple #[.string { data := #[] }, .bool false]) w) ∧
    (∀ (x : Value) (w : World), (Instr.typeAssert (.iface 115 x) 60 115 true).run Tryz.prog w = .ok (.tuple #[x, .bool true]) w) ∧
    (∀ (x : Value) (w : World), (Instr.typeAssert (.iface 115 x) 60 117 true).run Tryz.prog w = .ok (.tuple #[.slice none 0 0, .bool false]) w) :=
  ⟨fun x w => ta_miss w Tryz.underlying110 rfl Tryz.zeroValue110 (by decide) x,
   fun x w => ta_miss w Tryz.underlying111 rfl Tryz.zeroValue111 (by decide) x,
   fun x w => ta_miss w Tryz.underlying112 rfl Tryz.zeroValue112 (by decide) x,
   fun x w => ta_miss w Tryz.underlying113 rfl Tryz.zeroValue113 (by decide) x,
   fun x w => ta_hit w Tryz.underlying115 rfl x,
   fun x w => ta_miss w Tryz.underlying117 rfl Tryz.zeroValue117 (by decide) x⟩
theorem tas_Object :
    (∀ (x : Value) (w : World), (Instr.typeAssert (.iface 117 x) 60 110 true).run Tryz.prog w = .ok (.tuple #[.agg #[], .bool false]) w) ∧
    (∀ (x : Value) (w : World), (Instr.typeAssert (.iface 117 x) 60 111 true).run Tryz.prog w = .ok (.tuple #[.bool false, .bool false]) w) ∧
    (∀ (x : Value) (w : World), (Instr.typeAssert (.iface 117 x) 60 112 true).run Tryz.prog w = .ok (.tuple #[.int .i64 0, .bool false]) w) ∧
    (∀ (x : Value) (w : World), (Instr.typeAssert (.iface 117 x) 60 113 true).run Tryz.prog w = .ok (.tuple #[.string { data := #[] }, .bool false]) w) ∧
    (∀ (x : Value) (w : World), (Instr.typeAssert (.iface 117 x) 60 115 true).run Tryz.prog w = .ok (.tuple #[.slice none 0 0, .bool false]) w) ∧
    (∀ (x : Value) (w : World), (Instr.typeAssert (.iface 117 x) 60 117 true).run Tryz.prog w = .ok (.tuple #[x, .bool true]) w) :=
  ⟨fun x w => ta_miss w Tryz.underlying110 rfl Tryz.zeroValue110 (by decide) x,
   fun x w => ta_miss w Tryz.underlying111 rfl Tryz.zeroValue111 (by decide) x,
   fun x w => ta_miss w Tryz.underlying112 rfl Tryz.zeroValue112 (by decide) x,
   fun x w => ta_miss w Tryz.underlying113 rfl Tryz.zeroValue113 (by decide) x,
   fun x w => ta_miss w Tryz.underlying115 rfl Tryz.zeroValue115 (by decide) x,
   fun x w => ta_hit w Tryz.underlying117 rfl x⟩
end Go.Proofs.YteoihbfknkghbaaGreatDoor
