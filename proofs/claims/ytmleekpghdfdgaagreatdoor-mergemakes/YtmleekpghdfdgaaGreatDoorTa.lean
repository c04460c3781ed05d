/- Of which kind a value is: the type tests over this translation. -/
import Derived.Test.YtmleekpghdfdgaaGreatDoorRows
import Derived.WalkKit
namespace Go.Proofs.YtmleekpghdfdgaaGreatDoor
open Go.RowKit
set_option linter.unusedVariables false
set_option linter.unusedSimpArgs false
theorem ta_hit {P : Program} {T xT : TypeId} {d : TypeDesc} (w : World) (hu : P.underlying T = some d) (hd : (match d with | .interface _ => false | _ => true) = true) (v : Value) :
    (Instr.typeAssert (.iface T v) xT T true).run P w = .ok (.tuple #[v, .bool true]) w := by
  unfold Instr.typeAssert
  simp only [Sem.run_bind, run_underlying hu, Result.andThen]
  cases d <;> simp_all [Sem.run_pure]
theorem ta_miss {P : Program} {T xT t : TypeId} {d : TypeDesc} {z : Value} (w : World) (hu : P.underlying T = some d) (hd : (match d with | .interface _ => false | _ => true) = true) (hz : ∀ w, (zeroValue T).run P w = .ok z w) (h : t ≠ T) (v : Value) :
    (Instr.typeAssert (.iface t v) xT T true).run P w = .ok (.tuple #[z, .bool false]) w := by
  unfold Instr.typeAssert
  simp only [Sem.run_bind, run_underlying hu, Result.andThen]
  cases d <;> simp_all [Sem.run_pure, Sem.run_bind, Result.andThen]
theorem tas_Null :
    (∀ (x : Value) (w : World), (Instr.typeAssert (.iface 100 x) 48 100 true).run Tryz.prog w = .ok (.tuple #[x, .bool true]) w) ∧
    (∀ (x : Value) (w : World), (Instr.typeAssert (.iface 100 x) 48 101 true).run Tryz.prog w = .ok (.tuple #[.bool false, .bool false]) w) ∧
    (∀ (x : Value) (w : World), (Instr.typeAssert (.iface 100 x) 48 102 true).run Tryz.prog w = .ok (.tuple #[.int .i64 0, .bool false]) w) ∧
    (∀ (x : Value) (w : World), (Instr.typeAssert (.iface 100 x) 48 64 true).run Tryz.prog w = .ok (.tuple #[.string { data := #[] }, .bool false]) w) ∧
    (∀ (x : Value) (w : World), (Instr.typeAssert (.iface 100 x) 48 104 true).run Tryz.prog w = .ok (.tuple #[.slice none 0 0, .bool false]) w) ∧
    (∀ (x : Value) (w : World), (Instr.typeAssert (.iface 100 x) 48 106 true).run Tryz.prog w = .ok (.tuple #[.slice none 0 0, .bool false]) w) :=
  ⟨fun x w => ta_hit w Tryz.underlying100 rfl x,
   fun x w => ta_miss w Tryz.underlying101 rfl Tryz.zeroValue101 (by decide) x,
   fun x w => ta_miss w Tryz.underlying102 rfl Tryz.zeroValue102 (by decide) x,
   fun x w => ta_miss w Tryz.underlying64 rfl Tryz.zeroValue64 (by decide) x,
   fun x w => ta_miss w Tryz.underlying104 rfl Tryz.zeroValue104 (by decide) x,
   fun x w => ta_miss w Tryz.underlying106 rfl Tryz.zeroValue106 (by decide) x⟩
theorem tas_Bool :
    (∀ (x : Value) (w : World), (Instr.typeAssert (.iface 101 x) 48 100 true).run Tryz.prog w = .ok (.tuple #[.agg #[], .bool false]) w) ∧
    (∀ (x : Value) (w : World), (Instr.typeAssert (.iface 101 x) 48 101 true).run Tryz.prog w = .ok (.tuple #[x, .bool true]) w) ∧
    (∀ (x : Value) (w : World), (Instr.typeAssert (.iface 101 x) 48 102 true).run Tryz.prog w = .ok (.tuple #[.int .i64 0, .bool false]) w) ∧
    (∀ (x : Value) (w : World), (Instr.typeAssert (.iface 101 x) 48 64 true).run Tryz.prog w = .ok (.tuple #[.string { data := #[] }, .bool false]) w) ∧
    (∀ (x : Value) (w : World), (Instr.typeAssert (.iface 101 x) 48 104 true).run Tryz.prog w = .ok (.tuple #[.slice none 0 0, .bool false]) w) ∧
    (∀ (x : Value) (w : World), (Instr.typeAssert (.iface 101 x) 48 106 true).run Tryz.prog w = .ok (.tuple #[.slice none 0 0, .bool false]) w) :=
  ⟨fun x w => ta_miss w Tryz.underlying100 rfl Tryz.zeroValue100 (by decide) x,
   fun x w => ta_hit w Tryz.underlying101 rfl x,
   fun x w => ta_miss w Tryz.underlying102 rfl Tryz.zeroValue102 (by decide) x,
   fun x w => ta_miss w Tryz.underlying64 rfl Tryz.zeroValue64 (by decide) x,
   fun x w => ta_miss w Tryz.underlying104 rfl Tryz.zeroValue104 (by decide) x,
   fun x w => ta_miss w Tryz.underlying106 rfl Tryz.zeroValue106 (by decide) x⟩
theorem tas_Number :
    (∀ (x : Value) (w : World), (Instr.typeAssert (.iface 102 x) 48 100 true).run Tryz.prog w = .ok (.tuple #[.agg #[], .bool false]) w) ∧
    (∀ (x : Value) (w : World), (Instr.typeAssert (.iface 102 x) 48 101 true).run Tryz.prog w = .ok (.tuple #[.bool false, .bool false]) w) ∧
    (∀ (x : Value) (w : World), (Instr.typeAssert (.iface 102 x) 48 102 true).run Tryz.prog w = .ok (.tuple #[x, .bool true]) w) ∧
    (∀ (x : Value) (w : World), (Instr.typeAssert (.iface 102 x) 48 64 true).run Tryz.prog w = .ok (.tuple #[.string { data := #[] }, .bool false]) w) ∧
    (∀ (x : Value) (w : World), (Instr.typeAssert (.iface 102 x) 48 104 true).run Tryz.prog w = .ok (.tuple #[.slice none 0 0, .bool false]) w) ∧
    (∀ (x : Value) (w : World), (Instr.typeAssert (.iface 102 x) 48 106 true).run Tryz.prog w = .ok (.tuple #[.slice none 0 0, .bool false]) w) :=
  ⟨fun x w => ta_miss w Tryz.underlying100 rfl Tryz.zeroValue100 (by decide) x,
   fun x w => ta_miss w Tryz.underlying101 rfl Tryz.zeroValue101 (by decide) x,
   fun x w => ta_hit w Tryz.underlying102 rfl x,
   fun x w => ta_miss w Tryz.underlying64 rfl Tryz.zeroValue64 (by decide) x,
   fun x w => ta_miss w Tryz.underlying104 rfl Tryz.zeroValue104 (by decide) x,
   fun x w => ta_miss w Tryz.underlying106 rfl Tryz.zeroValue106 (by decide) x⟩
theorem tas_Text :
    (∀ (x : Value) (w : World), (Instr.typeAssert (.iface 64 x) 48 100 true).run Tryz.prog w = .ok (.tuple #[.agg #[], .bool false]) w) ∧
    (∀ (x : Value) (w : World), (Instr.typeAssert (.iface 64 x) 48 101 true).run Tryz.prog w = .ok (.tuple #[.bool false, .bool false]) w) ∧
    (∀ (x : Value) (w : World), (Instr.typeAssert (.iface 64 x) 48 102 true).run Tryz.prog w = .ok (.tuple #[.int .i64 0, .bool false]) w) ∧
    (∀ (x : Value) (w : World), (Instr.typeAssert (.iface 64 x) 48 64 true).run Tryz.prog w = .ok (.tuple #[x, .bool true]) w) ∧
    (∀ (x : Value) (w : World), (Instr.typeAssert (.iface 64 x) 48 104 true).run Tryz.prog w = .ok (.tuple #[.slice none 0 0, .bool false]) w) ∧
    (∀ (x : Value) (w : World), (Instr.typeAssert (.iface 64 x) 48 106 true).run Tryz.prog w = .ok (.tuple #[.slice none 0 0, .bool false]) w) :=
  ⟨fun x w => ta_miss w Tryz.underlying100 rfl Tryz.zeroValue100 (by decide) x,
   fun x w => ta_miss w Tryz.underlying101 rfl Tryz.zeroValue101 (by decide) x,
   fun x w => ta_miss w Tryz.underlying102 rfl Tryz.zeroValue102 (by decide) x,
   fun x w => ta_hit w Tryz.underlying64 rfl x,
   fun x w => ta_miss w Tryz.underlying104 rfl Tryz.zeroValue104 (by decide) x,
   fun x w => ta_miss w Tryz.underlying106 rfl Tryz.zeroValue106 (by decide) x⟩
theorem tas_List :
    (∀ (x : Value) (w : World), (Instr.typeAssert (.iface 104 x) 48 100 true).run Tryz.prog w = .ok (.tuple #[.agg #[], .bool false]) w) ∧
    (∀ (x : Value) (w : World), (Instr.typeAssert (.iface 104 x) 48 101 true).run Tryz.prog w = .ok (.tuple #[.bool false, .bool false]) w) ∧
    (∀ (x : Value) (w : World), (Instr.typeAssert (.iface 104 x) 48 102 true).run Tryz.prog w = .ok (.tuple #[.int .i64 0, .bool false]) w) ∧
    (∀ (x : Value) (w : World), (Instr.typeAssert (.iface 104 x) 48 64 true).run Tryz.prog w = .ok (.tuple #[.string { data := #[] }, .bool false]) w) ∧
    (∀ (x : Value) (w : World), (Instr.typeAssert (.iface 104 x) 48 104 true).run Tryz.prog w = .ok (.tuple #[x, .bool true]) w) ∧
    (∀ (x : Value) (w : World), (Instr.typeAssert (.iface 104 x) 48 106 true).run Tryz.prog w = .ok (.tuple #[.slice none 0 0, .bool false]) w) :=
  ⟨fun x w => ta_miss w Tryz.underlying100 rfl Tryz.zeroValue100 (by decide) x,
   fun x w => ta_miss w Tryz.underlying101 rfl Tryz.zeroValue101 (by decide) x,
   fun x w => ta_miss w Tryz.underlying102 rfl Tryz.zeroValue102 (by decide) x,
   fun x w => ta_miss w Tryz.underlying64 rfl Tryz.zeroValue64 (by decide) x,
   fun x w => ta_hit w Tryz.underlying104 rfl x,
   fun x w => ta_miss w Tryz.underlying106 rfl Tryz.zeroValue106 (by decide) x⟩
theorem tas_Object :
    (∀ (x : Value) (w : World), (Instr.typeAssert (.iface 106 x) 48 100 true).run Tryz.prog w = .ok (.tuple #[.agg #[], .bool false]) w) ∧
    (∀ (x : Value) (w : World), (Instr.typeAssert (.iface 106 x) 48 101 true).run Tryz.prog w = .ok (.tuple #[.bool false, .bool false]) w) ∧
    (∀ (x : Value) (w : World), (Instr.typeAssert (.iface 106 x) 48 102 true).run Tryz.prog w = .ok (.tuple #[.int .i64 0, .bool false]) w) ∧
    (∀ (x : Value) (w : World), (Instr.typeAssert (.iface 106 x) 48 64 true).run Tryz.prog w = .ok (.tuple #[.string { data := #[] }, .bool false]) w) ∧
    (∀ (x : Value) (w : World), (Instr.typeAssert (.iface 106 x) 48 104 true).run Tryz.prog w = .ok (.tuple #[.slice none 0 0, .bool false]) w) ∧
    (∀ (x : Value) (w : World), (Instr.typeAssert (.iface 106 x) 48 106 true).run Tryz.prog w = .ok (.tuple #[x, .bool true]) w) :=
  ⟨fun x w => ta_miss w Tryz.underlying100 rfl Tryz.zeroValue100 (by decide) x,
   fun x w => ta_miss w Tryz.underlying101 rfl Tryz.zeroValue101 (by decide) x,
   fun x w => ta_miss w Tryz.underlying102 rfl Tryz.zeroValue102 (by decide) x,
   fun x w => ta_miss w Tryz.underlying64 rfl Tryz.zeroValue64 (by decide) x,
   fun x w => ta_miss w Tryz.underlying104 rfl Tryz.zeroValue104 (by decide) x,
   fun x w => ta_hit w Tryz.underlying106 rfl x⟩
end Go.Proofs.YtmleekpghdfdgaaGreatDoor
