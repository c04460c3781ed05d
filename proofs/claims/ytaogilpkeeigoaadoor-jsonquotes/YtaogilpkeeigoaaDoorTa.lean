/- Of which kind a value is: the type tests over this translation. -/
import Derived.Test.YtaogilpkeeigoaaDoorRows
import Derived.WalkKit
namespace Go.Proofs.YtaogilpkeeigoaaDoor
open Go.RowKit
set_option linter.unusedVariables false
set_option linter.unusedSimpArgs false
theorem ta_hit {P : Program} {T xT : TypeId} {d : TypeDesc} (w : World) (hu : P.underlying T = some d) (hd : (match d with | .interface _ => false | _ => true) = true) (v : Value) :
    (Instr.typeAssert (.iface T v) xT T true).run P w = .ok (.tuple #[v, .bool true]) w := by
  unfold Instr.typeAssert
  simp only [Sem.run_bind, run_underlying hu, Result.andThen]
  cases d <;> simp_all [Sem.run_pure]
theorem ta_miss {P : Program} {T xT t : TypeId} {d : TypeDesc} {z : Value} (w : World) (hu : P.underlying T = some d) (hd : (match d with | .interface _ => false | _ => true) = true) (hz : ∀ w, (zeroValue T).run P w = .ok z w) (h : t ≠ T) (v : Value) :
    (Instr.typeAssert (.iface t v) xT T true).run P w = .ok (.tuple #[z, .bool false]) w := by
  unfold Instr.typeAssert
  simp only [Sem.run_bind, run_underlying hu, Result.andThen]
  cases d <;> simp_all [Sem.run_pure, Sem.run_bind, Result.andThen]
theorem tas_Null :
    (∀ (x : Value) (w : World), (Instr.typeAssert (.iface 61 x) 36 61 true).run Tryd.prog w = .ok (.tuple #[x, .bool true]) w) ∧
    (∀ (x : Value) (w : World), (Instr.typeAssert (.iface 61 x) 36 62 true).run Tryd.prog w = .ok (.tuple #[.bool false, .bool false]) w) ∧
    (∀ (x : Value) (w : World), (Instr.typeAssert (.iface 61 x) 36 63 true).run Tryd.prog w = .ok (.tuple #[.int .i64 0, .bool false]) w) ∧
    (∀ (x : Value) (w : World), (Instr.typeAssert (.iface 61 x) 36 46 true).run Tryd.prog w = .ok (.tuple #[.string { data := #[] }, .bool false]) w) ∧
    (∀ (x : Value) (w : World), (Instr.typeAssert (.iface 61 x) 36 54 true).run Tryd.prog w = .ok (.tuple #[.slice none 0 0, .bool false]) w) ∧
    (∀ (x : Value) (w : World), (Instr.typeAssert (.iface 61 x) 36 57 true).run Tryd.prog w = .ok (.tuple #[.slice none 0 0, .bool false]) w) :=
  ⟨fun x w => ta_hit w Tryd.underlying61 rfl x,
   fun x w => ta_miss w Tryd.underlying62 rfl Tryd.zeroValue62 (by decide) x,
   fun x w => ta_miss w Tryd.underlying63 rfl Tryd.zeroValue63 (by decide) x,
   fun x w => ta_miss w Tryd.underlying46 rfl Tryd.zeroValue46 (by decide) x,
   fun x w => ta_miss w Tryd.underlying54 rfl Tryd.zeroValue54 (by decide) x,
   fun x w => ta_miss w Tryd.underlying57 rfl Tryd.zeroValue57 (by decide) x⟩
theorem tas_Bool :
    (∀ (x : Value) (w : World), (Instr.typeAssert (.iface 62 x) 36 61 true).run Tryd.prog w = .ok (.tuple #[.agg #[], .bool false]) w) ∧
    (∀ (x : Value) (w : World), (Instr.typeAssert (.iface 62 x) 36 62 true).run Tryd.prog w = .ok (.tuple #[x, .bool true]) w) ∧
    (∀ (x : Value) (w : World), (Instr.typeAssert (.iface 62 x) 36 63 true).run Tryd.prog w = .ok (.tuple #[.int .i64 0, .bool false]) w) ∧
    (∀ (x : Value) (w : World), (Instr.typeAssert (.iface 62 x) 36 46 true).run Tryd.prog w = .ok (.tuple #[.string { data := #[] }, .bool false]) w) ∧
    (∀ (x : Value) (w : World), (Instr.typeAssert (.iface 62 x) 36 54 true).run Tryd.prog w = .ok (.tuple #[.slice none 0 0, .bool false]) w) ∧
    (∀ (x : Value) (w : World), (Instr.typeAssert (.iface 62 x) 36 57 true).run Tryd.prog w = .ok (.tuple #[.slice none 0 0, .bool false]) w) :=
  ⟨fun x w => ta_miss w Tryd.underlying61 rfl Tryd.zeroValue61 (by decide) x,
   fun x w => ta_hit w Tryd.underlying62 rfl x,
   fun x w => ta_miss w Tryd.underlying63 rfl Tryd.zeroValue63 (by decide) x,
   fun x w => ta_miss w Tryd.underlying46 rfl Tryd.zeroValue46 (by decide) x,
   fun x w => ta_miss w Tryd.underlying54 rfl Tryd.zeroValue54 (by decide) x,
   fun x w => ta_miss w Tryd.underlying57 rfl Tryd.zeroValue57 (by decide) x⟩
theorem tas_Number :
    (∀ (x : Value) (w : World), (Instr.typeAssert (.iface 63 x) 36 61 true).run Tryd.prog w = .ok (.tuple #[.agg #[], .bool false]) w) ∧
    (∀ (x : Value) (w : World), (Instr.typeAssert (.iface 63 x) 36 62 true).run Tryd.prog w = .ok (.tuple #[.bool false, .bool false]) w) ∧
    (∀ (x : Value) (w : World), (Instr.typeAssert (.iface 63 x) 36 63 true).run Tryd.prog w = .ok (.tuple #[x, .bool true]) w) ∧
    (∀ (x : Value) (w : World), (Instr.typeAssert (.iface 63 x) 36 46 true).run Tryd.prog w = .ok (.tuple #[.string { data := #[] }, .bool false]) w) ∧
    (∀ (x : Value) (w : World), (Instr.typeAssert (.iface 63 x) 36 54 true).run Tryd.prog w = .ok (.tuple #[.slice none 0 0, .bool false]) w) ∧
    (∀ (x : Value) (w : World), (Instr.typeAssert (.iface 63 x) 36 57 true).run Tryd.prog w = .ok (.tuple #[.slice none 0 0, .bool false]) w) :=
  ⟨fun x w => ta_miss w Tryd.underlying61 rfl Tryd.zeroValue61 (by decide) x,
   fun x w => ta_miss w Tryd.underlying62 rfl Tryd.zeroValue62 (by decide) x,
   fun x w => ta_hit w Tryd.underlying63 rfl x,
   fun x w => ta_miss w Tryd.underlying46 rfl Tryd.zeroValue46 (by decide) x,
   fun x w => ta_miss w Tryd.underlying54 rfl Tryd.zeroValue54 (by decide) x,
   fun x w => ta_miss w Tryd.underlying57 rfl Tryd.zeroValue57 (by decide) x⟩
theorem tas_Text :
    (∀ (x : Value) (w : World), (Instr.typeAssert (.iface 46 x) 36 61 true).run Tryd.prog w = .ok (.tuple #[.agg #[], .bool false]) w) ∧
    (∀ (x : Value) (w : World), (Instr.typeAssert (.iface 46 x) 36 62 true).run Tryd.prog w = .ok (.tuple #[.bool false, .bool false]) w) ∧
    (∀ (x : Value) (w : World), (Instr.typeAssert (.iface 46 x) 36 63 true).run Tryd.prog w = .ok (.tuple #[.int .i64 0, .bool false]) w) ∧
    (∀ (x : Value) (w : World), (Instr.typeAssert (.iface 46 x) 36 46 true).run Tryd.prog w = .ok (.tuple #[x, .bool true]) w) ∧
    (∀ (x : Value) (w : World), (Instr.typeAssert (.iface 46 x) 36 54 true).run Tryd.prog w = .ok (.tuple #[.slice none 0 0, .bool false]) w) ∧
    (∀ (x : Value) (w : World), (Instr.typeAssert (.iface 46 x) 36 57 true).run Tryd.prog w = .ok (.tuple #[.slice none 0 0, .bool false]) w) :=
  ⟨fun x w => ta_miss w Tryd.underlying61 rfl Tryd.zeroValue61 (by decide) x,
   fun x w => ta_miss w Tryd.underlying62 rfl Tryd.zeroValue62 (by decide) x,
   fun x w => ta_miss w Tryd.underlying63 rfl Tryd.zeroValue63 (by decide) x,
   fun x w => ta_hit w Tryd.underlying46 rfl x,
   fun x w => ta_miss w Tryd.underlying54 rfl Tryd.zeroValue54 (by decide) x,
   fun x w => ta_miss w Tryd.underlying57 rfl Tryd.zeroValue57 (by decide) x⟩
theorem tas_List :
    (∀ (x : Value) (w : World), (Instr.typeAssert (.iface 54 x) 36 61 true).run Tryd.prog w = .ok (.tuple #[.agg #[], .bool false]) w) ∧
    (∀ (x : Value) (w : World), (Instr.typeAssert (.iface 54 x) 36 62 true).run Tryd.prog w = .ok (.tuple #[.bool false, .bool false]) w) ∧
    (∀ (x : Value) (w : World), (Instr.typeAssert (.iface 54 x) 36 63 true).run Tryd.prog w = .ok (.tuple #[.int .i64 0, .bool false]) w) ∧
    (∀ (x : Value) (w : World), (Instr.typeAssert (.iface 54 x) 36 46 true).run Tryd.prog w = .ok (.tuple #[.string { data := #[] }, .bool false]) w) ∧
    (∀ (x : Value) (w : World), (Instr.typeAssert (.iface 54 x) 36 54 true).run Tryd.prog w = .ok (.tuple #[x, .bool true]) w) ∧
    (∀ (x : Value) (w : World), (Instr.typeAssert (.iface 54 x) 36 57 true).run Tryd.prog w = .ok (.tuple #[.slice none 0 0, .bool false]) w) :=
  ⟨fun x w => ta_miss w Tryd.underlying61 rfl Tryd.zeroValue61 (by decide) x,
   fun x w => ta_miss w Tryd.underlying62 rfl Tryd.zeroValue62 (by decide) x,
   fun x w => ta_miss w Tryd.underlying63 rfl Tryd.zeroValue63 (by decide) x,
   fun x w => ta_miss w Tryd.underlying46 rfl Tryd.zeroValue46 (by decide) x,
   fun x w => ta_hit w Tryd.underlying54 rfl x,
   fun x w => ta_miss w Tryd.underlying57 rfl Tryd.zeroValue57 (by decide) x⟩
theorem tas_Object :
    (∀ (x : Value) (w : World), (Instr.typeAssert (.iface 57 x) 36 61 true).run Tryd.prog w = .ok (.tuple #[.agg #[], .bool false]) w) ∧
    (∀ (x : Value) (w : World), (Instr.typeAssert (.iface 57 x) 36 62 true).run Tryd.prog w = .ok (.tuple #[.bool false, .bool false]) w) ∧
    (∀ (x : Value) (w : World), (Instr.typeAssert (.iface 57 x) 36 63 true).run Tryd.prog w = .ok (.tuple #[.int .i64 0, .bool false]) w) ∧
    (∀ (x : Value) (w : World), (Instr.typeAssert (.iface 57 x) 36 46 true).run Tryd.prog w = .ok (.tuple #[.string { data := #[] }, .bool false]) w) ∧
    (∀ (x : Value) (w : World), (Instr.typeAssert (.iface 57 x) 36 54 true).run Tryd.prog w = .ok (.tuple #[.slice none 0 0, .bool false]) w) ∧
    (∀ (x : Value) (w : World), (Instr.typeAssert (.iface 57 x) 36 57 true).run Tryd.prog w = .ok (.tuple #[x, .bool true]) w) :=
  ⟨fun x w => ta_miss w Tryd.underlying61 rfl Tryd.zeroValue61 (by decide) x,
   fun x w => ta_miss w Tryd.underlying62 rfl Tryd.zeroValue62 (by decide) x,
   fun x w => ta_miss w Tryd.underlying63 rfl Tryd.zeroValue63 (by decide) x,
   fun x w => ta_miss w Tryd.underlying46 rfl Tryd.zeroValue46 (by decide) x,
   fun x w => ta_miss w Tryd.underlying54 rfl Tryd.zeroValue54 (by decide) x,
   fun x w => ta_hit w Tryd.underlying57 rfl x⟩
end Go.Proofs.YtaogilpkeeigoaaDoor
