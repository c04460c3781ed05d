/- Of which kind a value is: the type tests over this translation. -/
import Derived.Test.YtjcdklbimaclkaaDoorRows
import Derived.WalkKit
namespace Go.Proofs.YtjcdklbimaclkaaDoor
open Go.RowKit
set_option linter.unusedVariables false
set_option linter.unusedSimpArgs false
theorem ta_hit {P : Program} {T xT : TypeId} {d : TypeDesc} (w : World) (hu : P.underlying T = some d) (hd : (match d with | .interface _ => false | _ => true) = true) (v : Value) :
    (Instr.typeAssert (.iface T v) xT T true).run P w = .ok (.tuple #[v, .bool true]) w := by
  unfold Instr.typeAssert
  simp only [Sem.run_bind, run_underlying hu, Result.andThen]
  cases d <;> simp_all [Sem.run_pure]
theorem ta_miss {P : Program} {T xT t : TypeId} {d : TypeDesc} {z : Value} (w : World) (hu : P.underlying T = some d) (hd : (match d with | .interface _ => false | _ => true) = true) (hz : ∀ w, (zeroValue T).run P w = .ok z w) (h : t ≠ T) (v : Value) :
    (Instr.typeAssert (.iface t v) xT T true).run P w = .ok (.tuple #[z, .bool false]) w := by
  unfold Instr.typeAssert
  simp only [Sem.run_bind, run_underlying hu, Result.andThen]
  cases d <;> simp_all [Sem.run_pure, Sem.run_bind, Result.andThen]
theorem tas_Null :
    (∀ (x : Value) (w : World), (Instr.typeAssert (.iface 58 x) 31 58 true).run Tryd.prog w = .ok (.tuple #[x, .bool true]) w) ∧
    (∀ (x : Value) (w : World), (Instr.typeAssert (.iface 58 x) 31 60 true).run Tryd.prog w = .ok (.tuple #[.bool false, .bool false]) w) ∧
    (∀ (x : Value) (w : World), (Instr.typeAssert (.iface 58 x) 31 70 true).run Tryd.prog w = .ok (.tuple #[.int .i64 0, .bool false]) w) ∧
    (∀ (x : Value) (w : World), (Instr.typeAssert (.iface 58 x) 31 62 true).run Tryd.prog w = .ok (.tuple #[.string { data := #[] }, .bool false]) w) ∧
    (∀ (x : Value) (w : World), (Instr.typeAssert (.iface 58 x) 31 66 true).run Tryd.prog w = .ok (.tuple #[.slice none 0 0, .bool false]) w) ∧
    (∀ (x : Value) (w : World), (Instr.typeAssert (.iface 58 x) 31 36 true).run Tryd.prog w = .ok (.tuple #[.slice none 0 0, .bool false]) w) :=
  ⟨fun x w => ta_hit w Tryd.underlying58 rfl x,
   fun x w => ta_miss w Tryd.underlying60 rfl Tryd.zeroValue60 (by decide) x,
   fun x w => ta_miss w Tryd.underlying70 rfl Tryd.zeroValue70 (by decide) x,
   fun x w => ta_miss w Tryd.underlying62 rfl Tryd.zeroValue62 (by decide) x,
   fun x w => ta_miss w Tryd.underlying66 rfl Tryd.zeroValue66 (by decide) x,
   fun x w => ta_miss w Tryd.underlying36 rfl Tryd.zeroValue36 (by decide) x⟩
theorem tas_Bool :
    (∀ (x : Value) (w : World), (Instr.typeAssert (.iface 60 x) 31 58 true).run Tryd.prog w = .ok (.tuple #[.agg #[], .bool false]) w) ∧
    (∀ (x : Value) (w : World), (Instr.typeAssert (.iface 60 x) 31 60 true).run Tryd.prog w = .ok (.tuple #[x, .bool true]) w) ∧
    (∀ (x : Value) (w : World), (Instr.typeAssert (.iface 60 x) 31 70 true).run Tryd.prog w = .ok (.tuple #[.int .i64 0, .bool false]) w) ∧
    (∀ (x : Value) (w : World), (Instr.typeAssert (.iface 60 x) 31 62 true).run Tryd.prog w = .ok (.tuple #[.string { data := #[] }, .bool false]) w) ∧
    (∀ (x : Value) (w : World), (Instr.typeAssert (.iface 60 x) 31 66 true).run Tryd.prog w = .ok (.tuple #[.slice none 0 0, .bool false]) w) ∧
    (∀ (x : Value) (w : World), (Instr.typeAssert (.iface 60 x) 31 36 true).run Tryd.prog w = .ok (.tuple #[.slice none 0 0, .bool false]) w) :=
  ⟨fun x w => ta_miss w Tryd.underlying58 rfl Tryd.zeroValue58 (by decide) x,
   fun x w => ta_hit w Tryd.underlying60 rfl x,
   fun x w => ta_miss w Tryd.underlying70 rfl Tryd.zeroValue70 (by decide) x,
   fun x w => ta_miss w Tryd.underlying62 rfl Tryd.zeroValue62 (by decide) x,
   fun x w => ta_miss w Tryd.underlying66 rfl Tryd.zeroValue66 (by decide) x,
   fun x w => ta_miss w Tryd.underlying36 rfl Tryd.zeroValue36 (by decide) x⟩
theorem tas_Number :
    (∀ (x : Value) (w : World), (Instr.typeAssert (.iface 70 x) 31 58 true).run Tryd.prog w = .ok (.tuple #[.agg #[], .bool false]) w) ∧
    (∀ (x : Value) (w : World), (Instr.typeAssert (.iface 70 x) 31 60 true).run Tryd.prog w = .ok (.tuple #[.bool false, .bool false]) w) ∧
    (∀ (x : Value) (w : World), (Instr.typeAssert (.iface 70 x) 31 70 true).run Tryd.prog w = .ok (.tuple #[x, .bool true]) w) ∧
    (∀ (x : Value) (w : World), (Instr.typeAssert (.iface 70 x) 31 62 true).run Tryd.prog w = .ok (.tuple #[.string { data := #[] }, .bool false]) w) ∧
    (∀ (x : Value) (w : World), (Instr.typeAssert (.iface 70 x) 31 66 true).run Tryd.prog w = .ok (.tuple #[.slice none 0 0, .bool false]) w) ∧
    (∀ (x : Value) (w : World), (Instr.typeAssert (.iface 70 x) 31 36 true).run Tryd.prog w = .ok (.tuple #[.slice none 0 0, .bool false]) w) :=
  ⟨fun x w => ta_miss w Tryd.underlying58 rfl Tryd.zeroValue58 (by decide) x,
   fun x w => ta_miss w Tryd.underlying60 rfl Tryd.zeroValue60 (by decide) x,
   fun x w => ta_hit w Tryd.underlying70 rfl x,
   fun x w => ta_miss w Tryd.underlying62 rfl Tryd.zeroValue62 (by decide) x,
   fun x w => ta_miss w Tryd.underlying66 rfl Tryd.zeroValue66 (by decide) x,
   fun x w => ta_miss w Tryd.underlying36 rfl Tryd.zeroValue36 (by decide) x⟩
theorem tas_Text :
    (∀ (x : Value) (w : World), (Instr.typeAssert (.iface 62 x) 31 58 true).run Tryd.prog w = .ok (.tuple #[.agg #[], .bool false]) w) ∧
    (∀ (x : Value) (w : World), (Instr.typeAssert (.iface 62 x) 31 60 true).run Tryd.prog w = .ok (.tuple #[.bool false, .bool false]) w) ∧
    (∀ (x : Value) (w : World), (Instr.typeAssert (.iface 62 x) 31 70 true).run Tryd.prog w = .ok (.tuple #[.int .i64 0, .bool false]) w) ∧
    (∀ (x : Value) (w : World), (Instr.typeAssert (.iface 62 x) 31 62 true).run Tryd.prog w = .ok (.tuple #[x, .bool true]) w) ∧
    (∀ (x : Value) (w : World), (Instr.typeAssert (.iface 62 x) 31 66 true).run Tryd.prog w = .ok (.tuple #[.slice none 0 0, .bool false]) w) ∧
    (∀ (x : Value) (w : World), (Instr.typeAssert (.iface 62 x) 31 36 true).run Tryd.prog w = .ok (.tuple #[.slice none 0 0, .bool false]) w) :=
  ⟨fun x w => ta_miss w Tryd.underlying58 rfl Tryd.zeroValue58 (by decide) x,
   fun x w => ta_miss w Tryd.underlying60 rfl Tryd.zeroValue60 (by decide) x,
   fun x w => ta_miss w Tryd.underlying70 rfl Tryd.zeroValue70 (by decide) x,
   fun x w => ta_hit w Tryd.underlying62 rfl x,
   fun x w => ta_miss w Tryd.underlying66 rfl Tryd.zeroValue66 (by decide) x,
   fun x w => ta_miss w Tryd.underlying36 rfl Tryd.zeroValue36 (by decide) x⟩
theorem tas_List :
    (∀ (x : Value) (w : World), (Instr.typeAssert (.iface 66 x) 31 58 true).run Tryd.prog w = .ok (.tuple #[.agg #[], .bool false]) w) ∧
    (∀ (x : Value) (w : World), (Instr.typeAssert (.iface 66 x) 31 60 true).run Tryd.prog w = .ok (.tuple #[.bool false, .bool false]) w) ∧
    (∀ (x : Value) (w : World), (Instr.typeAssert (.iface 66 x) 31 70 true).run Tryd.prog w = .ok (.tuple #[.int .i64 0, .bool false]) w) ∧
    (∀ (x : Value) (w : World), (Instr.typeAssert (.iface 66 x) 31 62 true).run Tryd.prog w = .ok (.tuple #[.string { data := #[] }, .bool false]) w) ∧
    (∀ (x : Value) (w : World), (Instr.typeAssert (.iface 66 x) 31 66 true).run Tryd.prog w = .ok (.tuple #[x, .bool true]) w) ∧
    (∀ (x : Value) (w : World), (Instr.typeAssert (.iface 66 x) 31 36 true).run Tryd.prog w = .ok (.tuple #[.slice none 0 0, .bool false]) w) :=
  ⟨fun x w => ta_miss w Tryd.underlying58 rfl Tryd.zeroValue58 (by decide) x,
   fun x w => ta_miss w Tryd.underlying60 rfl Tryd.zeroValue60 (by decide) x,
   fun x w => ta_miss w Tryd.underlying70 rfl Tryd.zeroValue70 (by decide) x,
   fun x w => ta_miss w Tryd.underlying62 rfl Tryd.zeroValue62 (by decide) x,
   fun x w => ta_hit w Tryd.underlying66 rfl x,
   fun x w => ta_miss w Tryd.underlying36 rfl Tryd.zeroValue36 (by decide) x⟩
theorem tas_Object :
    (∀ (x : Value) (w : World), (Instr.typeAssert (.iface 36 x) 31 58 true).run Tryd.prog w = .ok (.tuple #[.agg #[], .bool false]) w) ∧
    (∀ (x : Value) (w : World), (Instr.typeAssert (.iface 36 x) 31 60 true).run Tryd.prog w = .ok (.tuple #[.bool false, .bool false]) w) ∧
    (∀ (x : Value) (w : World), (Instr.typeAssert (.iface 36 x) 31 70 true).run Tryd.prog w = .ok (.tuple #[.int .i64 0, .bool false]) w) ∧
    (∀ (x : Value) (w : World), (Instr.typeAssert (.iface 36 x) 31 62 true).run Tryd.prog w = .ok (.tuple #[.string { data := #[] }, .bool false]) w) ∧
    (∀ (x : Value) (w : World), (Instr.typeAssert (.iface 36 x) 31 66 true).run Tryd.prog w = .ok (.tuple #[.slice none 0 0, .bool false]) w) ∧
    (∀ (x : Value) (w : World), (Instr.typeAssert (.iface 36 x) 31 36 true).run Tryd.prog w = .ok (.tuple #[x, .bool true]) w) :=
  ⟨fun x w => ta_miss w Tryd.underlying58 rfl Tryd.zeroValue58 (by decide) x,
   fun x w => ta_miss w Tryd.underlying60 rfl Tryd.zeroValue60 (by decide) x,
   fun x w => ta_miss w Tryd.underlying70 rfl Tryd.zeroValue70 (by decide) x,
   fun x w => ta_miss w Tryd.underlying62 rfl Tryd.zeroValue62 (by decide) x,
   fun x w => ta_miss w Tryd.underlying66 rfl Tryd.zeroValue66 (by decide) x,
   fun x w => ta_hit w Tryd.underlying36 rfl x⟩
end Go.Proofs.YtjcdklbimaclkaaDoor
