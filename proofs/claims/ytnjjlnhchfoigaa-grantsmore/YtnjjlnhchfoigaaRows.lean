/-
  No cell of these rows narrows 'for every input' (looked for: loops, veiled, ifaces, maps, wideKeys, modest, calm, conditions, laid).
  DERIVED. THE GIVEN ROWS OF THIS SEAT. 4 by the template 'for every input the law returns true; each argument reads behind the call as it read before'; 0 by the template 'total and deterministic' (their statements: YtnjjlnhchfoigaaTotals.lean).
  GIVEN WITH THE SEED: the statements are not yours to turn. If you find one false, say at which input.
  Laid BY PROGRAM, IN A SANDBOX (cutbox-rows.mjs): the forced cells as the released guide's own fill.sh prints them over the translation 2af89c7804ed2eb7… (all of the seat's roots in one cut). By AI agents, Wed Nov 11 2026. No macro, syntax, notation, axiom, sorry.
-/
import Derived.Test.YtnjjlnhchfoigaaChecked
import GoSem.Claim
import GoSem.ClaimJoined
import GoSem.ClaimMapViews
import Derived.JoinedTies
import Derived.KernelRfl
namespace Go.Proofs.Ytnjjlnhchfoigaa
/- THE CELL 'sum', in the pinned program and in every row, IS THE sha256 OF THE DUMP (.gsa) THAT YtnjjlnhchfoigaaProg.lean LOADS. Nothing in Lean hashes anything: it is a label: what it is worth is what the hold of that sum in a sandbox is worth. -/
noncomputable def Try.pinned : Pinned := { name := "ytnjjlnhchfoigaa", sum := "2af89c7804ed2eb72dbf721ff945240714aa638f526c9f638178801ce7c5d762", checked := Try.checked }
namespace Rows
def none {H : Type} : Left H := { results := [], args := [] }

/-- 'seneschallaw.GrantsChecks': WHATEVER THE INPUT: true; the input reads as it did. -/
def grantsChecksSpec : ChangeSpec := { name := "grantsChecks", fn := fun _ => fun
  | [d1, d2] => { results := [.lit (.bool true)], args := [d1, d2] }
  | _ => none }
def grantsChecksRow : OpenClaim := { program := "ytnjjlnhchfoigaa", sum := "2af89c7804ed2eb72dbf721ff945240714aa638f526c9f638178801ce7c5d762", func := "seneschal/seneschallaw.GrantsChecks", spec := "grantsChecks", inPlace := ["internal/bytealg.IndexByteString", "internal/bytealg.IndexString"], unfollowed := true, recurses := true, named := ["internal/bytealg.MaxLen"], apart := false }
def GrantsChecksSaid : Prop := grantsChecksRow.holds Try.pinned (OpenSpec.ofChange grantsChecksSpec)

/-- ITS FALSE NEIGHBOUR: 'it returns false'. Refute it at one input. -/
def grantsChecksWrong : ChangeSpec := { name := "grantsChecks", fn := fun _ => fun
  | [d1, d2] => { results := [.lit (.bool false)], args := [d1, d2] }
  | _ => none }
def GrantsChecksWrongFalsely : Prop := grantsChecksRow.holds Try.pinned (OpenSpec.ofChange grantsChecksWrong)

/-- 'seneschallaw.GrantsSays': WHATEVER THE INPUT: true; the input reads as it did. -/
def grantsSaysSpec : ChangeSpec := { name := "grantsSays", fn := fun _ => fun
  | [d1, d2, d3, d4] => { results := [.lit (.bool true)], args := [d1, d2, d3, d4] }
  | _ => none }
def grantsSaysRow : OpenClaim := { program := "ytnjjlnhchfoigaa", sum := "2af89c7804ed2eb72dbf721ff945240714aa638f526c9f638178801ce7c5d762", func := "seneschal/seneschallaw.GrantsSays", spec := "grantsSays", inPlace := ["internal/bytealg.IndexByteString", "internal/bytealg.IndexString"], unfollowed := true, recurses := true, named := ["internal/bytealg.MaxLen"], apart := false }
def GrantsSaysSaid : Prop := grantsSaysRow.holds Try.pinned (OpenSpec.ofChange grantsSaysSpec)

/-- ITS FALSE NEIGHBOUR: 'it returns false'. Refute it at one input. -/
def grantsSaysWrong : ChangeSpec := { name := "grantsSays", fn := fun _ => fun
  | [d1, d2, d3, d4] => { results := [.lit (.bool false)], args := [d1, d2, d3, d4] }
  | _ => none }
def GrantsSaysWrongFalsely : Prop := grantsSaysRow.holds Try.pinned (OpenSpec.ofChange grantsSaysWrong)

/-- 'seneschalkeep.GrantsMore': WHATEVER THE INPUT: true; the input reads as it did. -/
def grantsMoreSpec : ChangeSpec := { name := "grantsMore", fn := fun _ => fun
  | [d1, d2, d3, d4, d5] => { results := [.lit (.bool true)], args := [d1, d2, d3, d4, d5] }
  | _ => none }
def grantsMoreRow : OpenClaim := { program := "ytnjjlnhchfoigaa", sum := "2af89c7804ed2eb72dbf721ff945240714aa638f526c9f638178801ce7c5d762", func := "seneschal/seneschalkeep.GrantsMore", spec := "grantsMore", inPlace := ["internal/bytealg.IndexByteString"], unfollowed := true, recurses := true, apart := false }
def GrantsMoreSaid : Prop := grantsMoreRow.holds Try.pinned (OpenSpec.ofChange grantsMoreSpec)

/-- ITS FALSE NEIGHBOUR: 'it returns false'. Refute it at one input. -/
def grantsMoreWrong : ChangeSpec := { name := "grantsMore", fn := fun _ => fun
  | [d1, d2, d3, d4, d5] => { results := [.lit (.bool false)], args := [d1, d2, d3, d4, d5] }
  | _ => none }
def GrantsMoreWrongFalsely : Prop := grantsMoreRow.holds Try.pinned (OpenSpec.ofChange grantsMoreWrong)

/-- 'seneschalkeep.GrantsWide': WHATEVER THE INPUT: true; the input reads as it did. -/
def grantsWideSpec : ChangeSpec := { name := "grantsWide", fn := fun _ => fun
  | [d1, d2, d3] => { results := [.lit (.bool true)], args := [d1, d2, d3] }
  | _ => none }
def grantsWideRow : OpenClaim := { program := "ytnjjlnhchfoigaa", sum := "2af89c7804ed2eb72dbf721ff945240714aa638f526c9f638178801ce7c5d762", func := "seneschal/seneschalkeep.GrantsWide", spec := "grantsWide", inPlace := ["internal/bytealg.IndexByteString"], unfollowed := true, recurses := true, apart := false }
def GrantsWideSaid : Prop := grantsWideRow.holds Try.pinned (OpenSpec.ofChange grantsWideSpec)

/-- ITS FALSE NEIGHBOUR: 'it returns false'. Refute it at one input. -/
def grantsWideWrong : ChangeSpec := { name := "grantsWide", fn := fun _ => fun
  | [d1, d2, d3] => { results := [.lit (.bool false)], args := [d1, d2, d3] }
  | _ => none }
def GrantsWideWrongFalsely : Prop := grantsWideRow.holds Try.pinned (OpenSpec.ofChange grantsWideWrong)

/- THE SECOND FORM. 'bulk': how many values and letters a reading holds, each counted each time it is reached (what is shared counts as often as it is met; a slice's spare places count too). A statement '..UptoSaid' is the law's where the arguments, and the package variables that the reading takes, are together of bulk at most 1048576: NARROWER than '..Said'. Prove '..Said' where nothing that the law and all that it calls make is longer than what came in: it says more and counts as full. Else prove '..UptoSaid'. A law counts once. -/
mutual
def uptoBulk {H : Type} : DataW H → Nat
  | .lit (.string bytes) => bytes.length + 1
  | .lit _ => 1
  | .nil => 1
  | .ptr d => uptoBulk d + 1
  | .slice elems spare => uptoBulkAll elems + uptoBulkAll spare + 1
  | .agg parts => uptoBulkAll parts + 1
  | .iface _ d => uptoBulk d + 1
  | .map entries => uptoBulkEntries entries + 1
  | .held _ => 1
def uptoBulkAll {H : Type} : List (DataW H) → Nat
  | [] => 0
  | d :: r => uptoBulk d + uptoBulkAll r
def uptoBulkEntries {H : Type} : List (Lit × DataW H) → Nat
  | [] => 0
  | x :: r => uptoBulkEntry x + uptoBulkEntries r
def uptoBulkEntry {H : Type} : Lit × DataW H → Nat
  | (.string bytes, d) => bytes.length + uptoBulk d + 1
  | (_, d) => uptoBulk d + 1
 end
def uptoSmall : (H : Type) → List (DataW H) → Bool := fun _ ds => decide (uptoBulkAll ds ≤ 1048576)
def OpenSpec.upto (s : _root_.Go.ChangeSpec) : _root_.Go.OpenSpec := { _root_.Go.OpenSpec.ofChange s with cond := some uptoSmall }

/-- 'seneschallaw.GrantsChecks', WHERE WHAT IT READS IS OF BULK AT MOST 1048576: true; the input reads as it did. -/
def grantsChecksUptoRow : OpenClaim := { program := "ytnjjlnhchfoigaa", sum := "2af89c7804ed2eb72dbf721ff945240714aa638f526c9f638178801ce7c5d762", func := "seneschal/seneschallaw.GrantsChecks", spec := "grantsChecks", inPlace := ["internal/bytealg.IndexByteString", "internal/bytealg.IndexString"], unfollowed := true, recurses := true, named := ["internal/bytealg.MaxLen"], apart := false, narrowed := true }
def GrantsChecksUptoSaid : Prop := grantsChecksUptoRow.holds Try.pinned (OpenSpec.upto grantsChecksSpec)

/-- 'seneschallaw.GrantsSays', WHERE WHAT IT READS IS OF BULK AT MOST 1048576: true; the input reads as it did. -/
def grantsSaysUptoRow : OpenClaim := { program := "ytnjjlnhchfoigaa", sum := "2af89c7804ed2eb72dbf721ff945240714aa638f526c9f638178801ce7c5d762", func := "seneschal/seneschallaw.GrantsSays", spec := "grantsSays", inPlace := ["internal/bytealg.IndexByteString", "internal/bytealg.IndexString"], unfollowed := true, recurses := true, named := ["internal/bytealg.MaxLen"], apart := false, narrowed := true }
def GrantsSaysUptoSaid : Prop := grantsSaysUptoRow.holds Try.pinned (OpenSpec.upto grantsSaysSpec)

/-- 'seneschalkeep.GrantsMore', WHERE WHAT IT READS IS OF BULK AT MOST 1048576: true; the input reads as it did. -/
def grantsMoreUptoRow : OpenClaim := { program := "ytnjjlnhchfoigaa", sum := "2af89c7804ed2eb72dbf721ff945240714aa638f526c9f638178801ce7c5d762", func := "seneschal/seneschalkeep.GrantsMore", spec := "grantsMore", inPlace := ["internal/bytealg.IndexByteString"], unfollowed := true, recurses := true, apart := false, narrowed := true }
def GrantsMoreUptoSaid : Prop := grantsMoreUptoRow.holds Try.pinned (OpenSpec.upto grantsMoreSpec)

/-- 'seneschalkeep.GrantsWide', WHERE WHAT IT READS IS OF BULK AT MOST 1048576: true; the input reads as it did. -/
def grantsWideUptoRow : OpenClaim := { program := "ytnjjlnhchfoigaa", sum := "2af89c7804ed2eb72dbf721ff945240714aa638f526c9f638178801ce7c5d762", func := "seneschal/seneschalkeep.GrantsWide", spec := "grantsWide", inPlace := ["internal/bytealg.IndexByteString"], unfollowed := true, recurses := true, apart := false, narrowed := true }
def GrantsWideUptoSaid : Prop := grantsWideUptoRow.holds Try.pinned (OpenSpec.upto grantsWideSpec)

end Rows
end Go.Proofs.Ytnjjlnhchfoigaa
